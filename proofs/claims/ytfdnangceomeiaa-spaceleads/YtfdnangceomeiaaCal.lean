/-
  THE CONTRACTS of Table, Untable, Map, Unmap, Remap.
-/
import Derived.Test.YtfdnangceomeiaaBec
namespace Go.Proofs.Ytfdnangceomeiaa
set_option maxRecDepth 10000
open Go.RowKit
set_option linter.unusedVariables false

theorem M.chg_no {F : Nat → Nat} {x f : Int} {g : Nat → Int × Int} (hf : f ≠ 0) : M.chg F (x, f) g = (f, F) := by
  unfold M.chg; rw [if_neg hf]
theorem M.chg_yes {F : Nat → Nat} {X : Nat} {g : Nat → Int × Int} {v k : Int} (hg : g (F X) = (v, k)) : M.chg F ((X : Int), 0) g = (k, if k = 0 then M.st F X v.toNat else F) := by
  unfold M.chg
  simp only [if_true, Int.toNat_natCast, hg]
  by_cases c : k = 0
  · subst c; simp
  · rw [if_neg c, if_neg c]
theorem laidNew (w : World) (n : Nat) (t : Int) : ∃ W, w.alloc (.cells #[.int .i64 t] 3) = W ∧ Laid W (.slice (some ⟨w.heap.size, 0, none⟩) 1 1) n (M.al n t) ∧ w.grownBy W none :=
  ⟨_, rfl, .inr ⟨w.heap.size, t, rfl, by simp, rfl⟩, gbAlloc _ _ _⟩

set_option maxHeartbeats 1000000 in
theorem table_err (p n : Nat) (dir a x f : Int) (t : Int) (w : World) (hf : (f != 0) = true) (HD : ∀ (w' : World) (v : Value), w.grownBy w' none → Laid w' v n (M.al n t) → Calls Try.prog 38 #[.pointer (some ⟨p, 0, none⟩), .int .i64 dir, .int .i64 a, v] w' fun e w'' => e = .returned (.tuple #[.int .i64 x, .int .i64 f]) ∧ w'.grownBy w'' none) :
    Calls Try.prog 18 #[.pointer (some ⟨p, 0, none⟩), .int .i64 dir, .int .i64 a, .int .i64 t] w fun e w' => e = .returned (.int .i64 f) ∧ w.grownBy w' none := by
  obtain ⟨W0, hW0, L0, g0⟩ := laidNew w n t
  go_enter Try.func18, Try.ntmps18
  go_wp2_with fail
  refine (HD _ _ g0 L0).mono ?_
  rintro e w1 ⟨rfl, g1⟩
  clear hW0
  have G1 := gbTrans g0 g1
  go_wp2
  go_ret
  exact ⟨rfl, G1⟩
set_option maxHeartbeats 1000000 in
theorem table_go (p b n X : Nat) (dir a f : Int) (G : Nat → Nat) (t : Int) (w : World) (HD : ∀ (w' : World) (v : Value), w.grownBy w' none → Laid w' v n (M.al n t) → Calls Try.prog 38 #[.pointer (some ⟨p, 0, none⟩), .int .i64 dir, .int .i64 a, v] w' fun e w'' => e = .returned (.tuple #[.int .i64 X, .int .i64 0]) ∧ w'.grownBy w'' none)
    (HB : ∀ (w' : World) (x : Nat), w.grownBy w' none → Box w' x ⟨true, false, t⟩ → Calls Try.prog 39 #[.pointer (some ⟨p, 0, none⟩), .int .i64 X, fLay x] w' fun e w'' => e = .returned (.int .i64 f) ∧ Mm w'' p b n G ∧ w'.grownBy w'' (some b)) :
    Calls Try.prog 18 #[.pointer (some ⟨p, 0, none⟩), .int .i64 dir, .int .i64 a, .int .i64 t] w fun e w' => e = .returned (.int .i64 f) ∧ Mm w' p b n G ∧ w.grownBy w' (some b) := by
  obtain ⟨W0, hW0, L0, g0⟩ := laidNew w n t
  go_enter Try.func18, Try.ntmps18
  go_wp2_with fail
  refine (HD _ _ g0 L0).mono ?_
  rintro e w1 ⟨rfl, g1⟩
  clear hW0
  have G1 := gbTrans g0 g1
  go_wp2_with fail
  refine (layin_is _ ⟨true, false, t⟩).mono ?_
  rintro e w2 ⟨x, rfl, X2, g2⟩
  have G2 := gbTrans G1 g2
  go_wp2_with fail
  refine (HB _ x G2 X2).mono ?_
  rintro e w3 ⟨rfl, m3, g3⟩
  go_wp2
  go_ret
  exact ⟨rfl, m3, gbTrans (gbAny G2 _) g3⟩
theorem table_is (w : World) (p b n : Nat) (F G : Nat → Nat) (dir a f : Int) (t : Int) (hm : Mm w p b n F) (h : M.chg F (M.dp n dir a (M.al n t)) (M.lay ⟨true, false, t⟩) = (f, G)) :
    Calls Try.prog 18 #[.pointer (some ⟨p, 0, none⟩), .int .i64 dir, .int .i64 a, .int .i64 t] w fun e w' => e = .returned (.int .i64 f) ∧ Mm w' p b n G ∧ w.grownBy w' (some b) := by
  obtain ⟨⟨x, k⟩, hd⟩ : ∃ q, (M.dp n dir a (M.al n t)) = q := ⟨_, rfl⟩
  have HD := fun w' v k l => indir_is w' p b n F dir a _ _ v _ (hm.kept k) l hd
  rw [hd] at h
  by_cases c : k = 0
  · subst c
    obtain ⟨X, rfl, hX⟩ := M.dp_lt hd
    obtain ⟨⟨v, k⟩, hg⟩ : ∃ q, (M.lay ⟨true, false, t⟩) (F X) = q := ⟨_, rfl⟩
    rw [M.chg_yes hg] at h
    simp only [Prod.mk.injEq] at h
    obtain ⟨rfl, hG⟩ := h
    replace hG := hG.symm
    obtain ⟨f, hf⟩ : ∃ f, k = f := ⟨_, rfl⟩
    subst hf
    exact table_go p b n X dir a k G t w HD (fun w' x kk X2 => by
      rw [hG]
      exact become_lay w' p b n X F v k x (hm.kept kk) hX (M.lay_wd hg) (fun w2 k2 => lay1_is w2 (F X) x _ v k (X2.kept k2) hg))
  · rw [M.chg_no c] at h
    simp only [Prod.mk.injEq] at h
    obtain ⟨rfl, rfl⟩ := h
    exact (table_err p n dir a x _ t w (by simp [c]) HD).mono fun _ _ ⟨e, g⟩ => ⟨e, hm.kept g, gbAny g _⟩

set_option maxHeartbeats 1000000 in
theorem untable_err (p n : Nat) (dir a x f : Int)  (w : World) (hf : (f != 0) = true) (HD : ∀ w', w.grownBy w' none → Calls Try.prog 38 #[.pointer (some ⟨p, 0, none⟩), .int .i64 dir, .int .i64 a, .slice none 0 0] w' fun e w'' => e = .returned (.tuple #[.int .i64 x, .int .i64 f]) ∧ w'.grownBy w'' none) :
    Calls Try.prog 21 #[.pointer (some ⟨p, 0, none⟩), .int .i64 dir, .int .i64 a] w fun e w' => e = .returned (.int .i64 f) ∧ w.grownBy w' none := by
  go_enter Try.func21, Try.ntmps21
  go_wp2_with fail
  refine (HD _ (gbRefl _ _)).mono ?_
  rintro e w1 ⟨rfl, g1⟩
  have G1 := g1
  go_wp2
  go_ret
  exact ⟨rfl, G1⟩
set_option maxHeartbeats 1000000 in
theorem untable_go (p b n X : Nat) (dir a f : Int) (G : Nat → Nat)  (w : World) (HD : ∀ w', w.grownBy w' none → Calls Try.prog 38 #[.pointer (some ⟨p, 0, none⟩), .int .i64 dir, .int .i64 a, .slice none 0 0] w' fun e w'' => e = .returned (.tuple #[.int .i64 X, .int .i64 0]) ∧ w'.grownBy w'' none)
    (HB : ∀ w', w.grownBy w' none → Calls Try.prog 39 #[.pointer (some ⟨p, 0, none⟩), .int .i64 X, fOut] w' fun e w'' => e = .returned (.int .i64 f) ∧ Mm w'' p b n G ∧ w'.grownBy w'' (some b)) :
    Calls Try.prog 21 #[.pointer (some ⟨p, 0, none⟩), .int .i64 dir, .int .i64 a] w fun e w' => e = .returned (.int .i64 f) ∧ Mm w' p b n G ∧ w.grownBy w' (some b) := by
  go_enter Try.func21, Try.ntmps21
  go_wp2_with fail
  refine (HD _ (gbRefl _ _)).mono ?_
  rintro e w1 ⟨rfl, g1⟩
  have G1 := g1
  have G2 := G1
  go_wp2_with fail
  refine (HB _ G2).mono ?_
  rintro e w3 ⟨rfl, m3, g3⟩
  go_wp2
  go_ret
  exact ⟨rfl, m3, gbTrans (gbAny G2 _) g3⟩
theorem untable_is (w : World) (p b n : Nat) (F G : Nat → Nat) (dir a f : Int)  (hm : Mm w p b n F) (h : M.chg F (M.dp n dir a true) M.out = (f, G)) :
    Calls Try.prog 21 #[.pointer (some ⟨p, 0, none⟩), .int .i64 dir, .int .i64 a] w fun e w' => e = .returned (.int .i64 f) ∧ Mm w' p b n G ∧ w.grownBy w' (some b) := by
  obtain ⟨⟨x, k⟩, hd⟩ : ∃ q, (M.dp n dir a true) = q := ⟨_, rfl⟩
  have HD := fun w' k => indir_is w' p b n F dir a _ _ _ true (hm.kept k) (.inl ⟨rfl, rfl⟩) hd
  rw [hd] at h
  by_cases c : k = 0
  · subst c
    obtain ⟨X, rfl, hX⟩ := M.dp_lt hd
    obtain ⟨⟨v, k⟩, hg⟩ : ∃ q, M.out (F X) = q := ⟨_, rfl⟩
    rw [M.chg_yes hg] at h
    simp only [Prod.mk.injEq] at h
    obtain ⟨rfl, hG⟩ := h
    replace hG := hG.symm
    obtain ⟨f, hf⟩ : ∃ f, k = f := ⟨_, rfl⟩
    subst hf
    exact untable_go p b n X dir a k G  w HD (fun w' kk => by
      rw [hG]
      exact become_out w' p b n X F v k (hm.kept kk) hX (M.out_wd hg) (fun w2 k2 => out_is w2 (F X) v k hg))
  · rw [M.chg_no c] at h
    simp only [Prod.mk.injEq] at h
    obtain ⟨rfl, rfl⟩ := h
    exact (untable_err p n dir a x _  w (by simp [c]) HD).mono fun _ _ ⟨e, g⟩ => ⟨e, hm.kept g, gbAny g _⟩

set_option maxHeartbeats 1000000 in
theorem map_err (p n : Nat) (dir a x f : Int) (t : Int) (o : Bool) (w : World) (hf : (f != 0) = true) (HD : ∀ (w' : World) (v : Value), w.grownBy w' none → Laid w' v n (M.al n t) → Calls Try.prog 41 #[.pointer (some ⟨p, 0, none⟩), .int .i64 dir, .int .i64 a, v] w' fun e w'' => e = .returned (.tuple #[.int .i64 x, .int .i64 f]) ∧ w'.grownBy w'' none) :
    Calls Try.prog 19 #[.pointer (some ⟨p, 0, none⟩), .int .i64 dir, .int .i64 a, .int .i64 t, .bool o] w fun e w' => e = .returned (.int .i64 f) ∧ w.grownBy w' none := by
  obtain ⟨W0, hW0, L0, g0⟩ := laidNew w n t
  go_enter Try.func19, Try.ntmps19
  go_wp2_with fail
  refine (HD _ _ g0 L0).mono ?_
  rintro e w1 ⟨rfl, g1⟩
  clear hW0
  have G1 := gbTrans g0 g1
  go_wp2
  go_ret
  exact ⟨rfl, G1⟩
set_option maxHeartbeats 1000000 in
theorem map_go (p b n X : Nat) (dir a f : Int) (G : Nat → Nat) (t : Int) (o : Bool) (w : World) (HD : ∀ (w' : World) (v : Value), w.grownBy w' none → Laid w' v n (M.al n t) → Calls Try.prog 41 #[.pointer (some ⟨p, 0, none⟩), .int .i64 dir, .int .i64 a, v] w' fun e w'' => e = .returned (.tuple #[.int .i64 X, .int .i64 0]) ∧ w'.grownBy w'' none)
    (HB : ∀ (w' : World) (x : Nat), w.grownBy w' none → Box w' x ⟨true, o, t⟩ → Calls Try.prog 39 #[.pointer (some ⟨p, 0, none⟩), .int .i64 X, fLay x] w' fun e w'' => e = .returned (.int .i64 f) ∧ Mm w'' p b n G ∧ w'.grownBy w'' (some b)) :
    Calls Try.prog 19 #[.pointer (some ⟨p, 0, none⟩), .int .i64 dir, .int .i64 a, .int .i64 t, .bool o] w fun e w' => e = .returned (.int .i64 f) ∧ Mm w' p b n G ∧ w.grownBy w' (some b) := by
  obtain ⟨W0, hW0, L0, g0⟩ := laidNew w n t
  go_enter Try.func19, Try.ntmps19
  go_wp2_with fail
  refine (HD _ _ g0 L0).mono ?_
  rintro e w1 ⟨rfl, g1⟩
  clear hW0
  have G1 := gbTrans g0 g1
  go_wp2_with fail
  refine (layin_is _ ⟨true, o, t⟩).mono ?_
  rintro e w2 ⟨x, rfl, X2, g2⟩
  have G2 := gbTrans G1 g2
  go_wp2_with fail
  refine (HB _ x G2 X2).mono ?_
  rintro e w3 ⟨rfl, m3, g3⟩
  go_wp2
  go_ret
  exact ⟨rfl, m3, gbTrans (gbAny G2 _) g3⟩
theorem map_is (w : World) (p b n : Nat) (F G : Nat → Nat) (dir a f : Int) (t : Int) (o : Bool) (hm : Mm w p b n F) (h : M.chg F (M.tp n F dir a (M.al n t)) (M.lay ⟨true, o, t⟩) = (f, G)) :
    Calls Try.prog 19 #[.pointer (some ⟨p, 0, none⟩), .int .i64 dir, .int .i64 a, .int .i64 t, .bool o] w fun e w' => e = .returned (.int .i64 f) ∧ Mm w' p b n G ∧ w.grownBy w' (some b) := by
  obtain ⟨⟨x, k⟩, hd⟩ : ∃ q, (M.tp n F dir a (M.al n t)) = q := ⟨_, rfl⟩
  have HD := fun w' v k l => intab_is w' p b n F dir a _ _ v _ (hm.kept k) l hd
  rw [hd] at h
  by_cases c : k = 0
  · subst c
    obtain ⟨X, rfl, hX⟩ := M.tp_lt hd
    obtain ⟨⟨v, k⟩, hg⟩ : ∃ q, (M.lay ⟨true, o, t⟩) (F X) = q := ⟨_, rfl⟩
    rw [M.chg_yes hg] at h
    simp only [Prod.mk.injEq] at h
    obtain ⟨rfl, hG⟩ := h
    replace hG := hG.symm
    obtain ⟨f, hf⟩ : ∃ f, k = f := ⟨_, rfl⟩
    subst hf
    exact map_go p b n X dir a k G t o w HD (fun w' x kk X2 => by
      rw [hG]
      exact become_lay w' p b n X F v k x (hm.kept kk) hX (M.lay_wd hg) (fun w2 k2 => lay1_is w2 (F X) x _ v k (X2.kept k2) hg))
  · rw [M.chg_no c] at h
    simp only [Prod.mk.injEq] at h
    obtain ⟨rfl, rfl⟩ := h
    exact (map_err p n dir a x _ t o w (by simp [c]) HD).mono fun _ _ ⟨e, g⟩ => ⟨e, hm.kept g, gbAny g _⟩

set_option maxHeartbeats 1000000 in
theorem unmap_err (p n : Nat) (dir a x f : Int)  (w : World) (hf : (f != 0) = true) (HD : ∀ w', w.grownBy w' none → Calls Try.prog 41 #[.pointer (some ⟨p, 0, none⟩), .int .i64 dir, .int .i64 a, .slice none 0 0] w' fun e w'' => e = .returned (.tuple #[.int .i64 x, .int .i64 f]) ∧ w'.grownBy w'' none) :
    Calls Try.prog 20 #[.pointer (some ⟨p, 0, none⟩), .int .i64 dir, .int .i64 a] w fun e w' => e = .returned (.int .i64 f) ∧ w.grownBy w' none := by
  go_enter Try.func20, Try.ntmps20
  go_wp2_with fail
  refine (HD _ (gbRefl _ _)).mono ?_
  rintro e w1 ⟨rfl, g1⟩
  have G1 := g1
  go_wp2
  go_ret
  exact ⟨rfl, G1⟩
set_option maxHeartbeats 1000000 in
theorem unmap_go (p b n X : Nat) (dir a f : Int) (G : Nat → Nat)  (w : World) (HD : ∀ w', w.grownBy w' none → Calls Try.prog 41 #[.pointer (some ⟨p, 0, none⟩), .int .i64 dir, .int .i64 a, .slice none 0 0] w' fun e w'' => e = .returned (.tuple #[.int .i64 X, .int .i64 0]) ∧ w'.grownBy w'' none)
    (HB : ∀ w', w.grownBy w' none → Calls Try.prog 39 #[.pointer (some ⟨p, 0, none⟩), .int .i64 X, fOut] w' fun e w'' => e = .returned (.int .i64 f) ∧ Mm w'' p b n G ∧ w'.grownBy w'' (some b)) :
    Calls Try.prog 20 #[.pointer (some ⟨p, 0, none⟩), .int .i64 dir, .int .i64 a] w fun e w' => e = .returned (.int .i64 f) ∧ Mm w' p b n G ∧ w.grownBy w' (some b) := by
  go_enter Try.func20, Try.ntmps20
  go_wp2_with fail
  refine (HD _ (gbRefl _ _)).mono ?_
  rintro e w1 ⟨rfl, g1⟩
  have G1 := g1
  have G2 := G1
  go_wp2_with fail
  refine (HB _ G2).mono ?_
  rintro e w3 ⟨rfl, m3, g3⟩
  go_wp2
  go_ret
  exact ⟨rfl, m3, gbTrans (gbAny G2 _) g3⟩
theorem unmap_is (w : World) (p b n : Nat) (F G : Nat → Nat) (dir a f : Int)  (hm : Mm w p b n F) (h : M.chg F (M.tp n F dir a true) M.out = (f, G)) :
    Calls Try.prog 20 #[.pointer (some ⟨p, 0, none⟩), .int .i64 dir, .int .i64 a] w fun e w' => e = .returned (.int .i64 f) ∧ Mm w' p b n G ∧ w.grownBy w' (some b) := by
  obtain ⟨⟨x, k⟩, hd⟩ : ∃ q, (M.tp n F dir a true) = q := ⟨_, rfl⟩
  have HD := fun w' k => intab_is w' p b n F dir a _ _ _ true (hm.kept k) (.inl ⟨rfl, rfl⟩) hd
  rw [hd] at h
  by_cases c : k = 0
  · subst c
    obtain ⟨X, rfl, hX⟩ := M.tp_lt hd
    obtain ⟨⟨v, k⟩, hg⟩ : ∃ q, M.out (F X) = q := ⟨_, rfl⟩
    rw [M.chg_yes hg] at h
    simp only [Prod.mk.injEq] at h
    obtain ⟨rfl, hG⟩ := h
    replace hG := hG.symm
    obtain ⟨f, hf⟩ : ∃ f, k = f := ⟨_, rfl⟩
    subst hf
    exact unmap_go p b n X dir a k G  w HD (fun w' kk => by
      rw [hG]
      exact become_out w' p b n X F v k (hm.kept kk) hX (M.out_wd hg) (fun w2 k2 => out_is w2 (F X) v k hg))
  · rw [M.chg_no c] at h
    simp only [Prod.mk.injEq] at h
    obtain ⟨rfl, rfl⟩ := h
    exact (unmap_err p n dir a x _  w (by simp [c]) HD).mono fun _ _ ⟨e, g⟩ => ⟨e, hm.kept g, gbAny g _⟩

set_option maxHeartbeats 1000000 in
theorem remap_err (p n : Nat) (dir a x f : Int) (o : Bool) (w : World) (hf : (f != 0) = true) (HD : ∀ w', w.grownBy w' none → Calls Try.prog 41 #[.pointer (some ⟨p, 0, none⟩), .int .i64 dir, .int .i64 a, .slice none 0 0] w' fun e w'' => e = .returned (.tuple #[.int .i64 x, .int .i64 f]) ∧ w'.grownBy w'' none) :
    Calls Try.prog 23 #[.pointer (some ⟨p, 0, none⟩), .int .i64 dir, .int .i64 a, .bool o] w fun e w' => e = .returned (.int .i64 f) ∧ w.grownBy w' none := by
  go_enter Try.func23, Try.ntmps23
  go_wp2_with fail
  refine (HD _ (gbRefl _ _)).mono ?_
  rintro e w1 ⟨rfl, g1⟩
  have G1 := g1
  go_wp2
  go_ret
  exact ⟨rfl, G1⟩
set_option maxHeartbeats 1000000 in
theorem remap_go (p b n X : Nat) (dir a f : Int) (G : Nat → Nat) (o : Bool) (w : World) (HD : ∀ w', w.grownBy w' none → Calls Try.prog 41 #[.pointer (some ⟨p, 0, none⟩), .int .i64 dir, .int .i64 a, .slice none 0 0] w' fun e w'' => e = .returned (.tuple #[.int .i64 X, .int .i64 0]) ∧ w'.grownBy w'' none)
    (HB : ∀ (w' : World) (x : Nat), w.grownBy w' none → w'.cell? ⟨x, 0, none⟩ = some (.bool o) → Calls Try.prog 39 #[.pointer (some ⟨p, 0, none⟩), .int .i64 X, fAlw x] w' fun e w'' => e = .returned (.int .i64 f) ∧ Mm w'' p b n G ∧ w'.grownBy w'' (some b)) :
    Calls Try.prog 23 #[.pointer (some ⟨p, 0, none⟩), .int .i64 dir, .int .i64 a, .bool o] w fun e w' => e = .returned (.int .i64 f) ∧ Mm w' p b n G ∧ w.grownBy w' (some b) := by
  go_enter Try.func23, Try.ntmps23
  go_wp2_with fail
  refine (HD _ (gbRefl _ _)).mono ?_
  rintro e w1 ⟨rfl, g1⟩
  have G1 := g1
  go_wp2_with fail
  refine (allow_is _ o).mono ?_
  rintro e w2 ⟨x, rfl, X2, g2⟩
  have G2 := gbTrans G1 g2
  go_wp2_with fail
  refine (HB _ x G2 X2).mono ?_
  rintro e w3 ⟨rfl, m3, g3⟩
  go_wp2
  go_ret
  exact ⟨rfl, m3, gbTrans (gbAny G2 _) g3⟩
theorem remap_is (w : World) (p b n : Nat) (F G : Nat → Nat) (dir a f : Int) (o : Bool) (hm : Mm w p b n F) (h : M.chg F (M.tp n F dir a true) (M.alw o) = (f, G)) :
    Calls Try.prog 23 #[.pointer (some ⟨p, 0, none⟩), .int .i64 dir, .int .i64 a, .bool o] w fun e w' => e = .returned (.int .i64 f) ∧ Mm w' p b n G ∧ w.grownBy w' (some b) := by
  obtain ⟨⟨x, k⟩, hd⟩ : ∃ q, (M.tp n F dir a true) = q := ⟨_, rfl⟩
  have HD := fun w' k => intab_is w' p b n F dir a _ _ _ true (hm.kept k) (.inl ⟨rfl, rfl⟩) hd
  rw [hd] at h
  by_cases c : k = 0
  · subst c
    obtain ⟨X, rfl, hX⟩ := M.tp_lt hd
    obtain ⟨⟨v, k⟩, hg⟩ : ∃ q, (M.alw o) (F X) = q := ⟨_, rfl⟩
    rw [M.chg_yes hg] at h
    simp only [Prod.mk.injEq] at h
    obtain ⟨rfl, hG⟩ := h
    replace hG := hG.symm
    obtain ⟨f, hf⟩ : ∃ f, k = f := ⟨_, rfl⟩
    subst hf
    exact remap_go p b n X dir a k G o w HD (fun w' x kk X2 => by
      rw [hG]
      exact become_alw w' p b n X F v k x (hm.kept kk) hX (M.alw_wd hg) (fun w2 k2 => alw1_is w2 (F X) x o v k (hm.lt X) (k2.cell X2 (by simp)) hg))
  · rw [M.chg_no c] at h
    simp only [Prod.mk.injEq] at h
    obtain ⟨rfl, rfl⟩ := h
    exact (remap_err p n dir a x _ o w (by simp [c]) HD).mono fun _ _ ⟨e, g⟩ => ⟨e, hm.kept g, gbAny g _⟩
end Go.Proofs.Ytfdnangceomeiaa
