/-
  THE CONTRACTS of the document's Table, Untable, Map, Unmap, Remap; its acts.
-/
import Derived.Test.YtfdnangceomeiaaRsp
import Derived.Test.YtfdnangceomeiaaOpo
import Derived.Test.YtfdnangceomeiaaSfa
namespace Go.Proofs.Ytfdnangceomeiaa
set_option maxRecDepth 10000
open Go.RowKit
set_option linter.unusedVariables false

theorem Rm.st {w : World} {p b n : Nat} {F : Nat → Nat} (h : Rm w p b n F) (x v : Nat) (hv : v < 18446744073709551616) : Rm (w.setCell ⟨b, x, none⟩ (.int .u64 (v : Int))) p b n (M.st F x v) := h.put x v hv
theorem M.pk_al {n : Nat} {t : Int} (o : Bool) (hn : n ≤ 65536) (h : M.al n t = true) : ∃ V : Nat, M.pk ⟨true, o, t⟩ = ((V : Int), 0) ∧ V < 18446744073709551616 := by
  obtain ⟨Q, rfl, hQ⟩ := M.al_nat h
  exact ⟨M.wd Q o, M.wd_pk o (by omega), by unfold M.wd; split <;> omega⟩
theorem M.dp_al {n : Nat} {dir a x : Int} {l : Bool} (h : M.dp n dir a l = (x, 0)) : l = true := by
  obtain ⟨_, _, _, _, _, _, h, _⟩ := M.dp_ok h
  exact h
theorem M.tp_al {n : Nat} {F : Nat → Nat} {dir a x : Int} {l : Bool} (h : M.tp n F dir a l = (x, 0)) : l = true := by
  obtain ⟨_, _, _, _, _, _, _, _, h, _⟩ := M.tp_ok h
  exact h

set_option maxHeartbeats 1000000 in
theorem rtable_err (p : Nat) (dir a x f : Int) (t : Int) (w : World) (hf : (f != 0) = true)
    (HD : ∀ w', w.grownBy w' none → Calls Try.prog 46 #[.pointer (some ⟨p, 0, none⟩), .int .i64 dir, .int .i64 a, .int .i64 t] w' fun e w'' => e = .returned (.tuple #[.int .i64 x, .int .i64 f]) ∧ w'.grownBy w'' none) :
    Calls Try.prog 26 #[.pointer (some ⟨p, 0, none⟩), .int .i64 dir, .int .i64 a, .int .i64 t] w fun e w' => e = .returned (.int .i64 f) ∧ w.grownBy w' none := by
  go_enter Try.func26, Try.ntmps26
  go_wp2_with fail
  refine (HD _ (gbRefl _ _)).mono ?_
  rintro e w1 ⟨rfl, g1⟩
  go_wp2
  go_ret
  exact ⟨rfl, g1⟩
set_option maxHeartbeats 1000000 in
theorem rtable_no (p b n X W : Nat) (F : Nat → Nat) (dir a : Int) (t : Int) (w : World) (hm : Rm w p b n F) (hX : X < n) (hW : F X = W) (h0 : ((W : Int) != 0) = true)
    (HD : ∀ w', w.grownBy w' none → Calls Try.prog 46 #[.pointer (some ⟨p, 0, none⟩), .int .i64 dir, .int .i64 a, .int .i64 t] w' fun e w'' => e = .returned (.tuple #[.int .i64 X, .int .i64 0]) ∧ w'.grownBy w'' none) :
    Calls Try.prog 26 #[.pointer (some ⟨p, 0, none⟩), .int .i64 dir, .int .i64 a, .int .i64 t] w fun e w' => e = .returned (.int .i64 4) ∧ w.grownBy w' none := by
  have hn := hm.is.hi
  have HM := hideIt hm
  clear hm
  go_enter Try.func26, Try.ntmps26
  go_wp2_with fail
  refine (HD _ (gbRefl _ _)).mono ?_
  rintro e w1 ⟨rfl, g1⟩
  have R1 := hideIt (HM.out.kept g1)
  have c1 := R1.out.is.cell
  have k1 := R1.out.is.row.cell hX
  rw [hW] at k1
  clear HD HM
  go_wp2
  go_ret
  exact ⟨rfl, g1⟩
set_option maxHeartbeats 2000000 in
theorem rtable_yes (p b n X V : Nat) (F : Nat → Nat) (dir a : Int) (t : Int) (w : World) (hm : Rm w p b n F) (hX : X < n) (hW : F X = 0) (hV : V < 18446744073709551616)
    (HD : ∀ w', w.grownBy w' none → Calls Try.prog 46 #[.pointer (some ⟨p, 0, none⟩), .int .i64 dir, .int .i64 a, .int .i64 t] w' fun e w'' => e = .returned (.tuple #[.int .i64 X, .int .i64 0]) ∧ w'.grownBy w'' none)
    (HE : ∀ w', Calls Try.prog 47 #[.int .i64 t, .bool false] w' fun e w'' => e = .returned (.int .u64 (V : Int)) ∧ w'.grownBy w'' none) :
    Calls Try.prog 26 #[.pointer (some ⟨p, 0, none⟩), .int .i64 dir, .int .i64 a, .int .i64 t] w fun e w' => e = .returned (.int .i64 0) ∧ Rm w' p b n (M.st F X V) ∧ w.grownBy w' (some b) := by
  have hn := hm.is.hi
  have HM := hideIt hm
  clear hm
  go_enter Try.func26, Try.ntmps26
  go_wp2_with fail
  refine (HD _ (gbRefl _ _)).mono ?_
  rintro e w1 ⟨rfl, g1⟩
  have R1 := hideIt (HM.out.kept g1)
  have c1 := R1.out.is.cell
  have k1 := R1.out.is.row.cell hX
  rw [hW] at k1
  have Rd := hideIt (R1.out.kept (gbDrew (gbRefl w1 none)))
  have cd := Rd.out.is.cell
  have f1 := R1.out.is.row.frozen X
  clear HD HM
  go_upto_region 6 with fail
  go_region_held3 (fun w' => w'.cell? ⟨p, 0, none⟩ = some (.slice (some ⟨b, 0, none⟩) n n))
    (first | with_reducible exact c1 | with_reducible exact cd | with_reducible exact c2 | with_reducible exact c3 | fail)
    ((go_at_call 47; refine (HE _).mono ?_; rintro e w2 ⟨rfl, g2⟩; have R2 := hideIt (Rd.out.kept g2); have c2 := R2.out.is.cell; have k2 := R2.out.is.row.cell hX; have f2 := R2.out.is.row.frozen X; have c3 := (R2.out.st X V hV).is.cell))
  go_wp2
  go_ret
  exact ⟨rfl, R2.out.st X V hV, gbTrans (gbAny (gbTrans g1 (gbTrans (gbDrew (gbRefl w1 none)) g2)) _) (gbSetCell _ _ _ _)⟩
theorem rtable_is (w : World) (p b n : Nat) (F G : Nat → Nat) (dir a f : Int) (t : Int) (hm : Rm w p b n F) (h : M.chg F (M.dp n dir a (M.al n t)) (M.lay ⟨true, false, t⟩) = (f, G)) :
    Calls Try.prog 26 #[.pointer (some ⟨p, 0, none⟩), .int .i64 dir, .int .i64 a, .int .i64 t] w fun e w' => e = .returned (.int .i64 f) ∧ Rm w' p b n G ∧ w.grownBy w' (some b) := by
  have hn := hm.is.hi
  obtain ⟨⟨x, k⟩, hd⟩ : ∃ q, (M.dp n dir a (M.al n t)) = q := ⟨_, rfl⟩
  have HD := fun w' (k : w.grownBy w' none) => rfirst_is w' p b n F dir a t _ _ (hm.kept k) hd
  rw [hd] at h
  by_cases c : k = 0
  · subst c
    obtain ⟨X, rfl, hX⟩ := M.dp_lt hd
    obtain ⟨V, hV, hV'⟩ := M.pk_al false hn (M.dp_al hd)
    obtain ⟨W, hW⟩ : ∃ W, F X = W := ⟨_, rfl⟩
    by_cases c0 : W = 0
    · subst c0
      rw [M.chg_yes (v := (V : Int)) (k := 0) (by unfold M.lay; rw [if_pos hW]; exact hV)] at h
      simp only [Prod.mk.injEq, if_true, Int.toNat_natCast] at h
      obtain ⟨rfl, rfl⟩ := h
      exact rtable_yes p b n X V F dir a t w hm hX hW hV' HD (fun w' => rentry_is t false _ 0 hV w')
    · rw [M.chg_yes (v := 0) (k := 4) (by unfold M.lay; rw [if_neg (by omega)])] at h
      simp only [Prod.mk.injEq] at h
      obtain ⟨rfl, h⟩ := h
      rw [if_neg (by omega)] at h
      subst h
      exact (rtable_no p b n X W F dir a t w hm hX hW (by simp [c0]) HD).mono fun _ _ ⟨e, g⟩ => ⟨e, hm.kept g, gbAny g _⟩
  · rw [M.chg_no c] at h
    simp only [Prod.mk.injEq] at h
    obtain ⟨rfl, rfl⟩ := h
    exact (rtable_err p dir a x _ t w (by simp [c]) HD).mono fun _ _ ⟨e, g⟩ => ⟨e, hm.kept g, gbAny g _⟩

set_option maxHeartbeats 1000000 in
theorem runtable_err (p : Nat) (dir a x f : Int)  (w : World) (hf : (f != 0) = true)
    (HD : ∀ w', w.grownBy w' none → Calls Try.prog 46 #[.pointer (some ⟨p, 0, none⟩), .int .i64 dir, .int .i64 a, .int .i64 dir] w' fun e w'' => e = .returned (.tuple #[.int .i64 x, .int .i64 f]) ∧ w'.grownBy w'' none) :
    Calls Try.prog 27 #[.pointer (some ⟨p, 0, none⟩), .int .i64 dir, .int .i64 a] w fun e w' => e = .returned (.int .i64 f) ∧ w.grownBy w' none := by
  go_enter Try.func27, Try.ntmps27
  go_wp2_with fail
  refine (HD _ (gbRefl _ _)).mono ?_
  rintro e w1 ⟨rfl, g1⟩
  go_wp2
  go_ret
  exact ⟨rfl, g1⟩
set_option maxHeartbeats 1000000 in
theorem runtable_no (p b n X W : Nat) (F : Nat → Nat) (dir a : Int)  (w : World) (hm : Rm w p b n F) (hX : X < n) (hW : F X = W) (h0 : ((W : Int) == 0) = true)
    (HD : ∀ w', w.grownBy w' none → Calls Try.prog 46 #[.pointer (some ⟨p, 0, none⟩), .int .i64 dir, .int .i64 a, .int .i64 dir] w' fun e w'' => e = .returned (.tuple #[.int .i64 X, .int .i64 0]) ∧ w'.grownBy w'' none) :
    Calls Try.prog 27 #[.pointer (some ⟨p, 0, none⟩), .int .i64 dir, .int .i64 a] w fun e w' => e = .returned (.int .i64 3) ∧ w.grownBy w' none := by
  have hn := hm.is.hi
  have HM := hideIt hm
  clear hm
  go_enter Try.func27, Try.ntmps27
  go_wp2_with fail
  refine (HD _ (gbRefl _ _)).mono ?_
  rintro e w1 ⟨rfl, g1⟩
  have R1 := hideIt (HM.out.kept g1)
  have c1 := R1.out.is.cell
  have k1 := R1.out.is.row.cell hX
  rw [hW] at k1
  clear HD HM
  go_wp2
  go_ret
  exact ⟨rfl, g1⟩
set_option maxHeartbeats 2000000 in
theorem runtable_yes (p b n X W : Nat) (F : Nat → Nat) (dir a : Int)  (w : World) (hm : Rm w p b n F) (hX : X < n) (hW : F X = W) (h0 : ((W : Int) == 0) = false)
    (HD : ∀ w', w.grownBy w' none → Calls Try.prog 46 #[.pointer (some ⟨p, 0, none⟩), .int .i64 dir, .int .i64 a, .int .i64 dir] w' fun e w'' => e = .returned (.tuple #[.int .i64 X, .int .i64 0]) ∧ w'.grownBy w'' none) :
    Calls Try.prog 27 #[.pointer (some ⟨p, 0, none⟩), .int .i64 dir, .int .i64 a] w fun e w' => e = .returned (.int .i64 0) ∧ Rm w' p b n (M.st F X 0) ∧ w.grownBy w' (some b) := by
  have hn := hm.is.hi
  have HM := hideIt hm
  clear hm
  go_enter Try.func27, Try.ntmps27
  go_wp2_with fail
  refine (HD _ (gbRefl _ _)).mono ?_
  rintro e w1 ⟨rfl, g1⟩
  have R1 := hideIt (HM.out.kept g1)
  have c1 := R1.out.is.cell
  have k1 := R1.out.is.row.cell hX
  rw [hW] at k1
  have f1 := R1.out.is.row.frozen X
  clear HD HM
  go_wp2
  go_ret
  exact ⟨rfl, R1.out.st X 0 (by omega), gbTrans (gbAny g1 _) (gbSetCell _ _ _ _)⟩
theorem runtable_is (w : World) (p b n : Nat) (F G : Nat → Nat) (dir a f : Int)  (hm : Rm w p b n F) (h : M.chg F (M.dp n dir a true) M.out = (f, G)) :
    Calls Try.prog 27 #[.pointer (some ⟨p, 0, none⟩), .int .i64 dir, .int .i64 a] w fun e w' => e = .returned (.int .i64 f) ∧ Rm w' p b n G ∧ w.grownBy w' (some b) := by
  have hn := hm.is.hi
  rw [← M.dp_self] at h
  obtain ⟨⟨x, k⟩, hd⟩ : ∃ q, (M.dp n dir a (M.al n dir)) = q := ⟨_, rfl⟩
  have HD := fun w' (k : w.grownBy w' none) => rfirst_is w' p b n F dir a dir _ _ (hm.kept k) hd
  rw [hd] at h
  by_cases c : k = 0
  · subst c
    obtain ⟨X, rfl, hX⟩ := M.dp_lt hd
    obtain ⟨W, hW⟩ : ∃ W, F X = W := ⟨_, rfl⟩
    by_cases c0 : W = 0
    · rw [M.chg_yes (v := 0) (k := 3) (by unfold M.out; rw [if_pos (by omega)])] at h
      simp only [Prod.mk.injEq] at h
      obtain ⟨rfl, h⟩ := h
      rw [if_neg (by omega)] at h
      subst h
      exact (runtable_no p b n X W F dir a  w hm hX hW (by simp [c0]) HD).mono fun _ _ ⟨e, g⟩ => ⟨e, hm.kept g, gbAny g _⟩
    · rw [M.chg_yes (v := 0) (k := 0) (by unfold M.out; rw [if_neg (by omega)])] at h
      simp only [Prod.mk.injEq, if_true, Int.toNat_zero] at h
      obtain ⟨rfl, rfl⟩ := h
      exact runtable_yes p b n X W F dir a  w hm hX hW (by simp [c0]) HD
  · rw [M.chg_no c] at h
    simp only [Prod.mk.injEq] at h
    obtain ⟨rfl, rfl⟩ := h
    exact (runtable_err p dir a x _  w (by simp [c]) HD).mono fun _ _ ⟨e, g⟩ => ⟨e, hm.kept g, gbAny g _⟩

set_option maxHeartbeats 1000000 in
theorem rmap_err (p : Nat) (dir a x f : Int) (t : Int) (o : Bool) (w : World) (hf : (f != 0) = true)
    (HD : ∀ w', w.grownBy w' none → Calls Try.prog 48 #[.pointer (some ⟨p, 0, none⟩), .int .i64 dir, .int .i64 a, .int .i64 t] w' fun e w'' => e = .returned (.tuple #[.int .i64 x, .int .i64 f]) ∧ w'.grownBy w'' none) :
    Calls Try.prog 28 #[.pointer (some ⟨p, 0, none⟩), .int .i64 dir, .int .i64 a, .int .i64 t, .bool o] w fun e w' => e = .returned (.int .i64 f) ∧ w.grownBy w' none := by
  go_enter Try.func28, Try.ntmps28
  go_wp2_with fail
  refine (HD _ (gbRefl _ _)).mono ?_
  rintro e w1 ⟨rfl, g1⟩
  go_wp2
  go_ret
  exact ⟨rfl, g1⟩
set_option maxHeartbeats 1000000 in
theorem rmap_no (p b n X W : Nat) (F : Nat → Nat) (dir a : Int) (t : Int) (o : Bool) (w : World) (hm : Rm w p b n F) (hX : X < n) (hW : F X = W) (h0 : ((W : Int) != 0) = true)
    (HD : ∀ w', w.grownBy w' none → Calls Try.prog 48 #[.pointer (some ⟨p, 0, none⟩), .int .i64 dir, .int .i64 a, .int .i64 t] w' fun e w'' => e = .returned (.tuple #[.int .i64 X, .int .i64 0]) ∧ w'.grownBy w'' none) :
    Calls Try.prog 28 #[.pointer (some ⟨p, 0, none⟩), .int .i64 dir, .int .i64 a, .int .i64 t, .bool o] w fun e w' => e = .returned (.int .i64 4) ∧ w.grownBy w' none := by
  have hn := hm.is.hi
  have HM := hideIt hm
  clear hm
  go_enter Try.func28, Try.ntmps28
  go_wp2_with fail
  refine (HD _ (gbRefl _ _)).mono ?_
  rintro e w1 ⟨rfl, g1⟩
  have R1 := hideIt (HM.out.kept g1)
  have c1 := R1.out.is.cell
  have k1 := R1.out.is.row.cell hX
  rw [hW] at k1
  clear HD HM
  go_wp2
  go_ret
  exact ⟨rfl, g1⟩
set_option maxHeartbeats 2000000 in
theorem rmap_yes (p b n X V : Nat) (F : Nat → Nat) (dir a : Int) (t : Int) (o : Bool) (w : World) (hm : Rm w p b n F) (hX : X < n) (hW : F X = 0) (hV : V < 18446744073709551616)
    (HD : ∀ w', w.grownBy w' none → Calls Try.prog 48 #[.pointer (some ⟨p, 0, none⟩), .int .i64 dir, .int .i64 a, .int .i64 t] w' fun e w'' => e = .returned (.tuple #[.int .i64 X, .int .i64 0]) ∧ w'.grownBy w'' none)
    (HE : ∀ w', Calls Try.prog 47 #[.int .i64 t, .bool o] w' fun e w'' => e = .returned (.int .u64 (V : Int)) ∧ w'.grownBy w'' none) :
    Calls Try.prog 28 #[.pointer (some ⟨p, 0, none⟩), .int .i64 dir, .int .i64 a, .int .i64 t, .bool o] w fun e w' => e = .returned (.int .i64 0) ∧ Rm w' p b n (M.st F X V) ∧ w.grownBy w' (some b) := by
  have hn := hm.is.hi
  have HM := hideIt hm
  clear hm
  go_enter Try.func28, Try.ntmps28
  go_wp2_with fail
  refine (HD _ (gbRefl _ _)).mono ?_
  rintro e w1 ⟨rfl, g1⟩
  have R1 := hideIt (HM.out.kept g1)
  have c1 := R1.out.is.cell
  have k1 := R1.out.is.row.cell hX
  rw [hW] at k1
  have Rd := hideIt (R1.out.kept (gbDrew (gbRefl w1 none)))
  have cd := Rd.out.is.cell
  have f1 := R1.out.is.row.frozen X
  clear HD HM
  go_upto_region 6 with fail
  go_region_held3 (fun w' => w'.cell? ⟨p, 0, none⟩ = some (.slice (some ⟨b, 0, none⟩) n n))
    (first | with_reducible exact c1 | with_reducible exact cd | with_reducible exact c2 | with_reducible exact c3 | fail)
    ((go_at_call 47; refine (HE _).mono ?_; rintro e w2 ⟨rfl, g2⟩; have R2 := hideIt (Rd.out.kept g2); have c2 := R2.out.is.cell; have k2 := R2.out.is.row.cell hX; have f2 := R2.out.is.row.frozen X; have c3 := (R2.out.st X V hV).is.cell))
  go_wp2
  go_ret
  exact ⟨rfl, R2.out.st X V hV, gbTrans (gbAny (gbTrans g1 (gbTrans (gbDrew (gbRefl w1 none)) g2)) _) (gbSetCell _ _ _ _)⟩
theorem rmap_is (w : World) (p b n : Nat) (F G : Nat → Nat) (dir a f : Int) (t : Int) (o : Bool) (hm : Rm w p b n F) (h : M.chg F (M.tp n F dir a (M.al n t)) (M.lay ⟨true, o, t⟩) = (f, G)) :
    Calls Try.prog 28 #[.pointer (some ⟨p, 0, none⟩), .int .i64 dir, .int .i64 a, .int .i64 t, .bool o] w fun e w' => e = .returned (.int .i64 f) ∧ Rm w' p b n G ∧ w.grownBy w' (some b) := by
  have hn := hm.is.hi
  obtain ⟨⟨x, k⟩, hd⟩ : ∃ q, (M.tp n F dir a (M.al n t)) = q := ⟨_, rfl⟩
  have HD := fun w' (k : w.grownBy w' none) => rsecond_is w' p b n F dir a t _ _ (hm.kept k) hd
  rw [hd] at h
  by_cases c : k = 0
  · subst c
    obtain ⟨X, rfl, hX⟩ := M.tp_lt hd
    obtain ⟨V, hV, hV'⟩ := M.pk_al o hn (M.tp_al hd)
    obtain ⟨W, hW⟩ : ∃ W, F X = W := ⟨_, rfl⟩
    by_cases c0 : W = 0
    · subst c0
      rw [M.chg_yes (v := (V : Int)) (k := 0) (by unfold M.lay; rw [if_pos hW]; exact hV)] at h
      simp only [Prod.mk.injEq, if_true, Int.toNat_natCast] at h
      obtain ⟨rfl, rfl⟩ := h
      exact rmap_yes p b n X V F dir a t o w hm hX hW hV' HD (fun w' => rentry_is t o _ 0 hV w')
    · rw [M.chg_yes (v := 0) (k := 4) (by unfold M.lay; rw [if_neg (by omega)])] at h
      simp only [Prod.mk.injEq] at h
      obtain ⟨rfl, h⟩ := h
      rw [if_neg (by omega)] at h
      subst h
      exact (rmap_no p b n X W F dir a t o w hm hX hW (by simp [c0]) HD).mono fun _ _ ⟨e, g⟩ => ⟨e, hm.kept g, gbAny g _⟩
  · rw [M.chg_no c] at h
    simp only [Prod.mk.injEq] at h
    obtain ⟨rfl, rfl⟩ := h
    exact (rmap_err p dir a x _ t o w (by simp [c]) HD).mono fun _ _ ⟨e, g⟩ => ⟨e, hm.kept g, gbAny g _⟩

set_option maxHeartbeats 1000000 in
theorem runmap_err (p : Nat) (dir a x f : Int)  (w : World) (hf : (f != 0) = true)
    (HD : ∀ w', w.grownBy w' none → Calls Try.prog 48 #[.pointer (some ⟨p, 0, none⟩), .int .i64 dir, .int .i64 a, .int .i64 dir] w' fun e w'' => e = .returned (.tuple #[.int .i64 x, .int .i64 f]) ∧ w'.grownBy w'' none) :
    Calls Try.prog 29 #[.pointer (some ⟨p, 0, none⟩), .int .i64 dir, .int .i64 a] w fun e w' => e = .returned (.int .i64 f) ∧ w.grownBy w' none := by
  go_enter Try.func29, Try.ntmps29
  go_wp2_with fail
  refine (HD _ (gbRefl _ _)).mono ?_
  rintro e w1 ⟨rfl, g1⟩
  go_wp2
  go_ret
  exact ⟨rfl, g1⟩
set_option maxHeartbeats 1000000 in
theorem runmap_no (p b n X W : Nat) (F : Nat → Nat) (dir a : Int)  (w : World) (hm : Rm w p b n F) (hX : X < n) (hW : F X = W) (h0 : ((W : Int) == 0) = true)
    (HD : ∀ w', w.grownBy w' none → Calls Try.prog 48 #[.pointer (some ⟨p, 0, none⟩), .int .i64 dir, .int .i64 a, .int .i64 dir] w' fun e w'' => e = .returned (.tuple #[.int .i64 X, .int .i64 0]) ∧ w'.grownBy w'' none) :
    Calls Try.prog 29 #[.pointer (some ⟨p, 0, none⟩), .int .i64 dir, .int .i64 a] w fun e w' => e = .returned (.int .i64 3) ∧ w.grownBy w' none := by
  have hn := hm.is.hi
  have HM := hideIt hm
  clear hm
  go_enter Try.func29, Try.ntmps29
  go_wp2_with fail
  refine (HD _ (gbRefl _ _)).mono ?_
  rintro e w1 ⟨rfl, g1⟩
  have R1 := hideIt (HM.out.kept g1)
  have c1 := R1.out.is.cell
  have k1 := R1.out.is.row.cell hX
  rw [hW] at k1
  clear HD HM
  go_wp2
  go_ret
  exact ⟨rfl, g1⟩
set_option maxHeartbeats 2000000 in
theorem runmap_yes (p b n X W : Nat) (F : Nat → Nat) (dir a : Int)  (w : World) (hm : Rm w p b n F) (hX : X < n) (hW : F X = W) (h0 : ((W : Int) == 0) = false)
    (HD : ∀ w', w.grownBy w' none → Calls Try.prog 48 #[.pointer (some ⟨p, 0, none⟩), .int .i64 dir, .int .i64 a, .int .i64 dir] w' fun e w'' => e = .returned (.tuple #[.int .i64 X, .int .i64 0]) ∧ w'.grownBy w'' none) :
    Calls Try.prog 29 #[.pointer (some ⟨p, 0, none⟩), .int .i64 dir, .int .i64 a] w fun e w' => e = .returned (.int .i64 0) ∧ Rm w' p b n (M.st F X 0) ∧ w.grownBy w' (some b) := by
  have hn := hm.is.hi
  have HM := hideIt hm
  clear hm
  go_enter Try.func29, Try.ntmps29
  go_wp2_with fail
  refine (HD _ (gbRefl _ _)).mono ?_
  rintro e w1 ⟨rfl, g1⟩
  have R1 := hideIt (HM.out.kept g1)
  have c1 := R1.out.is.cell
  have k1 := R1.out.is.row.cell hX
  rw [hW] at k1
  have f1 := R1.out.is.row.frozen X
  clear HD HM
  go_wp2
  go_ret
  exact ⟨rfl, R1.out.st X 0 (by omega), gbTrans (gbAny g1 _) (gbSetCell _ _ _ _)⟩
theorem runmap_is (w : World) (p b n : Nat) (F G : Nat → Nat) (dir a f : Int)  (hm : Rm w p b n F) (h : M.chg F (M.tp n F dir a true) M.out = (f, G)) :
    Calls Try.prog 29 #[.pointer (some ⟨p, 0, none⟩), .int .i64 dir, .int .i64 a] w fun e w' => e = .returned (.int .i64 f) ∧ Rm w' p b n G ∧ w.grownBy w' (some b) := by
  have hn := hm.is.hi
  rw [← M.tp_self] at h
  obtain ⟨⟨x, k⟩, hd⟩ : ∃ q, (M.tp n F dir a (M.al n dir)) = q := ⟨_, rfl⟩
  have HD := fun w' (k : w.grownBy w' none) => rsecond_is w' p b n F dir a dir _ _ (hm.kept k) hd
  rw [hd] at h
  by_cases c : k = 0
  · subst c
    obtain ⟨X, rfl, hX⟩ := M.tp_lt hd
    obtain ⟨W, hW⟩ : ∃ W, F X = W := ⟨_, rfl⟩
    by_cases c0 : W = 0
    · rw [M.chg_yes (v := 0) (k := 3) (by unfold M.out; rw [if_pos (by omega)])] at h
      simp only [Prod.mk.injEq] at h
      obtain ⟨rfl, h⟩ := h
      rw [if_neg (by omega)] at h
      subst h
      exact (runmap_no p b n X W F dir a  w hm hX hW (by simp [c0]) HD).mono fun _ _ ⟨e, g⟩ => ⟨e, hm.kept g, gbAny g _⟩
    · rw [M.chg_yes (v := 0) (k := 0) (by unfold M.out; rw [if_neg (by omega)])] at h
      simp only [Prod.mk.injEq, if_true, Int.toNat_zero] at h
      obtain ⟨rfl, rfl⟩ := h
      exact runmap_yes p b n X W F dir a  w hm hX hW (by simp [c0]) HD
  · rw [M.chg_no c] at h
    simp only [Prod.mk.injEq] at h
    obtain ⟨rfl, rfl⟩ := h
    exact (runmap_err p dir a x _  w (by simp [c]) HD).mono fun _ _ ⟨e, g⟩ => ⟨e, hm.kept g, gbAny g _⟩

set_option maxHeartbeats 1000000 in
theorem rremap_err (p : Nat) (dir a x f : Int) (o : Bool) (w : World) (hf : (f != 0) = true)
    (HD : ∀ w', w.grownBy w' none → Calls Try.prog 48 #[.pointer (some ⟨p, 0, none⟩), .int .i64 dir, .int .i64 a, .int .i64 dir] w' fun e w'' => e = .returned (.tuple #[.int .i64 x, .int .i64 f]) ∧ w'.grownBy w'' none) :
    Calls Try.prog 30 #[.pointer (some ⟨p, 0, none⟩), .int .i64 dir, .int .i64 a, .bool o] w fun e w' => e = .returned (.int .i64 f) ∧ w.grownBy w' none := by
  go_enter Try.func30, Try.ntmps30
  go_wp2_with fail
  refine (HD _ (gbRefl _ _)).mono ?_
  rintro e w1 ⟨rfl, g1⟩
  go_wp2
  go_ret
  exact ⟨rfl, g1⟩
set_option maxHeartbeats 1000000 in
theorem rremap_none (p b n X W : Nat) (F : Nat → Nat) (dir a : Int) (o u q : Bool) (B f : Int) (w : World) (hm : Rm w p b n F) (hX : X < n) (hW : F X = W) (h0 : ((W : Int) == 0) = true)
    (HD : ∀ w', w.grownBy w' none → Calls Try.prog 48 #[.pointer (some ⟨p, 0, none⟩), .int .i64 dir, .int .i64 a, .int .i64 dir] w' fun e w'' => e = .returned (.tuple #[.int .i64 X, .int .i64 0]) ∧ w'.grownBy w'' none)
    (HU : ∀ w', Calls Try.prog 49 #[.int .u64 (W : Int)] w' fun e w'' => e = .returned (.tuple #[ev ⟨u, q, B⟩, .int .i64 f]) ∧ w'.grownBy w'' none) :
    Calls Try.prog 30 #[.pointer (some ⟨p, 0, none⟩), .int .i64 dir, .int .i64 a, .bool o] w fun e w' => e = .returned (.int .i64 3) ∧ w.grownBy w' none := by
  have hn := hm.is.hi
  have HM := hideIt hm
  clear hm
  go_enter Try.func30, Try.ntmps30
  go_wp2_with fail
  refine (HD _ (gbRefl _ _)).mono ?_
  rintro e w1 ⟨rfl, g1⟩
  have R1 := hideIt (HM.out.kept g1)
  have c1 := R1.out.is.cell
  have k1 := R1.out.is.row.cell hX
  rw [hW] at k1
  clear HD HM
  go_wp2_with fail
  refine (HU _).mono ?_
  rintro e w2 ⟨rfl, g2⟩
  clear c1 k1
  go_upto_region 5 with fail
  obtain ⟨W3, hW3, Y, h3⟩ := boxNew w2 ⟨u, q, B⟩ 73
  simp only at hW3
  rw [hW3]
  clear hW3
  have G3 := gbTrans (gbTrans g1 g2) h3
  have R3 := hideIt (R1.out.kept (gbTrans g2 h3))
  have hne : ¬ w2.heap.size = b := by have := (R1.out.kept g2).blt; omega
  clear g1 g2 h3 R1
  have c3 := R3.out.is.cell
  have k3 := R3.out.is.row.cell hX
  rw [hW] at k3
  go_wp2
  go_ret
  exact ⟨rfl, G3⟩
set_option maxHeartbeats 1000000 in
theorem rremap_fault (p b n X W : Nat) (F : Nat → Nat) (dir a : Int) (o u q : Bool) (B f : Int) (w : World) (hm : Rm w p b n F) (hX : X < n) (hW : F X = W) (h0 : ((W : Int) == 0) = false) (hf : (f != 0) = true)
    (HD : ∀ w', w.grownBy w' none → Calls Try.prog 48 #[.pointer (some ⟨p, 0, none⟩), .int .i64 dir, .int .i64 a, .int .i64 dir] w' fun e w'' => e = .returned (.tuple #[.int .i64 X, .int .i64 0]) ∧ w'.grownBy w'' none)
    (HU : ∀ w', Calls Try.prog 49 #[.int .u64 (W : Int)] w' fun e w'' => e = .returned (.tuple #[ev ⟨u, q, B⟩, .int .i64 f]) ∧ w'.grownBy w'' none) :
    Calls Try.prog 30 #[.pointer (some ⟨p, 0, none⟩), .int .i64 dir, .int .i64 a, .bool o] w fun e w' => e = .returned (.int .i64 12) ∧ w.grownBy w' none := by
  have hn := hm.is.hi
  have HM := hideIt hm
  clear hm
  go_enter Try.func30, Try.ntmps30
  go_wp2_with fail
  refine (HD _ (gbRefl _ _)).mono ?_
  rintro e w1 ⟨rfl, g1⟩
  have R1 := hideIt (HM.out.kept g1)
  have c1 := R1.out.is.cell
  have k1 := R1.out.is.row.cell hX
  rw [hW] at k1
  clear HD HM
  go_wp2_with fail
  refine (HU _).mono ?_
  rintro e w2 ⟨rfl, g2⟩
  clear c1 k1
  go_upto_region 5 with fail
  obtain ⟨W3, hW3, Y, h3⟩ := boxNew w2 ⟨u, q, B⟩ 73
  simp only at hW3
  rw [hW3]
  clear hW3
  have G3 := gbTrans (gbTrans g1 g2) h3
  have R3 := hideIt (R1.out.kept (gbTrans g2 h3))
  have hne : ¬ w2.heap.size = b := by have := (R1.out.kept g2).blt; omega
  clear g1 g2 h3 R1
  have c3 := R3.out.is.cell
  have k3 := R3.out.is.row.cell hX
  rw [hW] at k3
  go_wp2
  go_ret
  exact ⟨rfl, G3⟩
theorem Box.two {w : World} {x : Nat} {c : E} {p b n : Nat} (h : Box w x c) (hc : w.cell? ⟨p, 0, none⟩ = some (.slice (some ⟨b, 0, none⟩) n n)) : w.cell? ⟨p, 0, none⟩ = some (.slice (some ⟨b, 0, none⟩) n n) ∧ w.cell? ⟨x, 2, none⟩ = some (.int .i64 c.a) := ⟨hc, h.at2⟩
set_option maxHeartbeats 2000000 in
theorem rremap_yes (p b n X W V : Nat) (F : Nat → Nat) (dir a : Int) (o u q : Bool) (B : Int) (w : World) (hm : Rm w p b n F) (hX : X < n) (hW : F X = W) (h0 : ((W : Int) == 0) = false) (hV : V < 18446744073709551616)
    (HD : ∀ w', w.grownBy w' none → Calls Try.prog 48 #[.pointer (some ⟨p, 0, none⟩), .int .i64 dir, .int .i64 a, .int .i64 dir] w' fun e w'' => e = .returned (.tuple #[.int .i64 X, .int .i64 0]) ∧ w'.grownBy w'' none)
    (HU : ∀ w', Calls Try.prog 49 #[.int .u64 (W : Int)] w' fun e w'' => e = .returned (.tuple #[ev ⟨u, q, B⟩, .int .i64 0]) ∧ w'.grownBy w'' none)
    (HE : ∀ w', Calls Try.prog 47 #[.int .i64 B, .bool o] w' fun e w'' => e = .returned (.int .u64 (V : Int)) ∧ w'.grownBy w'' none) :
    Calls Try.prog 30 #[.pointer (some ⟨p, 0, none⟩), .int .i64 dir, .int .i64 a, .bool o] w fun e w' => e = .returned (.int .i64 0) ∧ Rm w' p b n (M.st F X V) ∧ w.grownBy w' (some b) := by
  have hn := hm.is.hi
  have HM := hideIt hm
  clear hm
  go_enter Try.func30, Try.ntmps30
  go_wp2_with fail
  refine (HD _ (gbRefl _ _)).mono ?_
  rintro e w1 ⟨rfl, g1⟩
  have R1 := hideIt (HM.out.kept g1)
  have c1 := R1.out.is.cell
  have k1 := R1.out.is.row.cell hX
  rw [hW] at k1
  clear HD HM
  go_wp2_with fail
  refine (HU _).mono ?_
  rintro e w2 ⟨rfl, g2⟩
  clear c1 k1
  go_upto_region 5 with fail
  obtain ⟨W3, hW3, Y, h3⟩ := boxNew w2 ⟨u, q, B⟩ 73
  simp only at hW3
  rw [hW3]
  clear hW3
  have G3 := gbTrans (gbTrans g1 g2) h3
  have R3 := hideIt (R1.out.kept (gbTrans g2 h3))
  have hne : ¬ w2.heap.size = b := by have := (R1.out.kept g2).blt; omega
  clear g1 g2 h3 R1
  have c3 := R3.out.is.cell
  have k3 := R3.out.is.row.cell hX
  rw [hW] at k3
  have f3 := R3.out.is.row.frozen X
  have Rd := hideIt (R3.out.kept (gbDrew (gbRefl W3 none)))
  have Yd := Y.kept (gbDrew (gbRefl W3 none))
  have S3 := Y.two c3
  have Sd := Yd.two Rd.out.is.cell
  simp only at S3 Sd
  go_upto_region 9 with fail
  go_region_held3 (fun w' => w'.cell? ⟨p, 0, none⟩ = some (.slice (some ⟨b, 0, none⟩) n n) ∧ w'.cell? ⟨w2.heap.size, 2, none⟩ = some (.int .i64 B))
    (first | with_reducible exact S3 | with_reducible exact Sd | with_reducible exact S4 | with_reducible exact S5 | fail)
    ((go_at_call 47; refine (HE _).mono ?_; rintro e w4 ⟨rfl, g4⟩; have R4 := hideIt (Rd.out.kept g4); have S4 := (Yd.kept g4).two R4.out.is.cell; have k4 := R4.out.is.row.cell hX; have f4 := R4.out.is.row.frozen X; have S5 := ((Yd.kept g4).keep (gbSetCell w4 b X (.int .u64 (V : Int))) (by simpa using hne)).two (R4.out.st X V hV).is.cell; simp only at S4 S5))
  go_wp2
  go_ret
  exact ⟨rfl, R4.out.st X V hV, gbTrans (gbAny (gbTrans G3 (gbTrans (gbDrew (gbRefl W3 none)) g4)) _) (gbSetCell _ _ _ _)⟩
theorem rremap_is (w : World) (p b n : Nat) (F G : Nat → Nat) (dir a f : Int) (o : Bool) (hm : Rm w p b n F) (h : M.chg F (M.tp n F dir a true) (M.alw o) = (f, G)) :
    Calls Try.prog 30 #[.pointer (some ⟨p, 0, none⟩), .int .i64 dir, .int .i64 a, .bool o] w fun e w' => e = .returned (.int .i64 f) ∧ Rm w' p b n G ∧ w.grownBy w' (some b) := by
  have hn := hm.is.hi
  rw [← M.tp_self] at h
  obtain ⟨⟨x, k⟩, hd⟩ : ∃ q, M.tp n F dir a (M.al n dir) = q := ⟨_, rfl⟩
  have HD := fun w' (k : w.grownBy w' none) => rsecond_is w' p b n F dir a dir _ _ (hm.kept k) hd
  rw [hd] at h
  by_cases c : k = 0
  · subst c
    obtain ⟨X, rfl, hX⟩ := M.tp_lt hd
    obtain ⟨W, hW⟩ : ∃ W, F X = W := ⟨_, rfl⟩
    obtain ⟨⟨⟨u, q, B⟩, k⟩, hu⟩ : ∃ y, M.up W = y := ⟨_, rfl⟩
    have HU := fun w' => runpack_is W _ k (by rw [← hW]; exact hm.lt X) hu w'
    by_cases c0 : W = 0
    · rw [M.chg_yes (v := 0) (k := 3) (by unfold M.alw; rw [if_pos (by omega)])] at h
      simp only [Prod.mk.injEq] at h
      obtain ⟨rfl, h⟩ := h
      rw [if_neg (by omega)] at h
      subst h
      exact (rremap_none p b n X W F dir a o u q B k w hm hX hW (by simp [c0]) HD HU).mono fun _ _ ⟨e, g⟩ => ⟨e, hm.kept g, gbAny g _⟩
    · by_cases c2 : k = 0
      · subst c2
        obtain ⟨Q, hQ, hQ'⟩ := M.up_ok hu
        have hu1 : u = true := by
          by_cases hc : W % 2 = 1 ∧ W < 65536 ∧ W / 4 % 4 = 0
          · rw [M.up_odd hc.1 hc.2.1 hc.2.2] at hu
            simp only [Prod.mk.injEq, E.mk.injEq] at hu
            exact hu.1.1.symm
          · rw [M.up_no c0 hc] at hu
            simp at hu
        simp only at hQ
        subst hu1 hQ
        have hV : M.pk ⟨true, o, ((16 * Q : Nat) : Int)⟩ = ((M.wd Q o : Int), 0) := M.wd_pk o hQ'
        rw [M.chg_yes (v := (M.wd Q o : Int)) (k := 0) (by unfold M.alw; rw [if_neg (by omega), hW, hu]; simp only [if_true]; exact hV)] at h
        simp only [Prod.mk.injEq, if_true, Int.toNat_natCast] at h
        obtain ⟨rfl, rfl⟩ := h
        exact rremap_yes p b n X W (M.wd Q o) F dir a o true q _ w hm hX hW (by simp [c0]) (by unfold M.wd; split <;> omega) HD HU (fun w' => rentry_is _ o _ 0 hV w')
      · rw [M.chg_yes (v := 0) (k := 12) (by unfold M.alw; rw [if_neg (by omega), hW, hu]; simp only; rw [if_neg c2])] at h
        simp only [Prod.mk.injEq] at h
        obtain ⟨rfl, h⟩ := h
        rw [if_neg (by omega)] at h
        subst h
        exact (rremap_fault p b n X W F dir a o u q B k w hm hX hW (by simp [c0]) (by simp [c2]) HD HU).mono fun _ _ ⟨e, g⟩ => ⟨e, hm.kept g, gbAny g _⟩
  · rw [M.chg_no c] at h
    simp only [Prod.mk.injEq] at h
    obtain ⟨rfl, rfl⟩ := h
    exact (rremap_err p dir a x _ o w (by simp [c]) HD).mono fun _ _ ⟨e, g⟩ => ⟨e, hm.kept g, gbAny g _⟩

set_option maxHeartbeats 2000000 in
theorem ract_is (w : World) (p b n : Nat) (F G : Nat → Nat) (q : Q) (f : Int) (hm : Rm w p b n F) (h : M.act n F q = (f, G)) :
    Calls Try.prog 10 #[.pointer (some ⟨p, 0, none⟩), ov q] w fun e w' => e = .returned (.int .i64 f) ∧ Rm w' p b n G ∧ w.grownBy w' (some b) := by
  obtain ⟨W0, hW0, X0, g0⟩ := oboxNew w q
  obtain ⟨k, d, a, t, o⟩ := q
  dsimp only [oCells] at hW0
  obtain ⟨x0, x1, x2, x3, x4, xl⟩ := X0
  simp only at x0 x1 x2 x3 x4
  unfold M.act at h
  simp only at h
  have HM := hideIt hm
  clear hm
  by_cases k0 : (k == 0) = true
  · rw [if_pos k0] at h
    replace h := hideIt h
    go_enter Try.func10, Try.ntmps10
    go_wp2_with fail
    refine (rtable_is _ p b n F G d a f t (HM.out.kept g0) h.out).mono ?_
    rintro e w1 ⟨rfl, m1, g1⟩
    clear hW0 x0 x1 x2 x3 x4
    go_wp2
    go_ret
    exact ⟨rfl, m1, gbTrans (gbAny g0 _) g1⟩
  rw [if_neg k0] at h
  have k0 : (k == 0) = false := by simpa using k0
  by_cases k1 : (k == 1) = true
  · rw [if_pos k1] at h
    replace h := hideIt h
    go_enter Try.func10, Try.ntmps10
    go_wp2_with fail
    refine (runtable_is _ p b n F G d a f (HM.out.kept g0) h.out).mono ?_
    rintro e w1 ⟨rfl, m1, g1⟩
    clear hW0 x0 x1 x2 x3 x4
    go_wp2
    go_ret
    exact ⟨rfl, m1, gbTrans (gbAny g0 _) g1⟩
  rw [if_neg k1] at h
  have k1 : (k == 1) = false := by simpa using k1
  by_cases k2 : (k == 2) = true
  · rw [if_pos k2] at h
    replace h := hideIt h
    go_enter Try.func10, Try.ntmps10
    go_wp2_with fail
    refine (rmap_is _ p b n F G d a f t o (HM.out.kept g0) h.out).mono ?_
    rintro e w1 ⟨rfl, m1, g1⟩
    clear hW0 x0 x1 x2 x3 x4
    go_wp2
    go_ret
    exact ⟨rfl, m1, gbTrans (gbAny g0 _) g1⟩
  rw [if_neg k2] at h
  have k2 : (k == 2) = false := by simpa using k2
  by_cases k3 : (k == 3) = true
  · rw [if_pos k3] at h
    replace h := hideIt h
    go_enter Try.func10, Try.ntmps10
    go_wp2_with fail
    refine (runmap_is _ p b n F G d a f (HM.out.kept g0) h.out).mono ?_
    rintro e w1 ⟨rfl, m1, g1⟩
    clear hW0 x0 x1 x2 x3 x4
    go_wp2
    go_ret
    exact ⟨rfl, m1, gbTrans (gbAny g0 _) g1⟩
  rw [if_neg k3] at h
  have k3 : (k == 3) = false := by simpa using k3
  replace h := hideIt h
  go_enter Try.func10, Try.ntmps10
  go_wp2_with fail
  refine (rremap_is _ p b n F G d a f o (HM.out.kept g0) h.out).mono ?_
  rintro e w1 ⟨rfl, m1, g1⟩
  clear hW0 x0 x1 x2 x3 x4
  go_wp2
  go_ret
  exact ⟨rfl, m1, gbTrans (gbAny g0 _) g1⟩
end Go.Proofs.Ytfdnangceomeiaa
