/-
  THE CONTRACTS of the functions that say what becomes of a word, and of become.
-/
import Derived.Test.YtfdnangceomeiaaTab
namespace Go.Proofs.Ytfdnangceomeiaa
set_option maxRecDepth 10000
open Go.RowKit
set_option linter.unusedVariables false

abbrev fLay (x : Nat) : Value := .func (.func 56) #[] #[.pointer (some ⟨x, 0, none⟩)]
abbrev fAlw (x : Nat) : Value := .func (.func 60) #[] #[.pointer (some ⟨x, 0, none⟩)]
abbrev fOut : Value := .func (.func 42) #[] #[]

set_option maxHeartbeats 400000 in
theorem layin_is (w : World) (c : E) : Calls Try.prog 40 #[ev c] w fun e w' => ∃ x, e = .returned (fLay x) ∧ Box w' x c ∧ w.grownBy w' none := by
  obtain ⟨u, o, a⟩ := c
  obtain ⟨W1, hW1, X1, g1⟩ := boxNew w ⟨u, o, a⟩ 69
  simp only at hW1
  go_enter Try.func40, Try.ntmps40
  go_wp2
  go_ret
  exact ⟨_, rfl, X1, g1⟩
set_option maxHeartbeats 400000 in
theorem allow_is (w : World) (o : Bool) : Calls Try.prog 44 #[.bool o] w fun e w' => ∃ x, e = .returned (fAlw x) ∧ w'.cell? ⟨x, 0, none⟩ = some (.bool o) ∧ w.grownBy w' none := by
  go_enter Try.func44, Try.ntmps44
  go_wp2
  go_ret
  exact ⟨_, rfl, by simp, gbAlloc _ _ _⟩

set_option maxHeartbeats 400000 in
theorem lay1_is (w : World) (W x : Nat) (c : E) (v f : Int) (hb : Box w x c) (h : M.lay c W = (v, f)) :
    Calls Try.prog 56 #[.int .u64 (W : Int), .pointer (some ⟨x, 0, none⟩)] w fun e w' => e = .returned (.tuple #[.int .u64 v, .int .i64 f]) ∧ w.grownBy w' none := by
  obtain ⟨u, o, a⟩ := c
  unfold M.lay at h
  obtain ⟨a0, a1, a2, lt, fr⟩ := hb
  simp only at a0 a1 a2
  by_cases c : W = 0
  · subst c
    rw [if_pos rfl] at h
    have HP := fun w' => pack_is u o a v f h w'
    clear h
    go_enter Try.func56, Try.ntmps56
    go_wp2_with fail
    refine (HP _).mono ?_
    rintro e w1 ⟨rfl, g1⟩
    go_wp2
    go_ret2
    exact ⟨rfl, g1⟩
  · rw [if_neg c] at h
    simp only [Prod.mk.injEq] at h
    obtain ⟨rfl, rfl⟩ := h
    have c1 : ((W : Int) != 0) = true := by simp [c]
    clear c
    go_enter Try.func56, Try.ntmps56
    go_wp2
    go_ret2
    exact ⟨rfl, gbRefl _ _⟩

set_option maxHeartbeats 400000 in
theorem out_is (w : World) (W : Nat) (v f : Int) (h : M.out W = (v, f)) :
    Calls Try.prog 42 #[.int .u64 (W : Int)] w fun e w' => e = .returned (.tuple #[.int .u64 v, .int .i64 f]) ∧ w.grownBy w' none := by
  unfold M.out at h
  by_cases c : W = 0
  · subst c
    rw [if_pos rfl] at h
    simp only [Prod.mk.injEq] at h
    obtain ⟨rfl, rfl⟩ := h
    go_enter Try.func42, Try.ntmps42
    go_wp2
    go_ret2
    exact ⟨rfl, gbRefl _ _⟩
  · rw [if_neg c] at h
    simp only [Prod.mk.injEq] at h
    obtain ⟨rfl, rfl⟩ := h
    have c1 : ((W : Int) == 0) = false := by simp [c]
    clear c
    go_enter Try.func42, Try.ntmps42
    go_wp2
    go_ret2
    exact ⟨rfl, gbRefl _ _⟩

set_option maxHeartbeats 1000000 in
theorem alw1_is (w : World) (W x : Nat) (o : Bool) (v f : Int) (hW : W < 18446744073709551616) (hb : w.cell? ⟨x, 0, none⟩ = some (.bool o)) (h : M.alw o W = (v, f)) :
    Calls Try.prog 60 #[.int .u64 (W : Int), .pointer (some ⟨x, 0, none⟩)] w fun e w' => e = .returned (.tuple #[.int .u64 v, .int .i64 f]) ∧ w.grownBy w' none := by
  unfold M.alw at h
  have xl := World.block_lt_of_cell? w _ hb
  simp only at xl
  by_cases c : W = 0
  · subst c
    rw [if_pos rfl] at h
    simp only [Prod.mk.injEq] at h
    obtain ⟨rfl, rfl⟩ := h
    go_enter Try.func60, Try.ntmps60
    go_wp2
    go_ret2
    exact ⟨rfl, gbRefl _ _⟩
  · rw [if_neg c] at h
    obtain ⟨⟨⟨u, q, B⟩, k⟩, hu⟩ : ∃ y, M.up W = y := ⟨_, rfl⟩
    have HU := fun w' => unpack_is W _ k hW hu w'
    rw [hu] at h
    simp only at h
    have c1 : ((W : Int) == 0) = false := by simp [c]
    clear c hu
    by_cases d : k = 0
    · subst d
      rw [if_pos rfl] at h
      have HP := fun w' => pack_is u o B v f h w'
      clear h
      go_enter Try.func60, Try.ntmps60
      go_wp2_with fail
      refine (HU _).mono ?_
      rintro e w1 ⟨rfl, g1⟩
      go_upto_region 4 with fail
      obtain ⟨W2, hW2, Y, h2⟩ := boxNew w1 ⟨u, q, B⟩ 69
      simp only at hW2
      rw [hW2]
      clear hW2
      have G2 := gbTrans g1 h2
      have hb2 := G2.cell hb (by simp)
      have nx : ¬ x = w1.heap.size := by have := g1.size; omega
      have sz := g1.size
      obtain ⟨z0, z1, z2, zt, zf⟩ := Y
      simp only at z0 z1 z2
      have f1 := zf 1
      clear h2 hb
      go_wp2_with fail
      refine (HP _).mono ?_
      rintro e w3 ⟨rfl, g3⟩
      go_wp2
      go_ret2
      exact ⟨rfl, gbTrans (gbSetNew G2 _ _ _ (by omega)) g3⟩
    · rw [if_neg d] at h
      simp only [Prod.mk.injEq] at h
      obtain ⟨rfl, rfl⟩ := h
      have d1 : (k != 0) = true := by simp [d]
      clear d
      go_enter Try.func60, Try.ntmps60
      go_wp2_with fail
      refine (HU _).mono ?_
      rintro e w1 ⟨rfl, g1⟩
      go_wp2
      go_ret2
      exact ⟨rfl, gbAllocN g1 _⟩

/-- A word that is put is a word. -/
def Wd (v f : Int) : Prop := f = 0 → ∃ V : Nat, v = (V : Int) ∧ V < 18446744073709551616
theorem M.pk_wd {c : E} {v f : Int} (h : M.pk c = (v, f)) : Wd v f := by
  intro e
  obtain ⟨u, o, a⟩ := c
  unfold M.pk at h
  by_cases k : M.ce ⟨u, o, a⟩ = 0
  · rw [if_pos k] at h
    simp only [Prod.mk.injEq] at h
    rcases M.ce_ok k with ⟨rfl, P, rfl, hP⟩ | ⟨rfl, rfl, rfl⟩
    · refine ⟨16 * P + 1 + (if o then 2 else 0), ?_, by split <;> omega⟩
      rw [← h.1]
      simp only [M.pw, if_true]
      cases o <;> simp
    · exact ⟨0, by rw [← h.1]; rfl, by omega⟩
  · rw [if_neg k] at h
    simp only [Prod.mk.injEq] at h
    exact absurd (h.2.trans e) k
theorem M.lay_wd {c : E} {W : Nat} {v f : Int} (h : M.lay c W = (v, f)) : Wd v f := by
  unfold M.lay at h
  by_cases k : W = 0
  · rw [if_pos k] at h; exact M.pk_wd h
  · rw [if_neg k] at h
    simp only [Prod.mk.injEq] at h
    intro e; omega
theorem M.out_wd {W : Nat} {v f : Int} (h : M.out W = (v, f)) : Wd v f := by
  unfold M.out at h
  by_cases k : W = 0
  · rw [if_pos k] at h
    simp only [Prod.mk.injEq] at h
    intro e; omega
  · rw [if_neg k] at h
    simp only [Prod.mk.injEq] at h
    exact fun _ => ⟨0, by omega, by omega⟩
theorem M.alw_wd {o : Bool} {W : Nat} {v f : Int} (h : M.alw o W = (v, f)) : Wd v f := by
  unfold M.alw at h
  by_cases k : W = 0
  · rw [if_pos k] at h
    simp only [Prod.mk.injEq] at h
    intro e; omega
  · rw [if_neg k] at h
    by_cases d : (M.up W).2 = 0
    · rw [if_pos d] at h; exact M.pk_wd h
    · rw [if_neg d] at h
      simp only [Prod.mk.injEq] at h
      intro e; omega
theorem Mm.st {w : World} {p b n : Nat} {F : Nat → Nat} (h : Mm w p b n F) (x v : Nat) (hx : x < n) (hv : v < 18446744073709551616) :
    Calls Try.prog 25 #[.pointer (some ⟨p, 0, none⟩), .int .i64 x, .int .u64 v] w fun e w' => e = .returned (.int .i64 0) ∧ Mm w' p b n (M.st F x v) ∧ w.grownBy w' (some b) := h.put x v hx hv

set_option maxHeartbeats 1000000 in
theorem become_lay_no (p X : Nat) (W v f : Int) (x : Nat) (w : World) (hf : (f != 0) = true)
    (HG : ∀ w', w.grownBy w' none → Calls Try.prog 37 #[.pointer (some ⟨p, 0, none⟩), .int .i64 X] w' fun e w'' => e = .returned (.tuple #[.int .u64 W, .int .i64 0]) ∧ w'.grownBy w'' none)
    (HF : ∀ w', w.grownBy w' none → Calls Try.prog 56 #[.int .u64 W, .pointer (some ⟨x, 0, none⟩)] w' fun e w'' => e = .returned (.tuple #[.int .u64 v, .int .i64 f]) ∧ w'.grownBy w'' none) :
    Calls Try.prog 39 #[.pointer (some ⟨p, 0, none⟩), .int .i64 X, fLay x] w fun e w' => e = .returned (.int .i64 f) ∧ w.grownBy w' none := by
  go_enter Try.func39, Try.ntmps39
  go_wp2_with fail
  refine (HG _ (gbRefl _ _)).mono ?_
  rintro e w1 ⟨rfl, g1⟩
  go_wp2_with fail
  refine (HF _ g1).mono ?_
  rintro e w2 ⟨rfl, g2⟩
  go_wp2
  go_ret
  exact ⟨rfl, gbTrans g1 g2⟩
set_option maxHeartbeats 1000000 in
theorem become_lay_yes (p b n X V : Nat) (W : Int) (G : Nat → Nat) (x : Nat) (w : World)
    (HG : ∀ w', w.grownBy w' none → Calls Try.prog 37 #[.pointer (some ⟨p, 0, none⟩), .int .i64 X] w' fun e w'' => e = .returned (.tuple #[.int .u64 W, .int .i64 0]) ∧ w'.grownBy w'' none)
    (HF : ∀ w', w.grownBy w' none → Calls Try.prog 56 #[.int .u64 W, .pointer (some ⟨x, 0, none⟩)] w' fun e w'' => e = .returned (.tuple #[.int .u64 (V : Int), .int .i64 0]) ∧ w'.grownBy w'' none)
    (HP : ∀ w', w.grownBy w' none → Calls Try.prog 25 #[.pointer (some ⟨p, 0, none⟩), .int .i64 X, .int .u64 (V : Int)] w' fun e w'' => e = .returned (.int .i64 0) ∧ Mm w'' p b n G ∧ w'.grownBy w'' (some b)) :
    Calls Try.prog 39 #[.pointer (some ⟨p, 0, none⟩), .int .i64 X, fLay x] w fun e w' => e = .returned (.int .i64 0) ∧ Mm w' p b n G ∧ w.grownBy w' (some b) := by
  go_enter Try.func39, Try.ntmps39
  go_wp2_with fail
  refine (HG _ (gbRefl _ _)).mono ?_
  rintro e w1 ⟨rfl, g1⟩
  go_wp2_with fail
  refine (HF _ g1).mono ?_
  rintro e w2 ⟨rfl, g2⟩
  have G2 := gbTrans g1 g2
  go_wp2_with fail
  refine (HP _ G2).mono ?_
  rintro e w3 ⟨rfl, m3, g3⟩
  go_wp2
  go_ret
  exact ⟨rfl, m3, gbTrans (gbAny G2 _) g3⟩
theorem become_lay (w : World) (p b n X : Nat) (F : Nat → Nat) (v f : Int) (x : Nat) (hm : Mm w p b n F) (hX : X < n) (hw : Wd v f)
    (HF : ∀ w', w.grownBy w' none → Calls Try.prog 56 #[.int .u64 (F X : Int), .pointer (some ⟨x, 0, none⟩)] w' fun e w'' => e = .returned (.tuple #[.int .u64 v, .int .i64 f]) ∧ w'.grownBy w'' none) :
    Calls Try.prog 39 #[.pointer (some ⟨p, 0, none⟩), .int .i64 X, fLay x] w fun e w' => e = .returned (.int .i64 f) ∧ Mm w' p b n (if f = 0 then M.st F X v.toNat else F) ∧ w.grownBy w' (some b) := by
  have HG := fun w' (k : w.grownBy w' none) => hm.get k X hX
  by_cases c : f = 0
  · subst c
    obtain ⟨V, rfl, hV⟩ := hw rfl
    rw [if_pos rfl, Int.toNat_natCast]
    exact become_lay_yes p b n X V _ _ x w HG HF (fun w' k => (hm.kept k).st X V hX hV)
  · rw [if_neg c]
    exact (become_lay_no p X _ v f x w (by simp [c]) HG HF).mono fun _ _ ⟨e, g⟩ => ⟨e, hm.kept g, gbAny g _⟩

set_option maxHeartbeats 1000000 in
theorem become_alw_no (p X : Nat) (W v f : Int) (x : Nat) (w : World) (hf : (f != 0) = true)
    (HG : ∀ w', w.grownBy w' none → Calls Try.prog 37 #[.pointer (some ⟨p, 0, none⟩), .int .i64 X] w' fun e w'' => e = .returned (.tuple #[.int .u64 W, .int .i64 0]) ∧ w'.grownBy w'' none)
    (HF : ∀ w', w.grownBy w' none → Calls Try.prog 60 #[.int .u64 W, .pointer (some ⟨x, 0, none⟩)] w' fun e w'' => e = .returned (.tuple #[.int .u64 v, .int .i64 f]) ∧ w'.grownBy w'' none) :
    Calls Try.prog 39 #[.pointer (some ⟨p, 0, none⟩), .int .i64 X, fAlw x] w fun e w' => e = .returned (.int .i64 f) ∧ w.grownBy w' none := by
  go_enter Try.func39, Try.ntmps39
  go_wp2_with fail
  refine (HG _ (gbRefl _ _)).mono ?_
  rintro e w1 ⟨rfl, g1⟩
  go_wp2_with fail
  refine (HF _ g1).mono ?_
  rintro e w2 ⟨rfl, g2⟩
  go_wp2
  go_ret
  exact ⟨rfl, gbTrans g1 g2⟩
set_option maxHeartbeats 1000000 in
theorem become_alw_yes (p b n X V : Nat) (W : Int) (G : Nat → Nat) (x : Nat) (w : World)
    (HG : ∀ w', w.grownBy w' none → Calls Try.prog 37 #[.pointer (some ⟨p, 0, none⟩), .int .i64 X] w' fun e w'' => e = .returned (.tuple #[.int .u64 W, .int .i64 0]) ∧ w'.grownBy w'' none)
    (HF : ∀ w', w.grownBy w' none → Calls Try.prog 60 #[.int .u64 W, .pointer (some ⟨x, 0, none⟩)] w' fun e w'' => e = .returned (.tuple #[.int .u64 (V : Int), .int .i64 0]) ∧ w'.grownBy w'' none)
    (HP : ∀ w', w.grownBy w' none → Calls Try.prog 25 #[.pointer (some ⟨p, 0, none⟩), .int .i64 X, .int .u64 (V : Int)] w' fun e w'' => e = .returned (.int .i64 0) ∧ Mm w'' p b n G ∧ w'.grownBy w'' (some b)) :
    Calls Try.prog 39 #[.pointer (some ⟨p, 0, none⟩), .int .i64 X, fAlw x] w fun e w' => e = .returned (.int .i64 0) ∧ Mm w' p b n G ∧ w.grownBy w' (some b) := by
  go_enter Try.func39, Try.ntmps39
  go_wp2_with fail
  refine (HG _ (gbRefl _ _)).mono ?_
  rintro e w1 ⟨rfl, g1⟩
  go_wp2_with fail
  refine (HF _ g1).mono ?_
  rintro e w2 ⟨rfl, g2⟩
  have G2 := gbTrans g1 g2
  go_wp2_with fail
  refine (HP _ G2).mono ?_
  rintro e w3 ⟨rfl, m3, g3⟩
  go_wp2
  go_ret
  exact ⟨rfl, m3, gbTrans (gbAny G2 _) g3⟩
theorem become_alw (w : World) (p b n X : Nat) (F : Nat → Nat) (v f : Int) (x : Nat) (hm : Mm w p b n F) (hX : X < n) (hw : Wd v f)
    (HF : ∀ w', w.grownBy w' none → Calls Try.prog 60 #[.int .u64 (F X : Int), .pointer (some ⟨x, 0, none⟩)] w' fun e w'' => e = .returned (.tuple #[.int .u64 v, .int .i64 f]) ∧ w'.grownBy w'' none) :
    Calls Try.prog 39 #[.pointer (some ⟨p, 0, none⟩), .int .i64 X, fAlw x] w fun e w' => e = .returned (.int .i64 f) ∧ Mm w' p b n (if f = 0 then M.st F X v.toNat else F) ∧ w.grownBy w' (some b) := by
  have HG := fun w' (k : w.grownBy w' none) => hm.get k X hX
  by_cases c : f = 0
  · subst c
    obtain ⟨V, rfl, hV⟩ := hw rfl
    rw [if_pos rfl, Int.toNat_natCast]
    exact become_alw_yes p b n X V _ _ x w HG HF (fun w' k => (hm.kept k).st X V hX hV)
  · rw [if_neg c]
    exact (become_alw_no p X _ v f x w (by simp [c]) HG HF).mono fun _ _ ⟨e, g⟩ => ⟨e, hm.kept g, gbAny g _⟩

set_option maxHeartbeats 1000000 in
theorem become_out_no (p X : Nat) (W v f : Int)  (w : World) (hf : (f != 0) = true)
    (HG : ∀ w', w.grownBy w' none → Calls Try.prog 37 #[.pointer (some ⟨p, 0, none⟩), .int .i64 X] w' fun e w'' => e = .returned (.tuple #[.int .u64 W, .int .i64 0]) ∧ w'.grownBy w'' none)
    (HF : ∀ w', w.grownBy w' none → Calls Try.prog 42 #[.int .u64 W] w' fun e w'' => e = .returned (.tuple #[.int .u64 v, .int .i64 f]) ∧ w'.grownBy w'' none) :
    Calls Try.prog 39 #[.pointer (some ⟨p, 0, none⟩), .int .i64 X, fOut] w fun e w' => e = .returned (.int .i64 f) ∧ w.grownBy w' none := by
  go_enter Try.func39, Try.ntmps39
  go_wp2_with fail
  refine (HG _ (gbRefl _ _)).mono ?_
  rintro e w1 ⟨rfl, g1⟩
  go_wp2_with fail
  refine (HF _ g1).mono ?_
  rintro e w2 ⟨rfl, g2⟩
  go_wp2
  go_ret
  exact ⟨rfl, gbTrans g1 g2⟩
set_option maxHeartbeats 1000000 in
theorem become_out_yes (p b n X V : Nat) (W : Int) (G : Nat → Nat)  (w : World)
    (HG : ∀ w', w.grownBy w' none → Calls Try.prog 37 #[.pointer (some ⟨p, 0, none⟩), .int .i64 X] w' fun e w'' => e = .returned (.tuple #[.int .u64 W, .int .i64 0]) ∧ w'.grownBy w'' none)
    (HF : ∀ w', w.grownBy w' none → Calls Try.prog 42 #[.int .u64 W] w' fun e w'' => e = .returned (.tuple #[.int .u64 (V : Int), .int .i64 0]) ∧ w'.grownBy w'' none)
    (HP : ∀ w', w.grownBy w' none → Calls Try.prog 25 #[.pointer (some ⟨p, 0, none⟩), .int .i64 X, .int .u64 (V : Int)] w' fun e w'' => e = .returned (.int .i64 0) ∧ Mm w'' p b n G ∧ w'.grownBy w'' (some b)) :
    Calls Try.prog 39 #[.pointer (some ⟨p, 0, none⟩), .int .i64 X, fOut] w fun e w' => e = .returned (.int .i64 0) ∧ Mm w' p b n G ∧ w.grownBy w' (some b) := by
  go_enter Try.func39, Try.ntmps39
  go_wp2_with fail
  refine (HG _ (gbRefl _ _)).mono ?_
  rintro e w1 ⟨rfl, g1⟩
  go_wp2_with fail
  refine (HF _ g1).mono ?_
  rintro e w2 ⟨rfl, g2⟩
  have G2 := gbTrans g1 g2
  go_wp2_with fail
  refine (HP _ G2).mono ?_
  rintro e w3 ⟨rfl, m3, g3⟩
  go_wp2
  go_ret
  exact ⟨rfl, m3, gbTrans (gbAny G2 _) g3⟩
theorem become_out (w : World) (p b n X : Nat) (F : Nat → Nat) (v f : Int)  (hm : Mm w p b n F) (hX : X < n) (hw : Wd v f)
    (HF : ∀ w', w.grownBy w' none → Calls Try.prog 42 #[.int .u64 (F X : Int)] w' fun e w'' => e = .returned (.tuple #[.int .u64 v, .int .i64 f]) ∧ w'.grownBy w'' none) :
    Calls Try.prog 39 #[.pointer (some ⟨p, 0, none⟩), .int .i64 X, fOut] w fun e w' => e = .returned (.int .i64 f) ∧ Mm w' p b n (if f = 0 then M.st F X v.toNat else F) ∧ w.grownBy w' (some b) := by
  have HG := fun w' (k : w.grownBy w' none) => hm.get k X hX
  by_cases c : f = 0
  · subst c
    obtain ⟨V, rfl, hV⟩ := hw rfl
    rw [if_pos rfl, Int.toNat_natCast]
    exact become_out_yes p b n X V _ _  w HG HF (fun w' k => (hm.kept k).st X V hX hV)
  · rw [if_neg c]
    exact (become_out_no p X _ v f  w (by simp [c]) HG HF).mono fun _ _ ⟨e, g⟩ => ⟨e, hm.kept g, gbAny g _⟩
end Go.Proofs.Ytfdnangceomeiaa
