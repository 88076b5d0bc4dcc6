/-
  THE CONTRACTS of the document's side: donjonref12's Pack, Unpack, Split, by the same plain functions.
-/
import Derived.Test.YtfdnangceomeiaaUnpk
namespace Go.Proofs.Ytfdnangceomeiaa
set_option maxRecDepth 10000
open Go.RowKit

theorem M.pk_valid {o : Bool} {a : Int} (h : M.pg a = true) : M.pk ⟨true, o, a⟩ = (a + 1 + (if o then 2 else 0), 0) := by
  have c : M.ce ⟨true, o, a⟩ = 0 := by simp only [M.ce, if_true, h]
  simp only [M.pk, c, if_true, M.pw]
theorem M.pk_align {o : Bool} {a : Int} (h : M.pg a = false) : M.pk ⟨true, o, a⟩ = (0, 9) := by
  have c : M.ce ⟨true, o, a⟩ = 9 := by simp only [M.ce, if_true, h, Bool.false_eq_true, if_false]
  simp only [M.pk, c]; rfl
theorem M.pk_zero : M.pk E.zero = (0, 0) := by decide
theorem M.pk_field {o : Bool} {a : Int} (h : M.eq ⟨false, o, a⟩ E.zero = false) : M.pk ⟨false, o, a⟩ = (0, 10) := by
  have c : M.ce ⟨false, o, a⟩ = 10 := by simp only [M.ce, if_false, h, Bool.false_eq_true]
  simp only [M.pk, c]; rfl

theorem M.up_odd {W : Nat} (h1 : W % 2 = 1) (h2 : W < 65536) (h3 : W / 4 % 4 = 0) : M.up W = (⟨true, W / 2 % 2 == 1, ((W / 16 * 16 : Nat) : Int)⟩, 0) := by
  have e : M.fe W = ⟨true, W / 2 % 2 == 1, ((W / 16 * 16 : Nat) : Int)⟩ := by
    simp only [M.fe, E.mk.injEq, true_and, beq_iff_eq]
    omega
  have p : M.pg ((W / 16 * 16 : Nat) : Int) = true := by
    simp only [M.pg, Bool.and_eq_true, decide_eq_true_eq, beq_iff_eq]
    omega
  have q : M.pk (M.fe W) = ((W : Int), 0) := by
    rw [e, M.pk_valid p]
    simp only [Prod.mk.injEq, and_true, beq_iff_eq]
    split <;> omega
  unfold M.up
  rw [if_pos q, e]
theorem M.up_zero : M.up 0 = (E.zero, 0) := by
  have q : M.pk (M.fe 0) = (((0 : Nat) : Int), 0) := by decide
  unfold M.up
  rw [if_pos q]
  rfl
theorem M.up_no {W : Nat} (h0 : W ≠ 0) (h : ¬ (W % 2 = 1 ∧ W < 65536 ∧ W / 4 % 4 = 0)) : M.up W = (E.zero, 10) := by
  have q : ¬ M.pk (M.fe W) = ((W : Int), 0) := by
    intro q
    unfold M.pk at q
    by_cases c : M.ce (M.fe W) = 0
    · rw [if_pos c] at q
      simp only [Prod.mk.injEq, and_true] at q
      unfold M.pw M.fe at q
      simp only [beq_iff_eq] at q
      split at q
      · split at q <;> omega
      · omega
    · rw [if_neg c] at q
      simp only [Prod.mk.injEq] at q
      exact c q.2
  unfold M.up
  rw [if_neg q]

set_option maxHeartbeats 800000 in
theorem rpack_is (v o : Bool) (a x f : Int) (h : M.pk ⟨v, o, a⟩ = (x, f)) (w : World) :
    Calls Try.prog 61 #[ev ⟨v, o, a⟩] w fun e w' => e = .returned (.tuple #[.int .u64 x, .int .i64 f]) ∧ w.grownBy w' none := by
  cases v
  · cases o
    · cases c : (a != 0)
      · obtain rfl : a = 0 := by simpa using c
        obtain ⟨rfl, rfl⟩ : 0 = x ∧ 0 = f := by simpa using M.pk_zero.symm.trans h
        clear h
        go_enter Try.func61, Try.ntmps61
        go_wp2
        go_ret2
        exact ⟨rfl, gbAlloc _ _ _⟩
      · have q : M.eq ⟨false, false, a⟩ E.zero = false := by rw [Bool.eq_false_iff]; intro e; have := M.eq_iff.1 e; simp_all
        obtain ⟨rfl, rfl⟩ : 0 = x ∧ 10 = f := by simpa using (M.pk_field q).symm.trans h
        clear h q
        go_enter Try.func61, Try.ntmps61
        go_wp2
        go_ret2
        exact ⟨rfl, gbAlloc _ _ _⟩
    · have q : M.eq ⟨false, true, a⟩ E.zero = false := by rw [Bool.eq_false_iff]; intro e; have := M.eq_iff.1 e; simp_all
      obtain ⟨rfl, rfl⟩ : 0 = x ∧ 10 = f := by simpa using (M.pk_field q).symm.trans h
      clear h q
      go_enter Try.func61, Try.ntmps61
      go_wp2
      go_ret2
      exact ⟨rfl, gbAlloc _ _ _⟩
  · cases c : M.pg a
    · obtain ⟨rfl, rfl⟩ : 0 = x ∧ 9 = f := by simpa using (M.pk_align c).symm.trans h
      clear h
      by_cases c1 : a < 0
      · clear c
        go_enter Try.func61, Try.ntmps61
        go_wp2
        go_ret2
        exact ⟨rfl, gbAlloc _ _ _⟩
      · by_cases c2 : 65520 < a
        · clear c
          go_enter Try.func61, Try.ntmps61
          go_wp2
          go_ret2
          exact ⟨rfl, gbAlloc _ _ _⟩
        · have c3 : (a % 16 != 0) = true := by
            simp only [M.pg, Bool.and_eq_false_iff, decide_eq_false_iff_not, beq_eq_false_iff_ne] at c
            simp only [bne_iff_ne]
            omega
          clear c
          go_enter Try.func61, Try.ntmps61
          go_wp2
          go_ret2
          exact ⟨rfl, gbAlloc _ _ _⟩
    · obtain ⟨rfl, rfl⟩ : (a + 1 + if o = true then 2 else 0) = x ∧ 0 = f := by simpa using (M.pk_valid c).symm.trans h
      clear h
      obtain ⟨P, rfl, hP⟩ := M.pg_nat c
      clear c
      obtain ⟨A, hA⟩ : ∃ A : Nat, A = 16 * P := ⟨_, rfl⟩
      have c1 : A ≤ 65520 := by omega
      have c2 : ((A : Int) % 16 != 0) = false := by simp only [bne_eq_false_iff_eq]; omega
      rw [← hA]
      clear hA hP
      cases o
      all_goals
        go_enter Try.func61, Try.ntmps61
        go_wp2
        go_ret2
        exact ⟨ret_int2 (by simp; try omega), gbAlloc _ _ _⟩

set_option maxHeartbeats 800000 in
theorem runpack_big (W : Int) (d0 : (W == 0) = false) (c1 : 65536 ≤ W) (w : World) :
    Calls Try.prog 49 #[.int .u64 W] w fun e w' => e = .returned (.tuple #[ev E.zero, .int .i64 10]) ∧ w.grownBy w' none := by
  have G0 := gbAlloc w (.cells #[.bool false, .bool false, .int .i64 0] 73) none
  go_enter Try.func49, Try.ntmps49
  go_wp2
  exact bodyPost_ret (v := .tuple #[ev E.zero, .int .i64 10]) (by simp [results, Try.results49, go_sem]) rfl ⟨rfl, by repeat (first | with_reducible exact G0 | refine gbSetNew ?_ _ _ _ (by omega))⟩

set_option maxHeartbeats 800000 in
theorem runpack_even (W : Int) (h0 : 0 ≤ W) (hW : W < 18446744073709551616) (d0 : (W == 0) = false) (c1 : W < 65536) (d1 : (W % 2 != 1) = true) (w : World) :
    Calls Try.prog 49 #[.int .u64 W] w fun e w' => e = .returned (.tuple #[ev E.zero, .int .i64 10]) ∧ w.grownBy w' none := by
  have G0 := gbAlloc w (.cells #[.bool false, .bool false, .int .i64 0] 73) none
  go_enter Try.func49, Try.ntmps49
  go_wp2
  exact bodyPost_ret (v := .tuple #[ev E.zero, .int .i64 10]) (by simp [results, Try.results49, go_sem]) rfl ⟨rfl, by repeat (first | with_reducible exact G0 | refine gbSetNew ?_ _ _ _ (by omega))⟩

set_option maxHeartbeats 800000 in
theorem runpack_bits (W : Int) (h0 : 0 ≤ W) (hW : W < 18446744073709551616) (d0 : (W == 0) = false) (c1 : W < 65536) (d1 : (W % 2 != 1) = false) (d2 : (W / 4 % 4 != 0) = true) (w : World) :
    Calls Try.prog 49 #[.int .u64 W] w fun e w' => e = .returned (.tuple #[ev E.zero, .int .i64 10]) ∧ w.grownBy w' none := by
  have G0 := gbAlloc w (.cells #[.bool false, .bool false, .int .i64 0] 73) none
  go_enter Try.func49, Try.ntmps49
  go_wp2
  exact bodyPost_ret (v := .tuple #[ev E.zero, .int .i64 10]) (by simp [results, Try.results49, go_sem]) rfl ⟨rfl, by repeat (first | with_reducible exact G0 | refine gbSetNew ?_ _ _ _ (by omega))⟩

set_option maxHeartbeats 800000 in
theorem runpack_yes (W A : Int) (b : Bool) (h0 : 0 ≤ W) (hW : W < 18446744073709551616) (d0 : (W == 0) = false) (c1 : W < 65536) (d1 : (W % 2 != 1) = false) (d2 : (W / 4 % 4 != 0) = false)
    (d3 : (W / 2 % 2 == 1) = b) (d4 : W / 16 * 16 = A) (a0 : 0 ≤ A) (a1 : A < 65536) (w : World) :
    Calls Try.prog 49 #[.int .u64 W] w fun e w' => e = .returned (.tuple #[ev ⟨true, b, A⟩, .int .i64 0]) ∧ w.grownBy w' none := by
  have G0 := gbAlloc w (.cells #[.bool true, .bool b, .int .i64 A] 73) none
  go_enter Try.func49, Try.ntmps49
  go_wp2
  exact bodyPost_ret (v := .tuple #[ev ⟨true, b, A⟩, .int .i64 0]) (by simp [results, Try.results49, go_sem]) rfl ⟨rfl, by repeat (first | with_reducible exact G0 | refine gbSetNew ?_ _ _ _ (by omega))⟩

set_option maxHeartbeats 800000 in
theorem runpack_zero (w : World) :
    Calls Try.prog 49 #[.int .u64 0] w fun e w' => e = .returned (.tuple #[ev E.zero, .int .i64 0]) ∧ w.grownBy w' none := by
  have G0 := gbAlloc w (.cells #[.bool false, .bool false, .int .i64 0] 73) none
  go_enter Try.func49, Try.ntmps49
  go_wp2
  exact bodyPost_ret (v := .tuple #[ev E.zero, .int .i64 0]) (by simp [results, Try.results49, go_sem]) rfl ⟨rfl, by repeat (first | with_reducible exact G0 | refine gbSetNew ?_ _ _ _ (by omega))⟩

theorem runpack_is (W : Nat) (c : E) (f : Int) (hW : W < 18446744073709551616) (h : M.up W = (c, f)) (w : World) :
    Calls Try.prog 49 #[.int .u64 W] w fun e w' => e = .returned (.tuple #[ev c, .int .i64 f]) ∧ w.grownBy w' none := by
  by_cases h0 : W = 0
  · subst h0
    obtain ⟨rfl, rfl⟩ : E.zero = c ∧ 0 = f := by simpa using M.up_zero.symm.trans h
    exact runpack_zero w
  · have p0 : (0 : Int) ≤ W := by omega
    have p1 : (W : Int) < 18446744073709551616 := by omega
    have d0 : ((W : Int) == 0) = false := by simp only [beq_eq_false_iff_ne]; omega
    by_cases hc : W % 2 = 1 ∧ W < 65536 ∧ W / 4 % 4 = 0
    · obtain ⟨rfl, rfl⟩ : (⟨true, W / 2 % 2 == 1, ((W / 16 * 16 : Nat) : Int)⟩ : E) = c ∧ 0 = f := by
        have := (M.up_odd hc.1 hc.2.1 hc.2.2).symm.trans h
        simp only [Prod.mk.injEq] at this
        exact this
      obtain ⟨h1, h2, h3⟩ := hc
      exact runpack_yes W _ _ p0 p1 d0 (by omega) (by simp only [bne_eq_false_iff_eq]; omega) (by simp only [bne_eq_false_iff_eq]; omega)
        (by rw [Bool.eq_iff_iff]; simp only [beq_iff_eq]; omega) (by omega) (by omega) (by omega) w
    · obtain ⟨rfl, rfl⟩ : E.zero = c ∧ 10 = f := by simpa using (M.up_no h0 hc).symm.trans h
      by_cases c1 : 65536 ≤ W
      · exact runpack_big W d0 (by omega) w
      · by_cases c2 : W % 2 = 1
        · exact runpack_bits W p0 p1 d0 (by omega) (by simp only [bne_eq_false_iff_eq]; omega) (by simp only [bne_iff_ne]; omega) w
        · exact runpack_even W p0 p1 d0 (by omega) (by simp only [bne_iff_ne]; omega) w

set_option maxHeartbeats 400000 in
theorem rsplit_is (a x y z f : Int) (h : M.sp a = (x, y, z, f)) (w : World) :
    Calls Try.prog 53 #[.int .i64 a] w fun e w' => e = .returned (.tuple #[.int .i64 x, .int .i64 y, .int .i64 z, .int .i64 f]) ∧ w.grownBy w' none := by
  unfold M.sp at h
  by_cases c : M.isA a = true
  · rw [if_pos c] at h
    simp only [Prod.mk.injEq] at h
    obtain ⟨rfl, rfl, rfl, rfl⟩ := h
    obtain ⟨A, rfl, hA⟩ := M.isA_nat c
    clear c
    go_enter Try.func53, Try.ntmps53
    go_wp2
    exact bodyPost_ret (v := .tuple #[.int .i64 ((A : Int) / 256), .int .i64 ((A : Int) / 16 % 16), .int .i64 ((A : Int) % 16), .int .i64 0]) (by simp [results, Try.results53, go_sem]) rfl ⟨rfl, gbRefl _ _⟩
  · rw [if_neg c] at h
    simp only [Prod.mk.injEq] at h
    obtain ⟨rfl, rfl, rfl, rfl⟩ := h
    by_cases c1 : a < 0
    · clear c
      go_enter Try.func53, Try.ntmps53
      go_wp2
      exact bodyPost_ret (v := .tuple #[.int .i64 0, .int .i64 0, .int .i64 0, .int .i64 1]) (by simp [results, Try.results53, go_sem]) rfl ⟨rfl, gbRefl _ _⟩
    · have c2 : 4095 < a := by
        simp only [M.isA, Bool.and_eq_true, decide_eq_true_eq] at c
        omega
      clear c
      go_enter Try.func53, Try.ntmps53
      go_wp2
      exact bodyPost_ret (v := .tuple #[.int .i64 0, .int .i64 0, .int .i64 0, .int .i64 1]) (by simp [results, Try.results53, go_sem]) rfl ⟨rfl, gbRefl _ _⟩
end Go.Proofs.Ytfdnangceomeiaa
