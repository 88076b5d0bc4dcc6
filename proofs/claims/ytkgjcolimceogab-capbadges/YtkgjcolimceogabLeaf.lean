/-
  THE CONTRACTS of the functions of packages bits and rights that package cap calls.
-/
import Derived.Test.YtkgjcolimceogabPlain
namespace Go.Proofs.Ytkgjcolimceogab
open Go.RowKit

set_option maxHeartbeats 400000 in
theorem rt_check_any (a : Int) (w : World) : Calls Try.prog 19 #[.int .i64 a] w fun e w' => e = .returned (.bool (M.ck a)) ∧ w' = w := by
  by_cases c1 : 0 ≤ a
  · by_cases c2 : a ≤ 7
    · go_enter Try.func19, Try.ntmps19
      go_wp2
      go_ret
      exact ⟨ret_bool (by simp [M.ck, c1, c2]), rfl⟩
    · go_enter Try.func19, Try.ntmps19
      go_wp2
      go_ret
      exact ⟨ret_bool (by simp [M.ck]; omega), rfl⟩
  · go_enter Try.func19, Try.ntmps19
    go_wp2
    go_ret
    exact ⟨ret_bool (by simp [M.ck]; omega), rfl⟩

theorem rt_check_is (a : Int) (v : Bool) (h : M.ck a = v) (w : World) : Calls Try.prog 19 #[.int .i64 a] w fun e w' => e = .returned (.bool v) ∧ w' = w := by
  subst h; exact rt_check_any a w

set_option maxHeartbeats 400000 in
theorem rt_mask_any (a b : Int) (w : World) : Calls Try.prog 20 #[.int .i64 a, .int .i64 b] w fun e w' => e = .returned (.int .i64 (M.msk a b)) ∧ w' = w := by
  by_cases c1 : M.ck a = true
  · by_cases c2 : M.ck b = true
    · obtain ⟨A, rfl, hA⟩ := M.ck_nat c1
      obtain ⟨B, rfl, hB⟩ := M.ck_nat c2
      rw [M.msk_nat hA hB]
      go_enter Try.func20, Try.ntmps20
      go_wp2_with fail
      refine (rt_check_is A true c1 _).mono ?_
      rintro e w' ⟨rfl, rfl⟩
      go_wp2_with fail
      refine (rt_check_is B true c2 _).mono ?_
      rintro e w' ⟨rfl, rfl⟩
      go_wp2
      go_ret
      exact ⟨ret_int (M.and_val hA hB), rfl⟩
    · rw [Bool.not_eq_true] at c2
      go_enter Try.func20, Try.ntmps20
      go_wp2_with fail
      refine (rt_check_is a true c1 _).mono ?_
      rintro e w' ⟨rfl, rfl⟩
      go_wp2_with fail
      refine (rt_check_is b false c2 _).mono ?_
      rintro e w' ⟨rfl, rfl⟩
      go_wp2
      go_ret
      exact ⟨ret_int (by simp [M.msk, c2]), rfl⟩
  · rw [Bool.not_eq_true] at c1
    go_enter Try.func20, Try.ntmps20
    go_wp2_with fail
    refine (rt_check_is a false c1 _).mono ?_
    rintro e w' ⟨rfl, rfl⟩
    go_wp2
    go_ret
    exact ⟨ret_int (by simp [M.msk, c1]), rfl⟩

theorem rt_mask_is (a b v : Int) (h : M.msk a b = v) (w : World) : Calls Try.prog 20 #[.int .i64 a, .int .i64 b] w fun e w' => e = .returned (.int .i64 v) ∧ w' = w := by
  subst h; exact rt_mask_any a b w

set_option maxHeartbeats 400000 in
theorem rt_within_any (a b : Int) (w : World) : Calls Try.prog 16 #[.int .i64 a, .int .i64 b] w fun e w' => e = .returned (.bool (M.wth a b)) ∧ w' = w := by
  by_cases c1 : M.ck a = true
  · by_cases c2 : M.ck b = true
    · go_enter Try.func16, Try.ntmps16
      go_wp2_with fail
      refine (rt_check_is a true c1 _).mono ?_
      rintro e w' ⟨rfl, rfl⟩
      go_wp2_with fail
      refine (rt_check_is b true c2 _).mono ?_
      rintro e w' ⟨rfl, rfl⟩
      go_wp2_with fail
      refine (rt_mask_any a b _).mono ?_
      rintro e w' ⟨rfl, rfl⟩
      go_wp2
      go_ret
      exact ⟨ret_bool (by simp [M.wth, c1, c2]), rfl⟩
    · rw [Bool.not_eq_true] at c2
      go_enter Try.func16, Try.ntmps16
      go_wp2_with fail
      refine (rt_check_is a true c1 _).mono ?_
      rintro e w' ⟨rfl, rfl⟩
      go_wp2_with fail
      refine (rt_check_is b false c2 _).mono ?_
      rintro e w' ⟨rfl, rfl⟩
      go_wp2
      go_ret
      exact ⟨ret_bool (by simp [M.wth, c2]), rfl⟩
  · rw [Bool.not_eq_true] at c1
    go_enter Try.func16, Try.ntmps16
    go_wp2_with fail
    refine (rt_check_is a false c1 _).mono ?_
    rintro e w' ⟨rfl, rfl⟩
    go_wp2
    go_ret
    exact ⟨ret_bool (by simp [M.wth, c1]), rfl⟩

theorem rt_within_is (a b : Int) (v : Bool) (h : M.wth a b = v) (w : World) : Calls Try.prog 16 #[.int .i64 a, .int .i64 b] w fun e w' => e = .returned (.bool v) ∧ w' = w := by
  subst h; exact rt_within_any a b w
set_option maxHeartbeats 400000 in
theorem lowest_any (n : Nat) (w : World) (h0 : 1 ≤ n) (hi : n ≤ 64) :
    Calls Try.prog 22 #[.int .i64 n] w fun e w' => e = .returned (.int .u64 ((2 ^ n - 1 : Nat) : Int)) ∧ w' = w := by
  go_enter Try.func22, Try.ntmps22
  go_wp2
  go_ret
  exact ⟨ret_int (M.lowest_val n hi), rfl⟩

set_option maxHeartbeats 400000 in
theorem isField_yes (a n : Nat) (w : World) (h0 : 1 ≤ n) (h1 : a + n ≤ 64) :
    Calls Try.prog 21 #[.int .i64 a, .int .i64 n] w fun e w' => e = .returned (.bool true) ∧ w' = w := by
  have h2 : (a : Int) ≤ 64 - (n : Int) := by omega
  go_enter Try.func21, Try.ntmps21
  go_wp2
  go_ret
  exact ⟨rfl, rfl⟩

set_option maxHeartbeats 400000 in
theorem get_yes (W a n : Nat) (w : World) (hW : W < 18446744073709551616) (h0 : 1 ≤ n) (h1 : a + n ≤ 64) :
    Calls Try.prog 27 #[.int .u64 W, .int .i64 a, .int .i64 n] w fun e w' => e = .returned (.tuple #[.int .u64 (M.getN W a n : Nat), .int .i64 0]) ∧ ∃ q, w' = w.drewN q := by
  go_enter Try.func27, Try.ntmps27
  go_wp2_with (go_at_call 21; refine (isField_yes a n _ h0 h1).mono ?_; rintro e w' ⟨rfl, rfl⟩)
  go_quiet ((go_at_call 22; exact Calls.quiet_of_same (lowest_any _ _ h0 (by omega))))
  go_wp2
  go_ret2
  exact ⟨ret_int2 (M.get_val W a n hW (by omega)), _, rfl⟩

set_option maxHeartbeats 400000 in
theorem put_yes (W a n v : Nat) (w : World) (hW : W < 18446744073709551616) (h0 : 1 ≤ n) (h1 : a + n ≤ 64) (hv : v < 2 ^ n) :
    Calls Try.prog 13 #[.int .u64 W, .int .i64 a, .int .i64 n, .int .u64 v] w fun e w' => e = .returned (.tuple #[.int .u64 (M.putN W a n v : Nat), .int .i64 0]) ∧ ∃ q, w' = w.drewN q := by
  have hv' : ¬ ((2 ^ n - 1 : Nat) : Int) < (v : Int) := by omega
  go_enter Try.func13, Try.ntmps13
  go_wp2_with (first | (go_at_call 21; refine (isField_yes a n _ h0 h1).mono ?_; rintro e w' ⟨rfl, rfl⟩) | (go_at_call 22; refine (lowest_any n _ h0 (by omega)).mono ?_; rintro e w' ⟨rfl, rfl⟩))
  go_quiet ((go_at_call 22; exact Calls.quiet_of_same (lowest_any _ _ h0 (by omega))))
  go_wp2
  go_ret2
  exact ⟨ret_int2 (M.put_val W a n v hW h1 hv), _, rfl⟩

theorem getW (W a n : Nat) (w : World) (hW : W < 18446744073709551616) (h0 : 1 ≤ n) (h1 : a + n ≤ 64) :
    Calls Try.prog 27 #[.int .u64 W, .int .i64 a, .int .i64 n] w fun e w' => e = .returned (.tuple #[.int .u64 (M.getN W a n : Nat), .int .i64 0]) ∧ w.grownBy w' none :=
  (get_yes W a n w hW h0 h1).mono fun _ _ ⟨h, q, hq⟩ => ⟨h, hq ▸ gbDrewN w q none⟩
theorem putW (W a n v x : Nat) (w : World) (hx : M.putN W a n v = x) (hW : W < 18446744073709551616) (h0 : 1 ≤ n) (h1 : a + n ≤ 64) (hv : v < 2 ^ n) :
    Calls Try.prog 13 #[.int .u64 W, .int .i64 a, .int .i64 n, .int .u64 v] w fun e w' => e = .returned (.tuple #[.int .u64 x, .int .i64 0]) ∧ w.grownBy w' none :=
  (put_yes W a n v w hW h0 h1 hv).mono fun _ _ ⟨h, q, hq⟩ => ⟨hx ▸ h, hq ▸ gbDrewN w q none⟩
end Go.Proofs.Ytkgjcolimceogab
