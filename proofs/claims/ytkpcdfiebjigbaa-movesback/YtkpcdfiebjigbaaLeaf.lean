/-
  THE CONTRACTS of the functions of packages bits and rights that package cap calls.
-/
import Derived.Test.YtkpcdfiebjigbaaPlain
namespace Go.Proofs.Ytkpcdfiebjigbaa
open Go.RowKit

set_option maxHeartbeats 400000 in
theorem rt_check_any (a : Int) (w : World) : Calls Try.prog 64 #[.int .i64 a] w fun e w' => e = .returned (.bool (M.ck a)) ∧ w' = w := by
  by_cases c1 : 0 ≤ a
  · by_cases c2 : a ≤ 7
    · go_enter Try.func64, Try.ntmps64
      go_wp2
      go_ret
      exact ⟨ret_bool (by simp [M.ck, c1, c2]), rfl⟩
    · go_enter Try.func64, Try.ntmps64
      go_wp2
      go_ret
      exact ⟨ret_bool (by simp [M.ck]; omega), rfl⟩
  · go_enter Try.func64, Try.ntmps64
    go_wp2
    go_ret
    exact ⟨ret_bool (by simp [M.ck]; omega), rfl⟩

theorem rt_check_is (a : Int) (v : Bool) (h : M.ck a = v) (w : World) : Calls Try.prog 64 #[.int .i64 a] w fun e w' => e = .returned (.bool v) ∧ w' = w := by
  subst h; exact rt_check_any a w

set_option maxHeartbeats 400000 in
theorem rt_mask_any (a b : Int) (w : World) : Calls Try.prog 65 #[.int .i64 a, .int .i64 b] w fun e w' => e = .returned (.int .i64 (M.msk a b)) ∧ w' = w := by
  by_cases c1 : M.ck a = true
  · by_cases c2 : M.ck b = true
    · obtain ⟨A, rfl, hA⟩ := M.ck_nat c1
      obtain ⟨B, rfl, hB⟩ := M.ck_nat c2
      rw [M.msk_nat hA hB]
      go_enter Try.func65, Try.ntmps65
      go_wp2_with fail
      refine (rt_check_is A true c1 _).mono ?_
      rintro e w' ⟨rfl, rfl⟩
      go_wp2_with fail
      refine (rt_check_is B true c2 _).mono ?_
      rintro e w' ⟨rfl, rfl⟩
      go_wp2
      go_ret
      exact ⟨ret_int (M.and_val hA hB), rfl⟩
    · rw [Bool.not_eq_true] at c2
      go_enter Try.func65, Try.ntmps65
      go_wp2_with fail
      refine (rt_check_is a true c1 _).mono ?_
      rintro e w' ⟨rfl, rfl⟩
      go_wp2_with fail
      refine (rt_check_is b false c2 _).mono ?_
      rintro e w' ⟨rfl, rfl⟩
      go_wp2
      go_ret
      exact ⟨ret_int (by simp [M.msk, c2]), rfl⟩
  · rw [Bool.not_eq_true] at c1
    go_enter Try.func65, Try.ntmps65
    go_wp2_with fail
    refine (rt_check_is a false c1 _).mono ?_
    rintro e w' ⟨rfl, rfl⟩
    go_wp2
    go_ret
    exact ⟨ret_int (by simp [M.msk, c1]), rfl⟩

theorem rt_mask_is (a b v : Int) (h : M.msk a b = v) (w : World) : Calls Try.prog 65 #[.int .i64 a, .int .i64 b] w fun e w' => e = .returned (.int .i64 v) ∧ w' = w := by
  subst h; exact rt_mask_any a b w

end Go.Proofs.Ytkpcdfiebjigbaa
