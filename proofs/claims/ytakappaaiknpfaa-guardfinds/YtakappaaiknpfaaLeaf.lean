/-
  THE CONTRACTS of the functions of packages bits and rights that package cap calls.
-/
import Derived.Test.YtakappaaiknpfaaPlain
namespace Go.Proofs.Ytakappaaiknpfaa
open Go.RowKit

set_option maxHeartbeats 400000 in
theorem rt_check_any (a : Int) (w : World) : Calls Try.prog 47 #[.int .i64 a] w fun e w' => e = .returned (.bool (M.ck a)) ∧ w' = w := by
  by_cases c1 : 0 ≤ a
  · by_cases c2 : a ≤ 7
    · go_enter Try.func47, Try.ntmps47
      go_wp2
      go_ret
      exact ⟨ret_bool (by simp [M.ck, c1, c2]), rfl⟩
    · go_enter Try.func47, Try.ntmps47
      go_wp2
      go_ret
      exact ⟨ret_bool (by simp [M.ck]; omega), rfl⟩
  · go_enter Try.func47, Try.ntmps47
    go_wp2
    go_ret
    exact ⟨ret_bool (by simp [M.ck]; omega), rfl⟩

theorem rt_check_is (a : Int) (v : Bool) (h : M.ck a = v) (w : World) : Calls Try.prog 47 #[.int .i64 a] w fun e w' => e = .returned (.bool v) ∧ w' = w := by
  subst h; exact rt_check_any a w


end Go.Proofs.Ytakappaaiknpfaa
