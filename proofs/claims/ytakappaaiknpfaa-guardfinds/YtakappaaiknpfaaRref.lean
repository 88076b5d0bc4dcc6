/-
  THE DOCUMENT'S SIDE: what donjonref05 calls of donjonref01 and donjonref04.
-/
import Derived.Test.YtakappaaiknpfaaLeaf
import Derived.Deep.LoopGhost
namespace Go.Proofs.Ytakappaaiknpfaa
open Go.RowKit

set_option maxHeartbeats 400000 in
theorem rcheck_any (a : Int) (w : World) : Calls Try.prog 41 #[.int .i64 a] w fun e w' => e = .returned (.bool (M.ck a)) ∧ w' = w := by
  by_cases c1 : 0 ≤ a
  · by_cases c2 : a ≤ 7
    · go_enter Try.func41, Try.ntmps41
      go_wp2
      go_ret
      exact ⟨ret_bool (by simp [M.ck, c1, c2]), rfl⟩
    · go_enter Try.func41, Try.ntmps41
      go_wp2
      go_ret
      exact ⟨ret_bool (by simp [M.ck]; omega), rfl⟩
  · go_enter Try.func41, Try.ntmps41
    go_wp2
    go_ret
    exact ⟨ret_bool (by simp [M.ck]; omega), rfl⟩

theorem rcheck_is (a : Int) (v : Bool) (h : M.ck a = v) (w : World) : Calls Try.prog 41 #[.int .i64 a] w fun e w' => e = .returned (.bool v) ∧ w' = w := by
  subst h; exact rcheck_any a w

/-- Whether a right is there, told by a division. -/
def M.hs (r n : Nat) : Bool := r / n % 2 == 1

end Go.Proofs.Ytakappaaiknpfaa
