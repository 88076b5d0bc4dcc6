/-
  THE CONTRACTS of package bits' functions that the layer line calls, over this seat's translation.
-/
import Derived.Test.YtpacgdplbddclaaBase
import Derived.Test.YtpacgdplbddclaaMath
namespace Go.Proofs.Ytpacgdplbddclaa
set_option maxRecDepth 10000
open Go.RowKit
set_option linter.unusedVariables false

set_option maxHeartbeats 400000 in
theorem isOne_any (W i : Nat) (w : World) (hW : W < 18446744073709551616) (hi : i < 64) :
    Calls Try.prog 50 #[.int .u64 W, .int .i64 i] w fun e w' => e = .returned (.bool (W.testBit i)) ∧ w' = w := by
  go_enter Try.func50, Try.ntmps50
  go_wp2
  go_ret
  exact ⟨ret_bool (M.isOne_val W i hW), rfl⟩

set_option maxHeartbeats 400000 in
theorem lowest_any (n : Nat) (w : World) (h0 : 1 ≤ n) (hi : n ≤ 64) :
    Calls Try.prog 53 #[.int .i64 n] w fun e w' => e = .returned (.int .u64 ((2 ^ n - 1 : Nat) : Int)) ∧ w' = w := by
  go_enter Try.func53, Try.ntmps53
  go_wp2
  go_ret
  exact ⟨ret_int (M.lowest_val n hi), rfl⟩

set_option maxHeartbeats 400000 in
theorem isField_yes (a n : Nat) (w : World) (h0 : 1 ≤ n) (h1 : a + n ≤ 64) :
    Calls Try.prog 52 #[.int .i64 a, .int .i64 n] w fun e w' => e = .returned (.bool true) ∧ w' = w := by
  have h2 : (a : Int) ≤ 64 - (n : Int) := by omega
  go_enter Try.func52, Try.ntmps52
  go_wp2
  go_ret
  exact ⟨rfl, rfl⟩

set_option maxHeartbeats 400000 in
theorem put_yes (W a n v : Nat) (w : World) (hW : W < 18446744073709551616) (h0 : 1 ≤ n) (h1 : a + n ≤ 64) (hv : v < 2 ^ n) :
    Calls Try.prog 51 #[.int .u64 W, .int .i64 a, .int .i64 n, .int .u64 v] w fun e w' => e = .returned (.tuple #[.int .u64 (M.putN W a n v : Nat), .int .i64 0]) ∧ ∃ q, w' = w.drewN q := by
  have hv' : ¬ ((2 ^ n - 1 : Nat) : Int) < (v : Int) := by omega
  go_enter Try.func51, Try.ntmps51
  go_wp2_with (first | (go_at_call 52; refine (isField_yes a n _ h0 h1).mono ?_; rintro e w' ⟨rfl, rfl⟩) | (go_at_call 53; refine (lowest_any n _ h0 (by omega)).mono ?_; rintro e w' ⟨rfl, rfl⟩))
  go_quiet ((go_at_call 53; exact Calls.quiet_of_same (lowest_any _ _ h0 (by omega))))
  go_wp2
  go_ret2
  exact ⟨ret_int2 (M.put_val W a n v hW h1 hv), _, rfl⟩

set_option maxHeartbeats 400000 in
theorem high_any (W : Nat) (w : World) (hW : W < 18446744073709551616) :
    Calls Try.prog 44 #[.int .u64 W] w fun e w' => e = .returned (.int .i64 (M.highN W 64)) ∧ w' = w := by
  go_enter Try.func44, Try.ntmps44
  go_wp2
  go_loop [3, 5] (fun c i => ∃ k : Nat, k ≤ 64 ∧ i = .int .i64 k ∧ c = .int .i64 (M.highN W k)) (fun _ i => 64 - (intOf i).toNat)
  case atStart => exact ⟨0, by omega, rfl, rfl⟩
  case round =>
    obtain ⟨k, hk, rfl, rfl⟩ := hrel
    by_cases hlt : k < 64
    · have HS : Hid (M.highN W (k + 1) = if W.testBit k then (k : Int) else M.highN W k) := (rfl : _ = _)
      go_wp2_with (go_at_call 50; refine (isOne_any W k _ hW hlt).mono ?_; rintro e w' ⟨rfl, rfl⟩)
      all_goals
        go_round
        case rel => exact ⟨k + 1, by omega, by go_num, by rw [HS.out, ‹W.testBit k = _›]; rfl⟩
        case measure => simp [intOf]; omega
    · have hk' : k = 64 := by omega
      subst hk'
      go_wp2
      go_ret
      exact ⟨rfl, rfl⟩
end Go.Proofs.Ytpacgdplbddclaa
