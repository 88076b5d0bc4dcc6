/-
  THE CONTRACTS of package bits' functions that the layer irq calls, over this seat's translation.
-/
import Derived.Test.YtekohlbafhlldaaBase
import Derived.Test.YtekohlbafhlldaaMath
namespace Go.Proofs.Ytekohlbafhlldaa
set_option maxRecDepth 10000
open Go.RowKit
set_option linter.unusedVariables false

set_option maxHeartbeats 400000 in
theorem lowest_any (n : Nat) (w : World) (h0 : 1 ≤ n) (hi : n ≤ 64) :
    Calls Try.prog 35 #[.int .i64 n] w fun e w' => e = .returned (.int .u64 ((2 ^ n - 1 : Nat) : Int)) ∧ w' = w := by
  go_enter Try.func35, Try.ntmps35
  go_wp2
  go_ret
  exact ⟨ret_int (M.lowest_val n hi), rfl⟩

set_option maxHeartbeats 400000 in
theorem isField_yes (a n : Nat) (w : World) (h0 : 1 ≤ n) (h1 : a + n ≤ 64) :
    Calls Try.prog 34 #[.int .i64 a, .int .i64 n] w fun e w' => e = .returned (.bool true) ∧ w' = w := by
  have h2 : (a : Int) ≤ 64 - (n : Int) := by omega
  go_enter Try.func34, Try.ntmps34
  go_wp2
  go_ret
  exact ⟨rfl, rfl⟩

set_option maxHeartbeats 400000 in
theorem put_yes (W a n v : Nat) (w : World) (hW : W < 18446744073709551616) (h0 : 1 ≤ n) (h1 : a + n ≤ 64) (hv : v < 2 ^ n) :
    Calls Try.prog 33 #[.int .u64 W, .int .i64 a, .int .i64 n, .int .u64 v] w fun e w' => e = .returned (.tuple #[.int .u64 (M.putN W a n v : Nat), .int .i64 0]) ∧ ∃ q, w' = w.drewN q := by
  have hv' : ¬ ((2 ^ n - 1 : Nat) : Int) < (v : Int) := by omega
  go_enter Try.func33, Try.ntmps33
  go_wp2_with (first | (go_at_call 34; refine (isField_yes a n _ h0 h1).mono ?_; rintro e w' ⟨rfl, rfl⟩) | (go_at_call 35; refine (lowest_any n _ h0 (by omega)).mono ?_; rintro e w' ⟨rfl, rfl⟩))
  go_quiet ((go_at_call 35; exact Calls.quiet_of_same (lowest_any _ _ h0 (by omega))))
  go_wp2
  go_ret2
  exact ⟨ret_int2 (M.put_val W a n v hW h1 hv), _, rfl⟩
end Go.Proofs.Ytekohlbafhlldaa
