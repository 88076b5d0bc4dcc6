/-
  THE CONTRACT of 'works', the laws' own look whether the layer does anything: it returns true.
-/
import Derived.Test.YtenakllafignmabLeaf
namespace Go.Proofs.Ytenakllafignmab
open Go.RowKit

theorem wk1 (w : World) : Calls Try.prog 9 #[.int .u64 0, .int .i64 4, .int .i64 3, .int .u64 5] w fun e w' => e = .returned (.tuple #[.int .u64 80, .int .i64 0]) ∧ ∃ q, w' = w.drewN q := by
  have h := put_yes 0 4 3 5 w (by decide) (by decide) (by decide) (by decide)
  rw [show M.putN 0 4 3 5 = 80 by decide] at h
  exact h
theorem wk2 (w : World) : Calls Try.prog 8 #[.int .u64 80, .int .i64 4, .int .i64 3] w fun e w' => e = .returned (.tuple #[.int .u64 5, .int .i64 0]) ∧ ∃ q, w' = w.drewN q := by
  have h := get_yes 80 4 3 w (by decide) (by decide) (by decide)
  rw [show M.getN 80 4 3 = 5 by decide] at h
  exact h
theorem wk3 (w : World) : Calls Try.prog 9 #[.int .u64 0, .int .i64 4, .int .i64 3, .int .u64 8] w fun e w' => e = .returned (.tuple #[.int .u64 0, .int .i64 10]) ∧ w' = w :=
  put_field 0 4 3 8 w (by decide) (by decide) (by decide)
theorem wk4 (w : World) : Calls Try.prog 10 #[.int .i64 5, .int .i64 2] w fun e w' => e = .returned (.tuple #[.int .i64 8, .int .i64 0]) ∧ w' = w := by
  have h := up_yes 5 2 w (by decide) (by decide)
  rw [show M.upN 5 2 = 8 by decide] at h
  exact h
theorem wk5 (w : World) : Calls Try.prog 6 #[.int .u64 80] w fun e w' => e = .returned (.int .i64 6) ∧ w' = w := by
  have h := high_any 80 w (by decide)
  rw [show M.highN 80 64 = 6 by decide] at h
  exact h
theorem wk6 (w : World) : Calls Try.prog 7 #[.int .u64 80] w fun e w' => e = .returned (.int .i64 4) ∧ w' = w := by
  have h := low_any 80 w (by decide)
  rw [show M.lowN 80 64 0 = 4 by decide] at h
  exact h
theorem wk7 (w : World) : Calls Try.prog 11 #[.int .u64 80] w fun e w' => e = .returned (.int .i64 2) ∧ w' = w := by
  have h := ones_any 80 w (by decide)
  rw [show M.cntN 80 64 = 2 by decide] at h
  exact h
theorem wk8 (w : World) : Calls Try.prog 6 #[.int .u64 0] w fun e w' => e = .returned (.int .i64 (-1)) ∧ w' = w := by
  have h := high_any 0 w (by decide)
  rw [show M.highN 0 64 = -1 by decide] at h
  exact h

set_option maxHeartbeats 1000000 in
theorem works_any (w : World) : Calls Try.prog 5 #[] w fun e w' => e = .returned (.bool true) ∧ ∃ q, w' = w.drewN q := by
  go_enter Try.func5, Try.ntmps5
  go_wp2_with fail
  refine (wk1 _).mono ?_
  rintro e w1 ⟨rfl, q1, rfl⟩
  go_wp2_with fail
  refine (wk2 _).mono ?_
  rintro e w1 ⟨rfl, q2, rfl⟩
  go_wp2_with fail
  refine (wk3 _).mono ?_
  rintro e w1 ⟨rfl, rfl⟩
  go_wp2_with fail
  refine (wk4 _).mono ?_
  rintro e w1 ⟨rfl, rfl⟩
  go_wp2_with fail
  refine (wk5 _).mono ?_
  rintro e w1 ⟨rfl, rfl⟩
  go_wp2_with fail
  refine (wk6 _).mono ?_
  rintro e w1 ⟨rfl, rfl⟩
  go_wp2_with fail
  refine (wk7 _).mono ?_
  rintro e w1 ⟨rfl, rfl⟩
  go_wp2_with fail
  refine (wk8 _).mono ?_
  rintro e w1 ⟨rfl, rfl⟩
  go_wp2
  go_ret
  exact ⟨rfl, _, rfl⟩
end Go.Proofs.Ytenakllafignmab
