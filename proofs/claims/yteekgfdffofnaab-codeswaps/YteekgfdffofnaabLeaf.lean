/-
  THE CONTRACTS of package bits' functions that package code calls.
-/
import Derived.Test.YteekgfdffofnaabBase
namespace Go.Proofs.Yteekgfdffofnaab
open Go.RowKit

set_option maxHeartbeats 400000 in
theorem lowest_any (n : Nat) (w : World) (h0 : 1 ≤ n) (hi : n ≤ 64) :
    Calls Try.prog 17 #[.int .i64 n] w fun e w' => e = .returned (.int .u64 ((2 ^ n - 1 : Nat) : Int)) ∧ w' = w := by
  go_enter Try.func17, Try.ntmps17
  go_wp2
  go_ret
  exact ⟨ret_int (M.lowest_val n hi), rfl⟩

set_option maxHeartbeats 400000 in
theorem isField_yes (a n : Nat) (w : World) (h0 : 1 ≤ n) (h1 : a + n ≤ 64) :
    Calls Try.prog 16 #[.int .i64 a, .int .i64 n] w fun e w' => e = .returned (.bool true) ∧ w' = w := by
  have h2 : (a : Int) ≤ 64 - (n : Int) := by omega
  go_enter Try.func16, Try.ntmps16
  go_wp2
  go_ret
  exact ⟨rfl, rfl⟩

set_option maxHeartbeats 400000 in
theorem get_yes (W a n : Nat) (w : World) (hW : W < 18446744073709551616) (h0 : 1 ≤ n) (h1 : a + n ≤ 64) :
    Calls Try.prog 19 #[.int .u64 W, .int .i64 a, .int .i64 n] w fun e w' => e = .returned (.tuple #[.int .u64 (M.getN W a n : Nat), .int .i64 0]) ∧ ∃ q, w' = w.drewN q := by
  go_enter Try.func19, Try.ntmps19
  go_wp2_with (go_at_call 16; refine (isField_yes a n _ h0 h1).mono ?_; rintro e w' ⟨rfl, rfl⟩)
  go_quiet ((go_at_call 17; exact Calls.quiet_of_same (lowest_any _ _ h0 (by omega))))
  go_wp2
  go_ret2
  exact ⟨ret_int2 (M.get_val W a n hW (by omega)), _, rfl⟩

set_option maxHeartbeats 400000 in
theorem put_yes (W a n v : Nat) (w : World) (hW : W < 18446744073709551616) (h0 : 1 ≤ n) (h1 : a + n ≤ 64) (hv : v < 2 ^ n) :
    Calls Try.prog 10 #[.int .u64 W, .int .i64 a, .int .i64 n, .int .u64 v] w fun e w' => e = .returned (.tuple #[.int .u64 (M.putN W a n v : Nat), .int .i64 0]) ∧ ∃ q, w' = w.drewN q := by
  have hv' : ¬ ((2 ^ n - 1 : Nat) : Int) < (v : Int) := by omega
  go_enter Try.func10, Try.ntmps10
  go_wp2_with (first | (go_at_call 16; refine (isField_yes a n _ h0 h1).mono ?_; rintro e w' ⟨rfl, rfl⟩) | (go_at_call 17; refine (lowest_any n _ h0 (by omega)).mono ?_; rintro e w' ⟨rfl, rfl⟩))
  go_quiet ((go_at_call 17; exact Calls.quiet_of_same (lowest_any _ _ h0 (by omega))))
  go_wp2
  go_ret2
  exact ⟨ret_int2 (M.put_val W a n v hW h1 hv), _, rfl⟩

theorem getW (W a n : Nat) (w : World) (hW : W < 18446744073709551616) (h0 : 1 ≤ n) (h1 : a + n ≤ 64) :
    Calls Try.prog 19 #[.int .u64 W, .int .i64 a, .int .i64 n] w fun e w' => e = .returned (.tuple #[.int .u64 (M.getN W a n : Nat), .int .i64 0]) ∧ w.grownBy w' none :=
  (get_yes W a n w hW h0 h1).mono fun _ _ ⟨h, q, hq⟩ => ⟨h, hq ▸ gbDrewN w q none⟩
theorem putW (W a n v x : Nat) (w : World) (hx : M.putN W a n v = x) (hW : W < 18446744073709551616) (h0 : 1 ≤ n) (h1 : a + n ≤ 64) (hv : v < 2 ^ n) :
    Calls Try.prog 10 #[.int .u64 W, .int .i64 a, .int .i64 n, .int .u64 v] w fun e w' => e = .returned (.tuple #[.int .u64 x, .int .i64 0]) ∧ w.grownBy w' none :=
  (put_yes W a n v w hW h0 h1 hv).mono fun _ _ ⟨h, q, hq⟩ => ⟨hx ▸ h, hq ▸ gbDrewN w q none⟩
/-- A field that is put above all that is there is added. -/
theorem M.putN_add (W a n v : Nat) (hW : W < 2 ^ a) (h : a + n ≤ 64) (hv : v < 2 ^ n) : M.putN W a n v = W + v * 2 ^ a := by
  have h64 : W < 18446744073709551616 := by
    have : 2 ^ a ≤ 2 ^ 64 := Nat.pow_le_pow_right (by omega) (by omega)
    omega
  apply Nat.eq_of_testBit_eq
  intro i
  rw [M.testBit_putN W a n v i h64 h hv, Nat.add_comm W, Nat.mul_comm v, Nat.testBit_two_pow_mul_add v hW]
  by_cases h1 : i < a
  · rw [if_neg (by omega), if_pos h1]
  · rw [if_neg h1]
    by_cases h2 : i < a + n
    · rw [if_pos ⟨by omega, h2⟩]
    · rw [if_neg (by omega)]
      have e1 : W.testBit i = false := Nat.testBit_lt_two_pow (Nat.lt_of_lt_of_le hW (Nat.pow_le_pow_right (by omega) (by omega)))
      have e2 : v.testBit (i - a) = false := Nat.testBit_lt_two_pow (Nat.lt_of_lt_of_le hv (Nat.pow_le_pow_right (by omega) (by omega)))
      rw [e1, e2]
theorem M.getN_lit (W a n v p q : Nat) (hp : 2 ^ a = p) (hq : 2 ^ n = q) (h : W / p % q = v) : M.getN W a n = v := by
  unfold M.getN; rw [hp, hq]; exact h
end Go.Proofs.Yteekgfdffofnaab
