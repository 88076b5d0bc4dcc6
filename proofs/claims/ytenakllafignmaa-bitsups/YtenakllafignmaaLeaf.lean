/-
  THE CONTRACTS of package bits' functions, one a function and a way, over this seat's translation.
-/
import Derived.Test.YtenakllafignmaaRows
import Derived.WalkKit
import Derived.WalkSpells
import Derived.WalkLawsBesides
import Derived.Deep.QuietTactic
import Derived.BigQuiet
import Derived.Test.YtenakllafignmaaMath
namespace Go.Proofs.Ytenakllafignmaa
open Go.RowKit

theorem hideIt {p : Prop} (h : p) : Hid p := h
theorem ret_bool {a b : Bool} (h : a = b) : Ending.returned (.bool a) = .returned (.bool b) := by rw [h]
theorem ret_int {k : IntKind} {a b : Int} (h : a = b) : Ending.returned (.int k a) = .returned (.int k b) := by rw [h]
theorem ret_int2 {k l : IntKind} {a b : Int} {c : Int} (h : a = b) : Ending.returned (.tuple #[.int k a, .int l c]) = .returned (.tuple #[.int k b, .int l c]) := by rw [h]

set_option maxHeartbeats 400000 in
theorem isOne_any (W i : Nat) (w : World) (hW : W < 18446744073709551616) (hi : i < 64) :
    Calls Try.prog 26 #[.int .u64 W, .int .i64 i] w fun e w' => e = .returned (.bool (W.testBit i)) ∧ w' = w := by
  go_enter Try.func26, Try.ntmps26
  go_wp2
  go_ret
  exact ⟨ret_bool (M.isOne_val W i hW), rfl⟩

set_option maxHeartbeats 400000 in
theorem lowest_any (n : Nat) (w : World) (h0 : 1 ≤ n) (hi : n ≤ 64) :
    Calls Try.prog 23 #[.int .i64 n] w fun e w' => e = .returned (.int .u64 ((2 ^ n - 1 : Nat) : Int)) ∧ w' = w := by
  go_enter Try.func23, Try.ntmps23
  go_wp2
  go_ret
  exact ⟨ret_int (M.lowest_val n hi), rfl⟩

set_option maxHeartbeats 400000 in
theorem isField_yes (a n : Nat) (w : World) (h0 : 1 ≤ n) (h1 : a + n ≤ 64) :
    Calls Try.prog 22 #[.int .i64 a, .int .i64 n] w fun e w' => e = .returned (.bool true) ∧ w' = w := by
  have h2 : (a : Int) ≤ 64 - (n : Int) := by omega
  go_enter Try.func22, Try.ntmps22
  go_wp2
  go_ret
  exact ⟨rfl, rfl⟩

set_option maxHeartbeats 400000 in
theorem isField_no (a n : Int) (w : World) (h : ¬ (1 ≤ n ∧ n ≤ 64 ∧ 0 ≤ a ∧ a ≤ 64 - n)) :
    Calls Try.prog 22 #[.int .i64 a, .int .i64 n] w fun e w' => e = .returned (.bool false) ∧ w' = w := by
  by_cases c1 : 1 ≤ n
  · by_cases c2 : n ≤ 64
    · by_cases c3 : 0 ≤ a
      · have c4 : ¬ a ≤ 64 - n := by omega
        clear h
        go_enter Try.func22, Try.ntmps22
        go_wp2
        go_ret
        exact ⟨rfl, rfl⟩
      · clear h
        go_enter Try.func22, Try.ntmps22
        go_wp2
        go_ret
        exact ⟨rfl, rfl⟩
    · clear h
      go_enter Try.func22, Try.ntmps22
      go_wp2
      go_ret
      exact ⟨rfl, rfl⟩
  · clear h
    go_enter Try.func22, Try.ntmps22
    go_wp2
    go_ret
    exact ⟨rfl, rfl⟩

set_option maxHeartbeats 400000 in
theorem get_yes (W a n : Nat) (w : World) (hW : W < 18446744073709551616) (h0 : 1 ≤ n) (h1 : a + n ≤ 64) :
    Calls Try.prog 9 #[.int .u64 W, .int .i64 a, .int .i64 n] w fun e w' => e = .returned (.tuple #[.int .u64 (M.getN W a n : Nat), .int .i64 0]) ∧ ∃ q, w' = w.drewN q := by
  go_enter Try.func9, Try.ntmps9
  go_wp2_with (go_at_call 22; refine (isField_yes a n _ h0 h1).mono ?_; rintro e w' ⟨rfl, rfl⟩)
  go_quiet ((go_at_call 23; exact Calls.quiet_of_same (lowest_any _ _ h0 (by omega))))
  go_wp2
  go_ret2
  exact ⟨ret_int2 (M.get_val W a n hW (by omega)), _, rfl⟩

set_option maxHeartbeats 400000 in
theorem get_no (W a n : Int) (w : World) (h : ¬ (1 ≤ n ∧ n ≤ 64 ∧ 0 ≤ a ∧ a ≤ 64 - n)) :
    Calls Try.prog 9 #[.int .u64 W, .int .i64 a, .int .i64 n] w fun e w' => e = .returned (.tuple #[.int .u64 0, .int .i64 1]) ∧ w' = w := by
  go_enter Try.func9, Try.ntmps9
  go_wp2_with (go_at_call 22; refine (isField_no a n _ h).mono ?_; rintro e w' ⟨rfl, rfl⟩)
  go_ret2
  exact ⟨rfl, rfl⟩

set_option maxHeartbeats 400000 in
theorem put_yes (W a n v : Nat) (w : World) (hW : W < 18446744073709551616) (h0 : 1 ≤ n) (h1 : a + n ≤ 64) (hv : v < 2 ^ n) :
    Calls Try.prog 11 #[.int .u64 W, .int .i64 a, .int .i64 n, .int .u64 v] w fun e w' => e = .returned (.tuple #[.int .u64 (M.putN W a n v : Nat), .int .i64 0]) ∧ ∃ q, w' = w.drewN q := by
  have hv' : ¬ ((2 ^ n - 1 : Nat) : Int) < (v : Int) := by omega
  go_enter Try.func11, Try.ntmps11
  go_wp2_with (first | (go_at_call 22; refine (isField_yes a n _ h0 h1).mono ?_; rintro e w' ⟨rfl, rfl⟩) | (go_at_call 23; refine (lowest_any n _ h0 (by omega)).mono ?_; rintro e w' ⟨rfl, rfl⟩))
  go_quiet ((go_at_call 23; exact Calls.quiet_of_same (lowest_any _ _ h0 (by omega))))
  go_wp2
  go_ret2
  exact ⟨ret_int2 (M.put_val W a n v hW h1 hv), _, rfl⟩

set_option maxHeartbeats 400000 in
theorem put_no (W a n v : Int) (w : World) (h : ¬ (1 ≤ n ∧ n ≤ 64 ∧ 0 ≤ a ∧ a ≤ 64 - n)) :
    Calls Try.prog 11 #[.int .u64 W, .int .i64 a, .int .i64 n, .int .u64 v] w fun e w' => e = .returned (.tuple #[.int .u64 0, .int .i64 1]) ∧ w' = w := by
  go_enter Try.func11, Try.ntmps11
  go_wp2_with (go_at_call 22; refine (isField_no a n _ h).mono ?_; rintro e w' ⟨rfl, rfl⟩)
  go_ret2
  exact ⟨rfl, rfl⟩

set_option maxHeartbeats 400000 in
theorem put_field (W a n v : Nat) (w : World) (h0 : 1 ≤ n) (h1 : a + n ≤ 64) (hv : 2 ^ n ≤ v) :
    Calls Try.prog 11 #[.int .u64 W, .int .i64 a, .int .i64 n, .int .u64 v] w fun e w' => e = .returned (.tuple #[.int .u64 0, .int .i64 10]) ∧ w' = w := by
  have hp : 1 ≤ 2 ^ n := Nat.one_le_two_pow
  have hv' : ((2 ^ n - 1 : Nat) : Int) < (v : Int) := by omega
  go_enter Try.func11, Try.ntmps11
  go_wp2_with (first | (go_at_call 22; refine (isField_yes a n _ h0 h1).mono ?_; rintro e w' ⟨rfl, rfl⟩) | (go_at_call 23; refine (lowest_any n _ h0 (by omega)).mono ?_; rintro e w' ⟨rfl, rfl⟩))
  go_ret2
  exact ⟨rfl, rfl⟩

set_option maxHeartbeats 400000 in
theorem ones_any (W : Nat) (w : World) (hW : W < 18446744073709551616) :
    Calls Try.prog 13 #[.int .u64 W] w fun e w' => e = .returned (.int .i64 (M.cntN W 64 : Nat)) ∧ w' = w := by
  go_enter Try.func13, Try.ntmps13
  go_wp2
  go_loop [3, 5] (fun c i => ∃ k : Nat, k ≤ 64 ∧ i = .int .i64 k ∧ c = .int .i64 (M.cntN W k : Nat)) (fun _ i => 64 - (intOf i).toNat)
  case atStart => exact ⟨0, by omega, rfl, rfl⟩
  case round =>
    obtain ⟨k, hk, rfl, rfl⟩ := hrel
    have hc := M.cntN_le W k
    by_cases hlt : k < 64
    · have HS : Hid (M.cntN W (k + 1) = M.cntN W k + (W.testBit k).toNat) := (rfl : _ = _)
      go_wp2_with (go_at_call 26; refine (isOne_any W k _ hW hlt).mono ?_; rintro e w' ⟨rfl, rfl⟩)
      all_goals
        go_round
        case rel => exact ⟨k + 1, by omega, by go_num, by rw [HS.out, ‹W.testBit k = _›]; go_num⟩
        case measure => simp [intOf]; omega
    · have hk' : k = 64 := by omega
      subst hk'
      go_wp2
      go_ret
      exact ⟨rfl, rfl⟩

set_option maxHeartbeats 400000 in
theorem high_any (W : Nat) (w : World) (hW : W < 18446744073709551616) :
    Calls Try.prog 15 #[.int .u64 W] w fun e w' => e = .returned (.int .i64 (M.highN W 64)) ∧ w' = w := by
  go_enter Try.func15, Try.ntmps15
  go_wp2
  go_loop [3, 5] (fun c i => ∃ k : Nat, k ≤ 64 ∧ i = .int .i64 k ∧ c = .int .i64 (M.highN W k)) (fun _ i => 64 - (intOf i).toNat)
  case atStart => exact ⟨0, by omega, rfl, rfl⟩
  case round =>
    obtain ⟨k, hk, rfl, rfl⟩ := hrel
    by_cases hlt : k < 64
    · have HS : Hid (M.highN W (k + 1) = if W.testBit k then (k : Int) else M.highN W k) := (rfl : _ = _)
      go_wp2_with (go_at_call 26; refine (isOne_any W k _ hW hlt).mono ?_; rintro e w' ⟨rfl, rfl⟩)
      all_goals
        go_round
        case rel => exact ⟨k + 1, by omega, by go_num, by rw [HS.out, ‹W.testBit k = _›]; rfl⟩
        case measure => simp [intOf]; omega
    · have hk' : k = 64 := by omega
      subst hk'
      go_wp2
      go_ret
      exact ⟨rfl, rfl⟩

set_option maxHeartbeats 400000 in
theorem low_any (W : Nat) (w : World) (hW : W < 18446744073709551616) :
    Calls Try.prog 17 #[.int .u64 W] w fun e w' => e = .returned (.int .i64 (M.lowN W 64 0)) ∧ w' = w := by
  go_enter Try.func17, Try.ntmps17
  go_wp2
  go_loop [4] (fun i => ∃ k : Nat, k ≤ 64 ∧ i = .int .i64 k ∧ Hid (M.lowN W (64 - k) k = M.lowN W 64 0)) (fun i => 64 - (intOf i).toNat)
  case atStart => exact ⟨0, by omega, rfl, (rfl : _ = _)⟩
  case round =>
    obtain ⟨k, hk, rfl, HL⟩ := hrel
    by_cases hlt : k < 64
    · have HS : Hid (M.lowN W (64 - k) k = if W.testBit k then (k : Int) else M.lowN W (64 - (k + 1)) (k + 1)) := by show _ = _; rw [show 64 - k = (64 - (k + 1)) + 1 by omega]; rfl
      go_wp2_with (go_at_call 26; refine (isOne_any W k _ hW hlt).mono ?_; rintro e w' ⟨rfl, rfl⟩)
      · go_ret
        exact ⟨ret_int (by rw [← HL.out, HS.out, ‹W.testBit k = _›]; rfl), rfl⟩
      · go_round
        case rel => exact ⟨k + 1, by omega, by go_num, by show _ = _; rw [← HL.out, HS.out, ‹W.testBit k = _›]; rfl⟩
        case measure => simp [intOf]; omega
    · have hk' : k = 64 := by omega
      subst hk'
      go_wp2
      go_ret
      exact ⟨ret_int HL.out, rfl⟩

set_option maxHeartbeats 400000 in
theorem up_yes (n k : Nat) (w : World) (hn : n ≤ 1099511627776) (hk : k ≤ 40) :
    Calls Try.prog 19 #[.int .i64 n, .int .i64 k] w fun e w' => e = .returned (.tuple #[.int .i64 (M.upN n k : Nat), .int .i64 0]) ∧ w' = w := by
  go_enter Try.func19, Try.ntmps19
  go_wp2
  go_ret2
  exact ⟨ret_int2 (M.up_val n k hn hk), rfl⟩

set_option maxHeartbeats 400000 in
theorem up_no (n k : Int) (w : World) (h : ¬ (0 ≤ n ∧ n ≤ 1099511627776 ∧ 0 ≤ k ∧ k ≤ 40)) :
    Calls Try.prog 19 #[.int .i64 n, .int .i64 k] w fun e w' => e = .returned (.tuple #[.int .i64 0, .int .i64 1]) ∧ w' = w := by
  by_cases c1 : n < 0
  · clear h
    go_enter Try.func19, Try.ntmps19
    go_wp2
    go_ret2
    exact ⟨rfl, rfl⟩
  · by_cases c2 : 1099511627776 < n
    · clear h
      go_enter Try.func19, Try.ntmps19
      go_wp2
      go_ret2
      exact ⟨rfl, rfl⟩
    · by_cases c3 : k < 0
      · clear h
        go_enter Try.func19, Try.ntmps19
        go_wp2
        go_ret2
        exact ⟨rfl, rfl⟩
      · have c4 : 40 < k := by omega
        clear h
        go_enter Try.func19, Try.ntmps19
        go_wp2
        go_ret2
        exact ⟨rfl, rfl⟩
end Go.Proofs.Ytenakllafignmaa
