/-
  THE CONTRACTS of the document's own answers for this layer (package donjonref01), one a function and a way.
-/
import Derived.Test.YtenakllafignmaaLeaf
namespace Go.Proofs.Ytenakllafignmaa
open Go.RowKit

set_option maxHeartbeats 400000 in
theorem bit_any (W i : Nat) (w : World) (hi : i < 64) :
    Calls Try.prog 25 #[.int .u64 W, .int .i64 i] w fun e w' => e = .returned (.bool (W.testBit i)) ∧ w' = w := by
  go_enter Try.func25, Try.ntmps25
  go_wp2
  go_ret
  exact ⟨ret_bool (M.bit_val W i), rfl⟩

theorem bit_eq (W i : Nat) (x : Int) (w : World) (hx : x = i) (hi : i < 64) :
    Calls Try.prog 25 #[.int .u64 W, .int .i64 x] w fun e w' => e = .returned (.bool (W.testBit i)) ∧ w' = w := by
  subst hx
  exact bit_any W i w hi

set_option maxHeartbeats 400000 in
theorem field_yes (a n : Nat) (w : World) (h0 : 1 ≤ n) (h1 : a + n ≤ 64) :
    Calls Try.prog 24 #[.int .i64 a, .int .i64 n] w fun e w' => e = .returned (.bool true) ∧ w' = w := by
  have h2 : (a : Int) ≤ 64 - (n : Int) := by omega
  go_enter Try.func24, Try.ntmps24
  go_wp2
  go_ret
  exact ⟨rfl, rfl⟩

set_option maxHeartbeats 400000 in
theorem field_no (a n : Int) (w : World) (h : ¬ (1 ≤ n ∧ n ≤ 64 ∧ 0 ≤ a ∧ a ≤ 64 - n)) :
    Calls Try.prog 24 #[.int .i64 a, .int .i64 n] w fun e w' => e = .returned (.bool false) ∧ w' = w := by
  by_cases c1 : 1 ≤ n
  · by_cases c2 : n ≤ 64
    · by_cases c3 : 0 ≤ a
      · have c4 : ¬ a ≤ 64 - n := by omega
        clear h
        go_enter Try.func24, Try.ntmps24
        go_wp2
        go_ret
        exact ⟨rfl, rfl⟩
      · clear h
        go_enter Try.func24, Try.ntmps24
        go_wp2
        go_ret
        exact ⟨rfl, rfl⟩
    · clear h
      go_enter Try.func24, Try.ntmps24
      go_wp2
      go_ret
      exact ⟨rfl, rfl⟩
  · clear h
    go_enter Try.func24, Try.ntmps24
    go_wp2
    go_ret
    exact ⟨rfl, rfl⟩

set_option maxHeartbeats 400000 in
theorem rones_any (W : Nat) (w : World) :
    Calls Try.prog 14 #[.int .u64 W] w fun e w' => e = .returned (.int .i64 (M.cntN W 64 : Nat)) ∧ w' = w := by
  go_enter Try.func14, Try.ntmps14
  go_wp2
  go_loop [3, 4] (fun c i => ∃ k : Nat, k ≤ 64 ∧ i = .int .i64 k ∧ c = .int .i64 (M.cntN W k : Nat)) (fun _ i => 64 - (intOf i).toNat)
  case atStart => exact ⟨0, by omega, rfl, rfl⟩
  case round =>
    obtain ⟨k, hk, rfl, rfl⟩ := hrel
    have hc := M.cntN_le W k
    by_cases hlt : k < 64
    · have HS : Hid (M.cntN W (k + 1) = M.cntN W k + (W.testBit k).toNat) := (rfl : _ = _)
      go_wp2_with (go_at_call 25; refine (bit_any W k _ hlt).mono ?_; rintro e w' ⟨rfl, rfl⟩)
      all_goals
        go_round
        case rel => exact ⟨k + 1, by omega, by go_num, by rw [HS.out, ‹W.testBit k = _›]; go_num⟩
        case measure => simp [intOf]; omega
    · have hk' : k = 64 := by omega
      subst hk'
      go_wp2
      go_ret
      exact ⟨rfl, rfl⟩

set_option maxHeartbeats 400000 in
theorem rhigh_any (W : Nat) (w : World) :
    Calls Try.prog 16 #[.int .u64 W] w fun e w' => e = .returned (.int .i64 (M.highN W 64)) ∧ w' = w := by
  go_enter Try.func16, Try.ntmps16
  go_wp2
  go_loop [3, 4] (fun c i => ∃ k : Nat, k ≤ 64 ∧ i = .int .i64 k ∧ c = .int .i64 (M.highN W k)) (fun _ i => 64 - (intOf i).toNat)
  case atStart => exact ⟨0, by omega, rfl, rfl⟩
  case round =>
    obtain ⟨k, hk, rfl, rfl⟩ := hrel
    by_cases hlt : k < 64
    · have HS : Hid (M.highN W (k + 1) = if W.testBit k then (k : Int) else M.highN W k) := (rfl : _ = _)
      go_wp2_with (go_at_call 25; refine (bit_any W k _ hlt).mono ?_; rintro e w' ⟨rfl, rfl⟩)
      all_goals
        go_round
        case rel => exact ⟨k + 1, by omega, by go_num, by rw [HS.out, ‹W.testBit k = _›]; rfl⟩
        case measure => simp [intOf]; omega
    · have hk' : k = 64 := by omega
      subst hk'
      go_wp2
      go_ret
      exact ⟨rfl, rfl⟩

set_option maxHeartbeats 400000 in
theorem rlow_any (W : Nat) (w : World) :
    Calls Try.prog 18 #[.int .u64 W] w fun e w' => e = .returned (.int .i64 (M.lowN W 64 0)) ∧ w' = w := by
  go_enter Try.func18, Try.ntmps18
  go_wp2
  go_loop [3] (fun i => ∃ k : Nat, k ≤ 64 ∧ i = .int .i64 k ∧ Hid (M.lowN W (64 - k) k = M.lowN W 64 0)) (fun i => 64 - (intOf i).toNat)
  case atStart => exact ⟨0, by omega, rfl, (rfl : _ = _)⟩
  case round =>
    obtain ⟨k, hk, rfl, HL⟩ := hrel
    by_cases hlt : k < 64
    · have HS : Hid (M.lowN W (64 - k) k = if W.testBit k then (k : Int) else M.lowN W (64 - (k + 1)) (k + 1)) := by show _ = _; rw [show 64 - k = (64 - (k + 1)) + 1 by omega]; rfl
      go_wp2_with (go_at_call 25; refine (bit_any W k _ hlt).mono ?_; rintro e w' ⟨rfl, rfl⟩)
      · go_ret
        exact ⟨ret_int (by rw [← HL.out, HS.out, ‹W.testBit k = _›]; rfl), rfl⟩
      · go_round
        case rel => exact ⟨k + 1, by omega, by go_num, by show _ = _; rw [← HL.out, HS.out, ‹W.testBit k = _›]; rfl⟩
        case measure => simp [intOf]; omega
    · have hk' : k = 64 := by omega
      subst hk'
      go_wp2
      go_ret
      exact ⟨ret_int HL.out, rfl⟩

set_option maxHeartbeats 400000 in
theorem rup_yes (n k : Nat) (w : World) (hn : n ≤ 1099511627776) (hk : k ≤ 40) :
    Calls Try.prog 20 #[.int .i64 n, .int .i64 k] w fun e w' => e = .returned (.tuple #[.int .i64 (M.upN n k : Nat), .int .i64 0]) ∧ w' = w := by
  have hp := M.pow_le40 k hk
  have h1 : 1 ≤ 2 ^ k := Nat.one_le_two_pow
  have hu : Hid (M.upN n k = (n + (2 ^ k - 1)) / 2 ^ k * 2 ^ k) := (rfl : _ = _)
  have hb := M.upN_bd n k
  have e0 : ((2 : Int) ^ k) = ((2 ^ k : Nat) : Int) := by simp
  obtain ⟨m, hm⟩ : ∃ m, 2 ^ k = m := ⟨_, rfl⟩
  have hw : wrap64 (2 ^ k) = (m : Int) := by rw [e0, hm]; unfold wrap64; omega
  rw [hm] at hp h1 hb
  have HM : Hid (2 ^ k = m) := hm
  clear e0 hm
  have hend : wrap64 (((n : Int) + (m : Int) - 1) / (m : Int) * (m : Int)) = ((M.upN n k : Nat) : Int) := by
    have e1 : ((n : Int) + (m : Int) - 1) / (m : Int) * (m : Int) = ((M.upN n k : Nat) : Int) := by
      rw [hu.out, HM.out, Int.natCast_mul, Int.natCast_ediv, show (n : Int) + (m : Int) - 1 = ((n + (m - 1) : Nat) : Int) by omega]
    rw [e1]
    unfold wrap64
    omega
  have HE : Hid (wrap64 (((n : Int) + (m : Int) - 1) / (m : Int) * (m : Int)) = ((M.upN n k : Nat) : Int)) := hend
  clear hend
  go_enter Try.func20, Try.ntmps20
  go_wp2
  go_ret2
  exact ⟨ret_int2 HE.out, rfl⟩

set_option maxHeartbeats 400000 in
theorem rup_no (n k : Int) (w : World) (h : ¬ (0 ≤ n ∧ n ≤ 1099511627776 ∧ 0 ≤ k ∧ k ≤ 40)) :
    Calls Try.prog 20 #[.int .i64 n, .int .i64 k] w fun e w' => e = .returned (.tuple #[.int .i64 0, .int .i64 1]) ∧ w' = w := by
  by_cases c1 : n < 0
  · clear h
    go_enter Try.func20, Try.ntmps20
    go_wp2
    go_ret2
    exact ⟨rfl, rfl⟩
  · by_cases c2 : 1099511627776 < n
    · clear h
      go_enter Try.func20, Try.ntmps20
      go_wp2
      go_ret2
      exact ⟨rfl, rfl⟩
    · by_cases c3 : k < 0
      · clear h
        go_enter Try.func20, Try.ntmps20
        go_wp2
        go_ret2
        exact ⟨rfl, rfl⟩
      · have c4 : 40 < k := by omega
        clear h
        go_enter Try.func20, Try.ntmps20
        go_wp2
        go_ret2
        exact ⟨rfl, rfl⟩

set_option maxHeartbeats 400000 in
theorem rget_no (W a n : Int) (w : World) (h : ¬ (1 ≤ n ∧ n ≤ 64 ∧ 0 ≤ a ∧ a ≤ 64 - n)) :
    Calls Try.prog 10 #[.int .u64 W, .int .i64 a, .int .i64 n] w fun e w' => e = .returned (.tuple #[.int .u64 0, .int .i64 1]) ∧ w' = w := by
  go_enter Try.func10, Try.ntmps10
  go_wp2_with (go_at_call 24; refine (field_no a n _ h).mono ?_; rintro e w' ⟨rfl, rfl⟩)
  go_ret2
  exact ⟨rfl, rfl⟩

set_option maxHeartbeats 400000 in
theorem rput_no (W a n v : Int) (w : World) (h : ¬ (1 ≤ n ∧ n ≤ 64 ∧ 0 ≤ a ∧ a ≤ 64 - n)) :
    Calls Try.prog 12 #[.int .u64 W, .int .i64 a, .int .i64 n, .int .u64 v] w fun e w' => e = .returned (.tuple #[.int .u64 0, .int .i64 1]) ∧ w' = w := by
  go_enter Try.func12, Try.ntmps12
  go_wp2_with (go_at_call 24; refine (field_no a n _ h).mono ?_; rintro e w' ⟨rfl, rfl⟩)
  go_ret2
  exact ⟨rfl, rfl⟩

/-- The document's Get, from its last round back: behind round i it holds the field's bits from i on. -/
theorem getN_zero (W a : Nat) : M.getN W a 0 = 0 := by simp [M.getN, Nat.mod_one]

set_option maxHeartbeats 400000 in
theorem rget_yes (W a n : Nat) (w : World) (hW : W < 18446744073709551616) (h0 : 1 ≤ n) (h1 : a + n ≤ 64) :
    Calls Try.prog 10 #[.int .u64 W, .int .i64 a, .int .i64 n] w fun e w' => e = .returned (.tuple #[.int .u64 (M.getN W a n : Nat), .int .i64 0]) ∧ w' = w := by
  go_enter Try.func10, Try.ntmps10
  go_wp2_with (go_at_call 24; refine (field_yes a n _ h0 h1).mono ?_; rintro e w' ⟨rfl, rfl⟩)
  go_loop [8, 9] (fun v i => ∃ k : Nat, k ≤ n ∧ i = .int .i64 ((k : Int) - 1) ∧ v = .int .u64 (M.getN W (a + k) (n - k) : Nat)) (fun _ i => (intOf i + 1).toNat)
  case atStart => exact ⟨n, Nat.le_refl _, rfl, by rw [Nat.sub_self, getN_zero]; rfl⟩
  case round =>
    obtain ⟨k, hk, rfl, rfl⟩ := hrel
    by_cases hlt : 1 ≤ k
    · obtain ⟨j, rfl⟩ : ∃ j, k = j + 1 := ⟨k - 1, by omega⟩
      have HS : Hid (M.getN W (a + j) (n - j) = M.getN W (a + (j + 1)) (n - (j + 1)) * 2 + (W.testBit (a + j)).toNat) := by
        show _ = _; rw [show n - j = (n - (j + 1)) + 1 by omega, M.getN_succ]; rfl
      have hb : M.getN W (a + j) (n - j) < 18446744073709551616 := M.getN_lt64 _ _ _ hW
      have hc : M.getN W (a + (j + 1)) (n - (j + 1)) * 2 + 1 < 18446744073709551616 := by
        have x1 := M.getN_lt W (a + (j + 1)) (n - (j + 1))
        have x2 : 2 ^ (n - (j + 1)) ≤ 2 ^ 63 := Nat.pow_le_pow_right (by omega) (by omega)
        omega
      go_wp2_with (go_at_call 25; refine (bit_eq W (a + j) _ _ (by omega) (by omega)).mono ?_; rintro e w' ⟨rfl, rfl⟩)
      all_goals
        go_round
        case rel => exact ⟨j, by omega, by go_num, by rw [HS.out, ‹W.testBit (a + j) = _›]; go_num⟩
        case measure => simp [intOf]
    · have hk' : k = 0 := by omega
      subst hk'
      go_wp2
      go_ret2
      exact ⟨rfl, rfl⟩

theorem bit_is (W i : Nat) (x : Int) (b : Bool) (w : World) (hx : x = i) (hi : i < 64) (hb : W.testBit i = b) :
    Calls Try.prog 25 #[.int .u64 W, .int .i64 x] w fun e w' => e = .returned (.bool b) ∧ w' = w := by
  subst hx
  subst hb
  exact bit_any W i w hi

set_option maxHeartbeats 400000 in
theorem rput_field (W a n v : Nat) (w : World) (hv64 : v < 18446744073709551616) (h0 : 1 ≤ n) (h1 : a + n ≤ 64) (hv : 2 ^ n ≤ v) :
    Calls Try.prog 12 #[.int .u64 W, .int .i64 a, .int .i64 n, .int .u64 v] w fun e w' => e = .returned (.tuple #[.int .u64 0, .int .i64 10]) ∧ w' = w := by
  have hn : n < 64 := by
    by_cases h : n = 64
    · subst h; simp at hv; omega
    · omega
  have hq : (((v : Int) / 2 ^ n) != 0) = true := by
    rw [M.cast_shr]
    have := Nat.div_pos hv (Nat.two_pow_pos n)
    rw [bne_iff_ne]
    omega
  clear hv
  go_enter Try.func12, Try.ntmps12
  go_wp2_with (go_at_call 24; refine (field_yes a n _ h0 h1).mono ?_; rintro e w' ⟨rfl, rfl⟩)
  go_ret2
  exact ⟨rfl, rfl⟩

theorem put_step (W a n v j : Nat) (hW : W < 18446744073709551616) (h1 : a + n ≤ 64) (hv : v < 2 ^ n) :
    M.shN (M.putN W a n v) j = M.shN (M.putN W a n v) (j + 1) * 2 + (if a ≤ j ∧ j < a + n then v.testBit (j - a) else W.testBit j).toNat := by
  rw [M.shN_succ, M.testBit_putN W a n v j hW h1 hv]

set_option maxHeartbeats 1000000 in
theorem rput_yes (W a n v : Nat) (w : World) (hW : W < 18446744073709551616) (h0 : 1 ≤ n) (h1 : a + n ≤ 64) (hv : v < 2 ^ n) :
    Calls Try.prog 12 #[.int .u64 W, .int .i64 a, .int .i64 n, .int .u64 v] w fun e w' => e = .returned (.tuple #[.int .u64 (M.putN W a n v : Nat), .int .i64 0]) ∧ w' = w := by
  have hq : (((v : Int) / 2 ^ n) != 0) = false := by
    rw [M.cast_shr, Nat.div_eq_of_lt hv]
    rfl
  have HP : ∀ j, Hid (M.shN (M.putN W a n v) j = M.shN (M.putN W a n v) (j + 1) * 2 + (if a ≤ j ∧ j < a + n then v.testBit (j - a) else W.testBit j).toNat) := fun j => put_step W a n v j hW h1 hv
  have hX := M.putN_lt W a n v h1 hv
  have HB := fun j => M.shN_bd (M.putN W a n v) j hX
  have H64 : Hid (M.shN (M.putN W a n v) 64 = 0) := M.shN_64 _ hX
  have H00 : Hid (M.shN (M.putN W a n v) 0 = M.putN W a n v) := M.shN_zero _
  generalize M.putN W a n v = X at HP HB H64 H00 ⊢
  clear hv hX
  by_cases hn : n < 64
  all_goals
    go_enter Try.func12, Try.ntmps12
    go_wp2_with (go_at_call 24; refine (field_yes a n _ h0 h1).mono ?_; rintro e w' ⟨rfl, rfl⟩)
    go_loop [10, 11] (fun o i => ∃ k : Nat, k ≤ 64 ∧ i = .int .i64 ((k : Int) - 1) ∧ o = .int .u64 (M.shN X k : Nat)) (fun _ i => (intOf i + 1).toNat)
    case atStart => exact ⟨64, Nat.le_refl _, rfl, by rw [H64.out]; rfl⟩
    case round =>
      obtain ⟨k, hk, rfl, rfl⟩ := hrel
      by_cases hlt : 1 ≤ k
      · obtain ⟨j, rfl⟩ : ∃ j, k = j + 1 := ⟨k - 1, by omega⟩
        have hb := HB j
        have hs := HP j
        clear HP HB H64 H00
        by_cases c1 : a ≤ j
        · by_cases c2 : j < a + n
          · by_cases c3 : v.testBit (j - a)
            · go_wp2_with (go_at_call 25; refine (bit_is v (j - a) _ true _ (by omega) (by omega) c3).mono ?_; rintro e w' ⟨rfl, rfl⟩)
              go_round
              case rel => exact ⟨j, by omega, by go_num, by rw [hs.out, if_pos ⟨c1, c2⟩, c3]; go_num⟩
              case measure => simp [intOf]
            · have c3' : v.testBit (j - a) = false := by simpa using c3
              clear c3
              go_wp2_with (go_at_call 25; refine (bit_is v (j - a) _ false _ (by omega) (by omega) c3').mono ?_; rintro e w' ⟨rfl, rfl⟩)
              go_round
              case rel => exact ⟨j, by omega, by go_num, by rw [hs.out, if_pos ⟨c1, c2⟩, c3']; go_num⟩
              case measure => simp [intOf]
          · by_cases c3 : W.testBit j
            · go_wp2_with (go_at_call 25; refine (bit_is W j _ true _ (by omega) (by omega) c3).mono ?_; rintro e w' ⟨rfl, rfl⟩)
              all_goals
                go_round
                case rel => exact ⟨j, by omega, by go_num, by rw [hs.out, if_neg (by omega), c3]; go_num⟩
                case measure => simp [intOf]
            · have c3' : W.testBit j = false := by simpa using c3
              clear c3
              go_wp2_with (go_at_call 25; refine (bit_is W j _ false _ (by omega) (by omega) c3').mono ?_; rintro e w' ⟨rfl, rfl⟩)
              all_goals
                go_round
                case rel => exact ⟨j, by omega, by go_num, by rw [hs.out, if_neg (by omega), c3']; go_num⟩
                case measure => simp [intOf]
        · by_cases c3 : W.testBit j
          · go_wp2_with (go_at_call 25; refine (bit_is W j _ true _ (by omega) (by omega) c3).mono ?_; rintro e w' ⟨rfl, rfl⟩)
            go_round
            case rel => exact ⟨j, by omega, by go_num, by rw [hs.out, if_neg (by omega), c3]; go_num⟩
            case measure => simp [intOf]
          · have c3' : W.testBit j = false := by simpa using c3
            clear c3
            go_wp2_with (go_at_call 25; refine (bit_is W j _ false _ (by omega) (by omega) c3').mono ?_; rintro e w' ⟨rfl, rfl⟩)
            go_round
            case rel => exact ⟨j, by omega, by go_num, by rw [hs.out, if_neg (by omega), c3']; go_num⟩
            case measure => simp [intOf]
      · have hk' : k = 0 := by omega
        subst hk'
        go_wp2
        go_ret2
        exact ⟨ret_int2 (by rw [H00.out]), rfl⟩
end Go.Proofs.Ytenakllafignmaa
