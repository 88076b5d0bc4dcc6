/-
  THE CONTRACTS of package cap's functions that look at one capability: Check and what it calls.
-/
import Derived.Test.YtkpcdfiebjigbaaLeaf
namespace Go.Proofs.Ytkpcdfiebjigbaa
open Go.RowKit


set_option maxHeartbeats 400000 in
theorem hasBadge_is (k : Int) (v : Bool) (h : M.bgd k = v) (w : World) : Calls Try.prog 70 #[.int .i64 k] w fun e w' => e = .returned (.bool v) ∧ w' = w := by
  subst h
  by_cases c1 : k = 4
  · go_enter Try.func70, Try.ntmps70
    go_wp2
    go_ret
    exact ⟨ret_bool (by simp [M.bgd, c1]), rfl⟩
  · go_enter Try.func70, Try.ntmps70
    go_wp2
    go_ret
    exact ⟨ret_bool (by simp [M.bgd]), rfl⟩

theorem M.rgd_or (k : Int) : M.rgd k = (M.bgd k || k == 6) := rfl

set_option maxHeartbeats 400000 in
theorem hasRights_is (k : Int) (v : Bool) (h : M.rgd k = v) (w : World) : Calls Try.prog 69 #[.int .i64 k] w fun e w' => e = .returned (.bool v) ∧ w' = w := by
  subst h
  rw [M.rgd_or]
  cases c1 : M.bgd k
  · go_enter Try.func69, Try.ntmps69
    go_wp2_with fail
    refine (hasBadge_is k false c1 _).mono ?_
    rintro e w' ⟨rfl, rfl⟩
    go_wp2
    go_ret
    exact ⟨ret_bool (by simp), rfl⟩
  · go_enter Try.func69, Try.ntmps69
    go_wp2_with fail
    refine (hasBadge_is k true c1 _).mono ?_
    rintro e w' ⟨rfl, rfl⟩
    go_wp2
    go_ret
    exact ⟨ret_bool (by simp), rfl⟩

theorem M.blw_val (v : Int) (n : Nat) (hv : 0 ≤ v) : (v / 2 ^ n == 0) = decide (v < 2 ^ n) := by
  obtain ⟨V, rfl⟩ : ∃ V : Nat, v = V := ⟨v.toNat, by omega⟩
  have e : ((2 : Int) ^ n) = ((2 ^ n : Nat) : Int) := by simp
  rw [M.cast_shr, e]
  have hp := Nat.two_pow_pos n
  by_cases h : V < 2 ^ n
  · rw [Nat.div_eq_of_lt h]
    simp only [Int.natCast_zero, beq_self_eq_true, Int.ofNat_lt, h, decide_true]
  · have := Nat.div_pos (Nat.le_of_not_lt h) hp
    have h2 : ¬ ((V / 2 ^ n : Nat) : Int) = 0 := by omega
    rw [beq_eq_false_iff_ne.2 h2]
    simp only [Int.ofNat_lt, h, decide_false]

set_option maxHeartbeats 400000 in
theorem isBelow_nat (v : Int) (n : Nat) (b : Bool) (hv : 0 ≤ v) (hn : n ≤ 63) (h : M.blw v n = b) (w : World) : Calls Try.prog 71 #[.int .u64 v, .int .i64 n] w fun e w' => e = .returned (.bool b) ∧ w' = w := by
  have h2 : (v / 2 ^ n == 0) = b := by rw [M.blw_val v n hv, ← h]; rfl
  clear h
  go_enter Try.func71, Try.ntmps71
  go_wp2
  go_ret
  exact ⟨rfl, rfl⟩

theorem isBelow_28 (v : Int) (b : Bool) (hv : 0 ≤ v) (h : M.blw v 28 = b) (w : World) : Calls Try.prog 71 #[.int .u64 v, .int .i64 28] w fun e w' => e = .returned (.bool b) ∧ w' = w :=
  isBelow_nat v 28 b hv (by omega) h w
theorem isBelow_is (v n : Int) (b : Bool) (hv : 0 ≤ v) (h0 : 0 ≤ n) (hn : n ≤ 16) (h : M.blw v n = b) (w : World) : Calls Try.prog 71 #[.int .u64 v, .int .i64 n] w fun e w' => e = .returned (.bool b) ∧ w' = w := by
  obtain ⟨m, rfl⟩ : ∃ m : Nat, n = m := ⟨n.toNat, by omega⟩
  exact isBelow_nat v m b hv (by omega) h w

set_option maxHeartbeats 800000 in
theorem bounds_is (k o r b g n : Int) (v : Bool) (hb0 : 0 ≤ b) (hg0 : 0 ≤ g) (h : M.bnd ⟨k, o, r, b, g, n⟩ = v) (w : World) :
    Calls Try.prog 63 #[cv ⟨k, o, r, b, g, n⟩] w fun e w' => e = .returned (.bool v) ∧ w.grownBy w' none := by
  subst h
  unfold M.bnd M.grd
  by_cases c1 : 0 ≤ o
  · by_cases c2 : o < 64
    · have c2' : o ≤ 63 := by omega
      cases c3 : M.ck r
      · go_enter Try.func63, Try.ntmps63
        go_wp2_with fail
        refine (rt_check_is r false c3 _).mono ?_
        rintro e w' ⟨rfl, rfl⟩
        go_wp2
        go_ret
        exact ⟨ret_bool (by simp), gbAlloc _ _ _⟩
      · cases c4 : M.blw b 28
        · go_enter Try.func63, Try.ntmps63
          go_wp2_with fail
          refine (rt_check_is r true c3 _).mono ?_
          rintro e w' ⟨rfl, rfl⟩
          go_wp2_with fail
          refine (isBelow_28 b false hb0 c4 _).mono ?_
          rintro e w' ⟨rfl, rfl⟩
          go_wp2
          go_ret
          exact ⟨ret_bool (by simp), gbAlloc _ _ _⟩
        · by_cases c5 : 0 ≤ n
          · by_cases c6 : n ≤ 16
            · cases c7 : M.blw g n
              all_goals
                go_enter Try.func63, Try.ntmps63
                go_wp2_with fail
                refine (rt_check_is r true c3 _).mono ?_
                rintro e w' ⟨rfl, rfl⟩
                go_wp2_with fail
                refine (isBelow_28 b true hb0 c4 _).mono ?_
                rintro e w' ⟨rfl, rfl⟩
                go_wp2_with fail
                refine (isBelow_is g n _ hg0 c5 c6 c7 _).mono ?_
                rintro e w' ⟨rfl, rfl⟩
                go_wp2
                go_ret
                exact ⟨ret_bool (by simp [c1, c2', c5, c6]), gbAlloc _ _ _⟩
            · go_enter Try.func63, Try.ntmps63
              go_wp2_with fail
              refine (rt_check_is r true c3 _).mono ?_
              rintro e w' ⟨rfl, rfl⟩
              go_wp2_with fail
              refine (isBelow_28 b true hb0 c4 _).mono ?_
              rintro e w' ⟨rfl, rfl⟩
              go_wp2
              go_ret
              exact ⟨ret_bool (by simp; intros; omega), gbAlloc _ _ _⟩
          · go_enter Try.func63, Try.ntmps63
            go_wp2_with fail
            refine (rt_check_is r true c3 _).mono ?_
            rintro e w' ⟨rfl, rfl⟩
            go_wp2_with fail
            refine (isBelow_28 b true hb0 c4 _).mono ?_
            rintro e w' ⟨rfl, rfl⟩
            go_wp2
            go_ret
            exact ⟨ret_bool (by simp; intros; omega), gbAlloc _ _ _⟩
    · have c2' : ¬ o ≤ 63 := by omega
      go_enter Try.func63, Try.ntmps63
      go_wp2
      go_ret
      exact ⟨ret_bool (by simp; intros; omega), gbAlloc _ _ _⟩
  · go_enter Try.func63, Try.ntmps63
    go_wp2
    go_ret
    exact ⟨ret_bool (by simp; intros; omega), gbAlloc _ _ _⟩

set_option maxHeartbeats 800000 in
theorem own_at0 (o r b g n : Int) (w : World) : Calls Try.prog 62 #[cv ⟨0, o, r, b, g, n⟩] w fun e w' => e = .returned (cv ⟨0, 0, 0, 0, 0, 0⟩) ∧ w.grownBy w' none := by
  go_enter Try.func62, Try.ntmps62
  go_wp2_with fail
  refine (hasRights_is 0 false rfl _).mono ?_
  rintro e w' ⟨rfl, rfl⟩
  go_wp2_with fail
  refine (hasBadge_is 0 false rfl _).mono ?_
  rintro e w' ⟨rfl, rfl⟩
  go_wp2
  exact bodyPost_ret (v := cv ⟨0, 0, 0, 0, 0, 0⟩) (by simp [results, Try.results62, go_sem]) rfl ⟨rfl, by repeat (first | exact gbRefl _ _ | refine gbSetNew ?_ _ _ _ (by simp) | refine gbAllocN ?_ _)⟩

set_option maxHeartbeats 800000 in
theorem own_at10 (o r b g n : Int) (w : World) : Calls Try.prog 62 #[cv ⟨10, o, r, b, g, n⟩] w fun e w' => e = .returned (cv ⟨10, 0, 0, 0, 0, 0⟩) ∧ w.grownBy w' none := by
  go_enter Try.func62, Try.ntmps62
  go_wp2_with fail
  refine (hasRights_is 10 false rfl _).mono ?_
  rintro e w' ⟨rfl, rfl⟩
  go_wp2_with fail
  refine (hasBadge_is 10 false rfl _).mono ?_
  rintro e w' ⟨rfl, rfl⟩
  go_wp2
  exact bodyPost_ret (v := cv ⟨10, 0, 0, 0, 0, 0⟩) (by simp [results, Try.results62, go_sem]) rfl ⟨rfl, by repeat (first | exact gbRefl _ _ | refine gbSetNew ?_ _ _ _ (by simp) | refine gbAllocN ?_ _)⟩

set_option maxHeartbeats 800000 in
theorem own_at2 (o r b g n : Int) (w : World) : Calls Try.prog 62 #[cv ⟨2, o, r, b, g, n⟩] w fun e w' => e = .returned (cv ⟨2, o, 0, 0, g, n⟩) ∧ w.grownBy w' none := by
  go_enter Try.func62, Try.ntmps62
  go_wp2_with fail
  refine (hasRights_is 2 false rfl _).mono ?_
  rintro e w' ⟨rfl, rfl⟩
  go_wp2_with fail
  refine (hasBadge_is 2 false rfl _).mono ?_
  rintro e w' ⟨rfl, rfl⟩
  go_wp2
  exact bodyPost_ret (v := cv ⟨2, o, 0, 0, g, n⟩) (by simp [results, Try.results62, go_sem]) rfl ⟨rfl, by repeat (first | exact gbRefl _ _ | refine gbSetNew ?_ _ _ _ (by simp) | refine gbAllocN ?_ _)⟩

set_option maxHeartbeats 800000 in
theorem own_at4 (o r b g n : Int) (w : World) : Calls Try.prog 62 #[cv ⟨4, o, r, b, g, n⟩] w fun e w' => e = .returned (cv ⟨4, o, r, b, 0, 0⟩) ∧ w.grownBy w' none := by
  go_enter Try.func62, Try.ntmps62
  go_wp2_with fail
  refine (hasRights_is 4 true rfl _).mono ?_
  rintro e w' ⟨rfl, rfl⟩
  go_wp2_with fail
  refine (hasBadge_is 4 true rfl _).mono ?_
  rintro e w' ⟨rfl, rfl⟩
  go_wp2
  exact bodyPost_ret (v := cv ⟨4, o, r, b, 0, 0⟩) (by simp [results, Try.results62, go_sem]) rfl ⟨rfl, by repeat (first | exact gbRefl _ _ | refine gbSetNew ?_ _ _ _ (by simp) | refine gbAllocN ?_ _)⟩

set_option maxHeartbeats 800000 in
theorem own_at5 (o r b g n : Int) (w : World) : Calls Try.prog 62 #[cv ⟨5, o, r, b, g, n⟩] w fun e w' => e = .returned (cv ⟨5, o, r, b, 0, 0⟩) ∧ w.grownBy w' none := by
  go_enter Try.func62, Try.ntmps62
  go_wp2_with fail
  refine (hasRights_is 5 true rfl _).mono ?_
  rintro e w' ⟨rfl, rfl⟩
  go_wp2_with fail
  refine (hasBadge_is 5 true rfl _).mono ?_
  rintro e w' ⟨rfl, rfl⟩
  go_wp2
  exact bodyPost_ret (v := cv ⟨5, o, r, b, 0, 0⟩) (by simp [results, Try.results62, go_sem]) rfl ⟨rfl, by repeat (first | exact gbRefl _ _ | refine gbSetNew ?_ _ _ _ (by simp) | refine gbAllocN ?_ _)⟩

set_option maxHeartbeats 800000 in
theorem own_at6 (o r b g n : Int) (w : World) : Calls Try.prog 62 #[cv ⟨6, o, r, b, g, n⟩] w fun e w' => e = .returned (cv ⟨6, o, r, 0, 0, 0⟩) ∧ w.grownBy w' none := by
  go_enter Try.func62, Try.ntmps62
  go_wp2_with fail
  refine (hasRights_is 6 true rfl _).mono ?_
  rintro e w' ⟨rfl, rfl⟩
  go_wp2_with fail
  refine (hasBadge_is 6 false rfl _).mono ?_
  rintro e w' ⟨rfl, rfl⟩
  go_wp2
  exact bodyPost_ret (v := cv ⟨6, o, r, 0, 0, 0⟩) (by simp [results, Try.results62, go_sem]) rfl ⟨rfl, by repeat (first | exact gbRefl _ _ | refine gbSetNew ?_ _ _ _ (by simp) | refine gbAllocN ?_ _)⟩

set_option maxHeartbeats 800000 in
theorem own_other (k o r b g n : Int) (c0 : (k == 0) = false) (c10 : (k == 10) = false) (c2 : (k != 2) = true) (h1 : M.rgd k = false) (h2 : M.bgd k = false) (w : World) : Calls Try.prog 62 #[cv ⟨k, o, r, b, g, n⟩] w fun e w' => e = .returned (cv ⟨k, o, 0, 0, 0, 0⟩) ∧ w.grownBy w' none := by
  go_enter Try.func62, Try.ntmps62
  go_wp2_with fail
  refine (hasRights_is k false h1 _).mono ?_
  rintro e w' ⟨rfl, rfl⟩
  go_wp2_with fail
  refine (hasBadge_is k false h2 _).mono ?_
  rintro e w' ⟨rfl, rfl⟩
  go_wp2
  exact bodyPost_ret (v := cv ⟨k, o, 0, 0, 0, 0⟩) (by simp [results, Try.results62, go_sem]) rfl ⟨rfl, by repeat (first | exact gbRefl _ _ | refine gbSetNew ?_ _ _ _ (by simp) | refine gbAllocN ?_ _)⟩

theorem own_any (k o r b g n : Int) (w : World) : Calls Try.prog 62 #[cv ⟨k, o, r, b, g, n⟩] w fun e w' => e = .returned (cv (M.own ⟨k, o, r, b, g, n⟩)) ∧ w.grownBy w' none := by
  by_cases c0 : k = 0
  · subst c0; exact own_at0 o r b g n w
  by_cases c10 : k = 10
  · subst c10; exact own_at10 o r b g n w
  by_cases c2 : k = 2
  · subst c2; exact own_at2 o r b g n w
  by_cases c4 : k = 4
  · subst c4; exact own_at4 o r b g n w
  by_cases c5 : k = 5
  · subst c5; exact own_at5 o r b g n w
  by_cases c6 : k = 6
  · subst c6; exact own_at6 o r b g n w
  have h1 : M.rgd k = false := by simp [M.rgd, c4, c5, c6]
  have h2 : M.bgd k = false := by simp [M.bgd, c4, c5]
  have h3 : M.own ⟨k, o, r, b, g, n⟩ = ⟨k, o, 0, 0, 0, 0⟩ := by simp [M.own, M.nul, h1, h2, c0, c10, c2]
  rw [h3]
  exact own_other k o r b g n (by simpa using c0) (by simpa using c10) (by simpa using c2) h1 h2 w
end Go.Proofs.Ytkpcdfiebjigbaa
