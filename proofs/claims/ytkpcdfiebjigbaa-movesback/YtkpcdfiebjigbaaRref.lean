/-
  THE DOCUMENT'S SIDE: what donjonref05 calls of donjonref01 and donjonref04.
-/
import Derived.Test.YtkpcdfiebjigbaaLeaf
import Derived.Deep.LoopGhost
namespace Go.Proofs.Ytkpcdfiebjigbaa
set_option maxRecDepth 10000
open Go.RowKit

set_option maxHeartbeats 400000 in
theorem rcheck_any (a : Int) (w : World) : Calls Try.prog 57 #[.int .i64 a] w fun e w' => e = .returned (.bool (M.ck a)) ∧ w' = w := by
  by_cases c1 : 0 ≤ a
  · by_cases c2 : a ≤ 7
    · go_enter Try.func57, Try.ntmps57
      go_wp2
      go_ret
      exact ⟨ret_bool (by simp [M.ck, c1, c2]), rfl⟩
    · go_enter Try.func57, Try.ntmps57
      go_wp2
      go_ret
      exact ⟨ret_bool (by simp [M.ck]; omega), rfl⟩
  · go_enter Try.func57, Try.ntmps57
    go_wp2
    go_ret
    exact ⟨ret_bool (by simp [M.ck]; omega), rfl⟩

theorem rcheck_is (a : Int) (v : Bool) (h : M.ck a = v) (w : World) : Calls Try.prog 57 #[.int .i64 a] w fun e w' => e = .returned (.bool v) ∧ w' = w := by
  subst h; exact rcheck_any a w

/-- Whether a right is there, told by a division. -/
def M.hs (r n : Nat) : Bool := r / n % 2 == 1

theorem M.has_val {r n : Nat} (h : r < 8) (hn : n ≤ 4) : ((wrap64 ((r : Int) / (n : Int))).tmod 2 == 1) = M.hs r n := by
  have k : ∀ a : Fin 8, ∀ b : Fin 5, ((wrap64 ((a.val : Int) / (b.val : Int))).tmod 2 == 1) = M.hs a.val b.val := by decide +kernel
  exact k ⟨r, h⟩ ⟨n, by omega⟩
/-- What is in both among the first rights, and then the next one. -/
theorem M.step {A B j : Nat} (hA : A < 8) (hB : B < 8) (hj : j < 3) : (A &&& B) % 2 ^ (j + 1) = (A &&& B) % 2 ^ j + (if M.hs A (2 ^ j) && M.hs B (2 ^ j) then 2 ^ j else 0) := by
  have k : ∀ a : Fin 8, ∀ b : Fin 8, ∀ i : Fin 3, (a.val &&& b.val) % 2 ^ (i.val + 1) = (a.val &&& b.val) % 2 ^ i.val + (if M.hs a.val (2 ^ i.val) && M.hs b.val (2 ^ i.val) then 2 ^ i.val else 0) := by decide +kernel
  exact k ⟨A, hA⟩ ⟨B, hB⟩ ⟨j, hj⟩
theorem M.last {A B : Nat} (hA : A < 8) (hB : B < 8) : (A &&& B) % 2 ^ 3 = A &&& B := by
  have k : ∀ a : Fin 8, ∀ b : Fin 8, (a.val &&& b.val) % 2 ^ 3 = a.val &&& b.val := by decide
  exact k ⟨A, hA⟩ ⟨B, hB⟩

set_option maxHeartbeats 400000 in
theorem has_is (r n : Nat) (v : Bool) (h : r < 8) (hn : 1 ≤ n) (hn4 : n ≤ 4) (hv : M.hs r n = v) (w : World) : Calls Try.prog 68 #[.int .i64 r, .int .i64 n] w fun e w' => e = .returned (.bool v) ∧ w' = w := by
  subst hv
  go_enter Try.func68, Try.ntmps68
  go_wp2
  go_ret
  exact ⟨ret_bool (M.has_val h hn4), rfl⟩

theorem has_one (r : Nat) (v : Bool) (h : r < 8) (hv : M.hs r 1 = v) (w : World) : Calls Try.prog 68 #[.int .i64 r, .int .i64 1] w fun e w' => e = .returned (.bool v) ∧ w' = w := has_is r 1 v h (by omega) (by omega) hv w
theorem has_two (r : Nat) (v : Bool) (h : r < 8) (hv : M.hs r 2 = v) (w : World) : Calls Try.prog 68 #[.int .i64 r, .int .i64 2] w fun e w' => e = .returned (.bool v) ∧ w' = w := has_is r 2 v h (by omega) (by omega) hv w
theorem has_four (r : Nat) (v : Bool) (h : r < 8) (hv : M.hs r 4 = v) (w : World) : Calls Try.prog 68 #[.int .i64 r, .int .i64 4] w fun e w' => e = .returned (.bool v) ∧ w' = w := has_is r 4 v h (by omega) (by omega) hv w

theorem M.pw (j : Nat) (h : j ≤ 3) : ∃ n : Nat, Hid (n = 2 ^ j) ∧ 1 ≤ n ∧ n ≤ 8 ∧ (j < 3 → n ≤ 4) ∧ (¬ j < 3 → 8 ≤ n) := by
  refine ⟨2 ^ j, rfl, ?_⟩
  have k : ∀ i : Fin 4, 1 ≤ 2 ^ i.val ∧ 2 ^ i.val ≤ 8 ∧ (i.val < 3 → 2 ^ i.val ≤ 4) ∧ (¬ i.val < 3 → 8 ≤ 2 ^ i.val) := by decide
  exact k ⟨j, by omega⟩

set_option maxHeartbeats 800000 in
theorem rmask_nat (A B : Nat) (hA : A < 8) (hB : B < 8) (w : World) : Calls Try.prog 61 #[.int .i64 A, .int .i64 B] w fun e w' => e = .returned (.int .i64 (A &&& B : Nat)) ∧ w' = w := by
  go_enter Try.func61, Try.ntmps61
  go_wp2_with fail
  refine (rcheck_is A true (M.nat_ck hA) _).mono ?_
  rintro e w' ⟨rfl, rfl⟩
  go_wp2_with fail
  refine (rcheck_is B true (M.nat_ck hB) _).mono ?_
  rintro e w' ⟨rfl, rfl⟩
  go_wp2
  go_loopg [5, 6] 3 (fun g m i wr => ∃ j n p : Nat, j + g = 3 ∧ i = .int .i64 n ∧ m = .int .i64 p ∧ Hid (n = 2 ^ j) ∧ Hid (p = (A &&& B) % 2 ^ j) ∧ wr = w')
  case atStart => exact ⟨0, 1, 0, by omega, rfl, rfl, rfl, (Nat.mod_one _).symm, rfl⟩
  case round =>
    obtain ⟨j, n, p, hj, rfl, rfl, hn, hp, rfl⟩ := hrel
    obtain ⟨n', hn', h1, h8, h4, h9⟩ := M.pw j (by omega)
    obtain rfl : n = n' := hn.out.trans hn'.out.symm
    clear hn'
    have hp8 : p ≤ 8 := by
      have h := hp.out
      have h2 := hn.out
      have h3 : (A &&& B) % 2 ^ j < 2 ^ j := Nat.mod_lt _ (Nat.two_pow_pos j)
      omega
    by_cases hlt : j < 3
    · have h4 := h4 hlt
      clear h9
      have hs := M.step hA hB hlt
      rw [← hp.out, ← hn.out] at hs
      have hs : Hid _ := hs
      have hn2 : Hid (n + n = 2 ^ (j + 1)) := by have h := hn.out; rw [Nat.pow_succ]; show n + n = _; omega
      by_cases c1 : M.hs A n = true
      · by_cases c2 : M.hs B n = true
        · have hq : Hid ((A &&& B) % 2 ^ (j + 1) = p + n) := by have h := hs.out; rw [c1, c2] at h; exact hideIt (by simpa using h)
          clear hs
          go_wp2_with fail
          refine (has_is A n true hA h1 h4 c1 _).mono ?_
          rintro e w' ⟨rfl, rfl⟩
          go_wp2_with fail
          refine (has_is B n true hB h1 h4 c2 _).mono ?_
          rintro e w' ⟨rfl, rfl⟩
          go_wp2
          go_roundg (3 - (j + 1))
          case rel => exact ⟨j + 1, n + n, p + n, by omega, by go_num, by go_num, hn2, hq.out.symm, rfl⟩
          case measure => omega
        · rw [Bool.not_eq_true] at c2
          have hq : Hid ((A &&& B) % 2 ^ (j + 1) = p) := by have h := hs.out; rw [c1, c2] at h; exact hideIt (by simpa using h)
          clear hs
          go_wp2_with fail
          refine (has_is A n true hA h1 h4 c1 _).mono ?_
          rintro e w' ⟨rfl, rfl⟩
          go_wp2_with fail
          refine (has_is B n false hB h1 h4 c2 _).mono ?_
          rintro e w' ⟨rfl, rfl⟩
          go_wp2
          go_roundg (3 - (j + 1))
          case rel => exact ⟨j + 1, n + n, p, by omega, by go_num, rfl, hn2, hq.out.symm, rfl⟩
          case measure => omega
      · rw [Bool.not_eq_true] at c1
        have hq : Hid ((A &&& B) % 2 ^ (j + 1) = p) := by have h := hs.out; rw [c1] at h; exact hideIt (by simpa using h)
        clear hs
        go_wp2_with fail
        refine (has_is A n false hA h1 h4 c1 _).mono ?_
        rintro e w' ⟨rfl, rfl⟩
        go_wp2
        go_roundg (3 - (j + 1))
        case rel => exact ⟨j + 1, n + n, p, by omega, by go_num, rfl, hn2, hq.out.symm, rfl⟩
        case measure => omega
    · have h9 := h9 hlt
      have hj3 : j = 3 := by omega
      have hq : Hid (p = A &&& B) := by have h := hp.out; rw [hj3, M.last hA hB] at h; exact h
      clear h4 hp hn hj3 hj
      go_wp2
      go_ret
      exact ⟨by rw [← hq.out]; rfl, rfl⟩

theorem rmask_any (a b : Int) (w : World) : Calls Try.prog 61 #[.int .i64 a, .int .i64 b] w fun e w' => e = .returned (.int .i64 (M.msk a b)) ∧ w' = w := by
  by_cases c1 : M.ck a = true
  · by_cases c2 : M.ck b = true
    · obtain ⟨A, rfl, hA⟩ := M.ck_nat c1
      obtain ⟨B, rfl, hB⟩ := M.ck_nat c2
      rw [M.msk_nat hA hB]
      exact rmask_nat A B hA hB w
    · rw [Bool.not_eq_true] at c2
      go_enter Try.func61, Try.ntmps61
      go_wp2_with fail
      refine (rcheck_is a true c1 _).mono ?_
      rintro e w' ⟨rfl, rfl⟩
      go_wp2_with fail
      refine (rcheck_is b false c2 _).mono ?_
      rintro e w' ⟨rfl, rfl⟩
      go_wp2
      go_ret
      exact ⟨ret_int (by simp [M.msk, c2]), rfl⟩
  · rw [Bool.not_eq_true] at c1
    go_enter Try.func61, Try.ntmps61
    go_wp2_with fail
    refine (rcheck_is a false c1 _).mono ?_
    rintro e w' ⟨rfl, rfl⟩
    go_wp2
    go_ret
    exact ⟨ret_int (by simp [M.msk, c1]), rfl⟩

set_option maxHeartbeats 400000 in
theorem rwithin_any (a b : Int) (w : World) : Calls Try.prog 44 #[.int .i64 a, .int .i64 b] w fun e w' => e = .returned (.bool (M.wth a b)) ∧ w' = w := by
  by_cases c1 : M.ck a = true
  · by_cases c2 : M.ck b = true
    · go_enter Try.func44, Try.ntmps44
      go_wp2_with fail
      refine (rcheck_is a true c1 _).mono ?_
      rintro e w' ⟨rfl, rfl⟩
      go_wp2_with fail
      refine (rcheck_is b true c2 _).mono ?_
      rintro e w' ⟨rfl, rfl⟩
      go_wp2_with fail
      refine (rmask_any a b _).mono ?_
      rintro e w' ⟨rfl, rfl⟩
      go_wp2
      go_ret
      exact ⟨ret_bool (by simp [M.wth, c1, c2]), rfl⟩
    · rw [Bool.not_eq_true] at c2
      go_enter Try.func44, Try.ntmps44
      go_wp2_with fail
      refine (rcheck_is a true c1 _).mono ?_
      rintro e w' ⟨rfl, rfl⟩
      go_wp2_with fail
      refine (rcheck_is b false c2 _).mono ?_
      rintro e w' ⟨rfl, rfl⟩
      go_wp2
      go_ret
      exact ⟨ret_bool (by simp [M.wth, c2]), rfl⟩
  · rw [Bool.not_eq_true] at c1
    go_enter Try.func44, Try.ntmps44
    go_wp2_with fail
    refine (rcheck_is a false c1 _).mono ?_
    rintro e w' ⟨rfl, rfl⟩
    go_wp2
    go_ret
    exact ⟨ret_bool (by simp [M.wth, c1]), rfl⟩

/-- The document's Get, from its last round back: behind round i it holds the field's bits from i on. -/
theorem getN_zero (W a : Nat) : M.getN W a 0 = 0 := by simp [M.getN, Nat.mod_one]

end Go.Proofs.Ytkpcdfiebjigbaa
