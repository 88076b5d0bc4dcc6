/-
  PLAIN NUMBERS: what the word's operations come to, said by bits ('testBit'): no Go in sight.
-/
import Derived.Laws.BitsAllLaws
import Derived.Laws.BitsLemmas
import Derived.RowKit
namespace Go.Proofs.Yteekgfdffofnaaa
namespace M
open Go.RowKit (wrap64)

theorem cast_shr (W i : Nat) : (W : Int) / 2 ^ i = ((W / 2 ^ i : Nat) : Int) := by simp

theorem pow_le64 (n : Nat) (h : n ≤ 64) : 2 ^ n ≤ 18446744073709551616 := by
  have : 2 ^ n ≤ 2 ^ 64 := Nat.pow_le_pow_right (by omega) h
  simpa using this

theorem isOne_val (W i : Nat) (hW : W < 18446744073709551616) : (bits BinOp.and IntKind.u64 ((W : Int) / 2 ^ i) 1 == 1) = W.testBit i := by
  have h1 : W / 2 ^ i ≤ W := Nat.div_le_self _ _
  have h2 := u64_and_nat (W / 2 ^ i) 1 (by omega) (by omega)
  rw [cast_shr, show (1 : Int) = ((1 : Nat) : Int) from rfl, h2, Nat.testBit_eq_decide_div_mod_eq, nat_mask1]
  generalize W / 2 ^ i % 2 = x
  rw [Bool.eq_iff_iff, beq_iff_eq, decide_eq_true_iff]
  omega

theorem bit_val (W i : Nat) : (((W : Int) / 2 ^ i).tmod 2 == 1) = W.testBit i := by
  rw [cast_shr, Nat.testBit_eq_decide_div_mod_eq]
  generalize W / 2 ^ i = x
  rw [Int.tmod_eq_emod_of_nonneg (by omega), Bool.eq_iff_iff, beq_iff_eq, decide_eq_true_iff]
  omega

theorem lowest_val (n : Nat) (h : n ≤ 64) : IntKind.u64.wrap (IntKind.u64.wrap (2 ^ n) - 1) = ((2 ^ n - 1 : Nat) : Int) := by
  have hp := pow_le64 n h
  have h1 : 1 ≤ 2 ^ n := Nat.one_le_two_pow
  rw [IntKind.wrap_u64, IntKind.wrap_u64, show ((2 : Int) ^ n) = ((2 ^ n : Nat) : Int) by simp]
  omega

def getN (W a n : Nat) : Nat := W / 2 ^ a % 2 ^ n

theorem getN_lt (W a n : Nat) : getN W a n < 2 ^ n := Nat.mod_lt _ (Nat.two_pow_pos n)

theorem getN_lt64 (W a n : Nat) (h : W < 18446744073709551616) : getN W a n < 18446744073709551616 := by
  have h1 : getN W a n ≤ W / 2 ^ a := Nat.mod_le _ _
  have h2 : W / 2 ^ a ≤ W := Nat.div_le_self _ _
  omega

theorem get_val (W a n : Nat) (hW : W < 18446744073709551616) (hn : n ≤ 64) :
    bits BinOp.and IntKind.u64 ((W : Int) / 2 ^ a) ((2 ^ n - 1 : Nat) : Int) = ((getN W a n : Nat) : Int) := by
  have h1 : W / 2 ^ a ≤ W := Nat.div_le_self _ _
  have hp := pow_le64 n hn
  have h3 : 1 ≤ 2 ^ n := Nat.one_le_two_pow
  rw [cast_shr, u64_and_nat _ _ (by omega) (by omega), Nat.and_two_pow_sub_one_eq_mod]
  rfl

theorem testBit_getN (W a n i : Nat) : (getN W a n).testBit i = (decide (i < n) && W.testBit (a + i)) := by
  unfold getN
  rw [Nat.testBit_mod_two_pow, Nat.testBit_div_two_pow, Nat.add_comm]

theorem getN_succ (W a m : Nat) : getN W a (m + 1) = getN W (a + 1) m * 2 + (W.testBit a).toNat := by
  unfold getN
  rw [Nat.pow_succ', Nat.mod_mul, Nat.div_div_eq_div_mul, ← Nat.pow_succ, Nat.testBit_eq_decide_div_mod_eq]
  have h3 : W / 2 ^ a % 2 < 2 := Nat.mod_lt _ (by omega)
  by_cases h : W / 2 ^ a % 2 = 1
  · simp [h]; omega
  · simp [h]; omega

def putN (W a n v : Nat) : Nat := (W &&& (18446744073709551615 - (2 ^ n - 1) * 2 ^ a)) ||| (v * 2 ^ a)

theorem mask_lt (a n : Nat) (h : a + n ≤ 64) : (2 ^ n - 1) * 2 ^ a < 18446744073709551616 := by
  have h1 : 2 ^ n * 2 ^ a ≤ 18446744073709551616 := by rw [← Nat.pow_add]; exact pow_le64 _ (by omega)
  have h2 : 0 < 2 ^ a := Nat.two_pow_pos a
  have h3 : 1 ≤ 2 ^ n := Nat.one_le_two_pow
  have h4 : (2 ^ n - 1) * 2 ^ a < 2 ^ n * 2 ^ a := Nat.mul_lt_mul_of_pos_right (by omega) h2
  omega

theorem val_lt (a n v : Nat) (h : a + n ≤ 64) (hv : v < 2 ^ n) : v * 2 ^ a < 18446744073709551616 := by
  have h1 : 2 ^ n * 2 ^ a ≤ 18446744073709551616 := by rw [← Nat.pow_add]; exact pow_le64 _ (by omega)
  have h4 : v * 2 ^ a < 2 ^ n * 2 ^ a := Nat.mul_lt_mul_of_pos_right hv (Nat.two_pow_pos a)
  omega

theorem testBit_not64 (x i : Nat) (h : x < 18446744073709551616) : (18446744073709551615 - x).testBit i = (decide (i < 64) && !x.testBit i) := by
  have h1 : 18446744073709551615 - x = 2 ^ 64 - (x + 1) := by omega
  rw [h1, Nat.testBit_two_pow_sub_succ (by simpa using h)]

theorem testBit_shl (x a i : Nat) : (x * 2 ^ a).testBit i = (decide (a ≤ i) && x.testBit (i - a)) := by
  rw [Nat.mul_comm, Nat.testBit_two_pow_mul]

theorem testBit_ge64 (W i : Nat) (hW : W < 18446744073709551616) (hi : 64 ≤ i) : W.testBit i = false := by
  apply Nat.testBit_lt_two_pow
  have : 2 ^ 64 ≤ 2 ^ i := Nat.pow_le_pow_right (by omega) hi
  have h2 : (2 : Nat) ^ 64 = 18446744073709551616 := by decide
  omega

theorem testBit_putN (W a n v i : Nat) (hW : W < 18446744073709551616) (h : a + n ≤ 64) (hv : v < 2 ^ n) :
    (putN W a n v).testBit i = if a ≤ i ∧ i < a + n then v.testBit (i - a) else W.testBit i := by
  unfold putN
  rw [Nat.testBit_or, Nat.testBit_and, testBit_not64 _ _ (mask_lt a n h), testBit_shl, testBit_shl, Nat.testBit_two_pow_sub_one]
  by_cases h1 : a ≤ i ∧ i < a + n
  · rw [if_pos h1]
    have h2 : i - a < n := by omega
    simp [h1.1, h2]
  · rw [if_neg h1]
    by_cases h3 : a ≤ i
    · have h2 : ¬ i - a < n := by omega
      have h4 : v.testBit (i - a) = false := by
        apply Nat.testBit_lt_two_pow
        have : 2 ^ n ≤ 2 ^ (i - a) := Nat.pow_le_pow_right (by omega) (by omega)
        omega
      by_cases h5 : i < 64
      · simp [h2, h4, h5]
      · simp [h2, h4, h5, testBit_ge64 W i hW (by omega)]
    · have h5 : i < 64 := by omega
      simp [h3, h5]

theorem putN_lt (W a n v : Nat) (h : a + n ≤ 64) (hv : v < 2 ^ n) : putN W a n v < 18446744073709551616 := by
  unfold putN
  have h1 := val_lt a n v h hv
  have h2 : W &&& (18446744073709551615 - (2 ^ n - 1) * 2 ^ a) < 2 ^ 64 := Nat.and_lt_two_pow _ (by omega)
  have h3 := Nat.or_lt_two_pow (n := 64) h2 (by simpa using h1)
  simpa using h3

theorem put_val (W a n v : Nat) (hW : W < 18446744073709551616) (h : a + n ≤ 64) (hv : v < 2 ^ n) :
    bits BinOp.or IntKind.u64 (bits BinOp.andNot IntKind.u64 (W : Int) (IntKind.u64.wrap (((2 ^ n - 1 : Nat) : Int) * 2 ^ a))) (IntKind.u64.wrap ((v : Int) * 2 ^ a)) = ((putN W a n v : Nat) : Int) := by
  have e1 : IntKind.u64.wrap (((2 ^ n - 1 : Nat) : Int) * 2 ^ a) = (((2 ^ n - 1) * 2 ^ a : Nat) : Int) := by
    have := mask_lt a n h
    rw [IntKind.wrap_u64, show ((2 : Int) ^ a) = ((2 ^ a : Nat) : Int) by simp, ← Int.natCast_mul]
    omega
  have e2 : IntKind.u64.wrap ((v : Int) * 2 ^ a) = ((v * 2 ^ a : Nat) : Int) := by
    have := val_lt a n v h hv
    rw [IntKind.wrap_u64, show ((2 : Int) ^ a) = ((2 ^ a : Nat) : Int) by simp, ← Int.natCast_mul]
    omega
  have h2 : W &&& (18446744073709551615 - (2 ^ n - 1) * 2 ^ a) < 2 ^ 64 := Nat.and_lt_two_pow _ (by omega)
  rw [e1, e2, u64_andNot_nat _ _ hW (mask_lt a n h), u64_or_nat _ _ (by simpa using h2) (val_lt a n v h hv)]
  rfl

def cntN (W : Nat) : Nat → Nat
  | 0 => 0
  | k + 1 => cntN W k + (W.testBit k).toNat

theorem cntN_le (W k : Nat) : cntN W k ≤ k := by
  induction k with
  | zero => simp [cntN]
  | succ k ih => simp only [cntN]; have := Bool.toNat_le (W.testBit k); omega

theorem cnt_or_and (A B k : Nat) : cntN A k + cntN B k = cntN (A ||| B) k + cntN (A &&& B) k := by
  induction k with
  | zero => simp [cntN]
  | succ k ih =>
    simp only [cntN, Nat.testBit_or, Nat.testBit_and]
    cases A.testBit k <;> cases B.testBit k <;> simp <;> omega

theorem cnt_xor (A B k : Nat) : cntN (A ^^^ B) k + cntN (A &&& B) k = cntN (A ||| B) k := by
  induction k with
  | zero => simp [cntN]
  | succ k ih =>
    simp only [cntN, Nat.testBit_or, Nat.testBit_and, Nat.testBit_xor]
    cases A.testBit k <;> cases B.testBit k <;> simp <;> omega

def highN (W : Nat) : Nat → Int
  | 0 => -1
  | k + 1 => if W.testBit k then (k : Int) else highN W k

def lowN (W : Nat) : Nat → Nat → Int
  | 0, _ => -1
  | f + 1, i => if W.testBit i then (i : Int) else lowN W f (i + 1)

theorem highN_bd (W k : Nat) : -1 ≤ highN W k ∧ highN W k < k := by
  induction k with
  | zero => simp [highN]
  | succ k ih => simp only [highN]; split <;> omega

theorem lowN_bd (W f i : Nat) : -1 ≤ lowN W f i ∧ lowN W f i < (f : Int) + i := by
  induction f generalizing i with
  | zero => simp [lowN]; omega
  | succ f ih => simp only [lowN]; have := ih (i + 1); split <;> omega

def upN (n k : Nat) : Nat := (n + (2 ^ k - 1)) / 2 ^ k * 2 ^ k

theorem and_high (x k : Nat) (hk : k ≤ 64) (hx : x < 18446744073709551616) : x &&& (18446744073709551615 - (2 ^ k - 1)) = x / 2 ^ k * 2 ^ k := by
  have hp := pow_le64 k hk
  have h1 : 1 ≤ 2 ^ k := Nat.one_le_two_pow
  apply Nat.eq_of_testBit_eq
  intro i
  rw [Nat.testBit_and, testBit_not64 _ _ (by omega), testBit_shl, Nat.testBit_two_pow_sub_one, Nat.testBit_div_two_pow]
  by_cases h : k ≤ i
  · rw [show i - k + k = i by omega]
    by_cases h5 : i < 64
    · simp [h, h5, show ¬ i < k by omega]
    · simp [h5, testBit_ge64 x i hx (by omega)]
  · simp [h, show i < k by omega]

theorem i64_andNot_nat (a b : Nat) (ha : a < 9223372036854775808) (hb : b < 9223372036854775808) : bits .andNot .i64 (a : Int) (b : Int) = ((a &&& (18446744073709551615 - b) : Nat) : Int) := by
  have hx : a &&& (18446744073709551615 - b) ≤ a := Nat.and_le_left
  show IntKind.i64.wrap ((BitVec.ofInt 64 (a : Int) &&& ~~~ BitVec.ofInt 64 (b : Int)).toNat : Int) = _
  rw [BitVec.toNat_and, BitVec.toNat_not, ofInt_u64 a (by omega), ofInt_u64 b (by omega), IntKind.wrap_i64]
  have e : 2 ^ 64 - 1 - b = 18446744073709551615 - b := by omega
  rw [e]
  omega

theorem upN_bd (n k : Nat) : n ≤ upN n k ∧ upN n k < n + 2 ^ k := by
  unfold upN
  have h1 : 1 ≤ 2 ^ k := Nat.one_le_two_pow
  generalize 2 ^ k = m at h1
  have h2 := Nat.div_add_mod (n + (m - 1)) m
  have h3 : (n + (m - 1)) % m < m := Nat.mod_lt _ (by omega)
  rw [Nat.mul_comm] at h2
  omega

theorem pow_le40 (k : Nat) (h : k ≤ 40) : 2 ^ k ≤ 1099511627776 := by
  have : 2 ^ k ≤ 2 ^ 40 := Nat.pow_le_pow_right (by omega) h
  simpa using this

theorem up_val (n k : Nat) (hn : n ≤ 1099511627776) (hk : k ≤ 40) :
    bits BinOp.andNot IntKind.i64 (wrap64 ((n : Int) + wrap64 (wrap64 (2 ^ k) - 1))) (wrap64 (wrap64 (2 ^ k) - 1)) = ((upN n k : Nat) : Int) := by
  have hp := pow_le40 k hk
  have h1 : 1 ≤ 2 ^ k := Nat.one_le_two_pow
  have e1 : wrap64 (wrap64 (2 ^ k) - 1) = ((2 ^ k - 1 : Nat) : Int) := by
    rw [show ((2 : Int) ^ k) = ((2 ^ k : Nat) : Int) by simp]; unfold wrap64; omega
  have e2 : wrap64 ((n : Int) + ((2 ^ k - 1 : Nat) : Int)) = ((n + (2 ^ k - 1) : Nat) : Int) := by
    unfold wrap64; omega
  rw [e1, e2, i64_andNot_nat _ _ (by omega) (by omega), and_high _ _ (by omega) (by omega)]
  rfl

def shN (X k : Nat) : Nat := X / 2 ^ k

theorem shN_zero (X : Nat) : shN X 0 = X := by simp [shN]

theorem shN_64 (X : Nat) (h : X < 18446744073709551616) : shN X 64 = 0 := Nat.div_eq_of_lt (by simpa using h)

theorem shN_succ (X j : Nat) : shN X j = shN X (j + 1) * 2 + (X.testBit j).toNat := by
  unfold shN
  rw [Nat.pow_succ, ← Nat.div_div_eq_div_mul, Nat.testBit_eq_decide_div_mod_eq]
  generalize X / 2 ^ j = y
  by_cases h : y % 2 = 1
  · simp [h]; omega
  · simp [h]; omega

theorem shN_bd (X j : Nat) (h : X < 18446744073709551616) : shN X (j + 1) * 2 + 1 < 18446744073709551616 := by
  unfold shN
  rw [Nat.pow_succ', ← Nat.div_div_eq_div_mul]
  have : X / 2 / 2 ^ j ≤ X / 2 := Nat.div_le_self _ _
  omega

theorem get_put (W a n v : Nat) (hW : W < 18446744073709551616) (h : a + n ≤ 64) (hv : v < 2 ^ n) : getN (putN W a n v) a n = v := by
  apply Nat.eq_of_testBit_eq
  intro i
  rw [testBit_getN, testBit_putN W a n v _ hW h hv]
  by_cases hi : i < n
  · rw [if_pos (by omega), show a + i - a = i by omega]
    simp [hi]
  · have h2 : v.testBit i = false := by
      apply Nat.testBit_lt_two_pow
      have : 2 ^ n ≤ 2 ^ i := Nat.pow_le_pow_right (by omega) (by omega)
      omega
    simp [hi, h2]

theorem get_other (W a n v i : Nat) (hW : W < 18446744073709551616) (h : a + n ≤ 64) (hv : v < 2 ^ n) (hi : i < a ∨ a + n ≤ i) : getN (putN W a n v) i 1 = getN W i 1 := by
  apply Nat.eq_of_testBit_eq
  intro j
  rw [testBit_getN, testBit_getN, testBit_putN W a n v _ hW h hv]
  by_cases hj : j < 1
  · rw [if_neg (by omega)]
  · simp [hj]

theorem put_get (W a n v : Nat) (hW : W < 18446744073709551616) (h : a + n ≤ 64) (hv : v < 2 ^ n) : putN (putN W a n v) a n (getN W a n) = W := by
  apply Nat.eq_of_testBit_eq
  intro i
  rw [testBit_putN _ a n _ _ (putN_lt W a n v h hv) h (getN_lt W a n), testBit_getN]
  by_cases hi : a ≤ i ∧ i < a + n
  · rw [if_pos hi, show a + (i - a) = i by omega]
    simp [show i - a < n by omega]
  · rw [if_neg hi, testBit_putN W a n v _ hW h hv, if_neg hi]

theorem up_le (n k : Nat) (hn : n ≤ 1099511627776) (hk : k ≤ 40) : upN n k ≤ 1099511627776 := by
  unfold upN
  have h1 : 1 ≤ 2 ^ k := Nat.one_le_two_pow
  have h2 : 2 ^ (40 - k) * 2 ^ k = 1099511627776 := by rw [← Nat.pow_add, show 40 - k + k = 40 by omega]
  have h3 : (n + (2 ^ k - 1)) / 2 ^ k ≤ 2 ^ (40 - k) := by
    apply Nat.le_of_lt_succ
    rw [Nat.div_lt_iff_lt_mul (by omega), Nat.succ_mul]
    omega
  have h4 := Nat.mul_le_mul_right (2 ^ k) h3
  omega

theorem up_mod (n k : Nat) : upN n k % 2 ^ k = 0 := by
  unfold upN
  exact Nat.mul_mod_left _ _

theorem up_up (n k : Nat) : upN (upN n k) k = upN n k := by
  have h1 : 1 ≤ 2 ^ k := Nat.one_le_two_pow
  have h2 := up_mod n k
  generalize upN n k = u at h2
  unfold upN
  generalize 2 ^ k = m at h1 h2
  obtain ⟨c, rfl⟩ := Nat.dvd_of_mod_eq_zero h2
  rw [Nat.mul_add_div (by omega), Nat.div_eq_of_lt (by omega), Nat.add_zero, Nat.mul_comm]

theorem wrap_nat (a : Int) : ∃ U : Nat, IntKind.u64.wrap a = (U : Int) ∧ U < 18446744073709551616 :=
  ⟨(a % 18446744073709551616).toNat, by rw [IntKind.wrap_u64]; omega, by omega⟩

theorem highN_spec (W k : Nat) : (highN W k = -1 ∧ ∀ i, i < k → W.testBit i = false) ∨ ∃ h : Nat, highN W k = (h : Int) ∧ h < k ∧ W.testBit h = true ∧ ∀ i, h < i → i < k → W.testBit i = false := by
  induction k with
  | zero => exact Or.inl ⟨rfl, fun i hi => by omega⟩
  | succ k ih =>
    simp only [highN]
    by_cases hb : W.testBit k
    · rw [if_pos hb]
      exact Or.inr ⟨k, rfl, by omega, hb, fun i h1 h2 => by omega⟩
    · rw [if_neg hb]
      rcases ih with ⟨h1, h2⟩ | ⟨h, h1, h2, h3, h4⟩
      · refine Or.inl ⟨h1, fun i hi => ?_⟩
        by_cases e : i = k
        · subst e; simpa using hb
        · exact h2 i (by omega)
      · refine Or.inr ⟨h, h1, by omega, h3, fun i hi hi' => ?_⟩
        by_cases e : i = k
        · subst e; simpa using hb
        · exact h4 i hi (by omega)

theorem lowN_spec (W f i : Nat) : (lowN W f i = -1 ∧ ∀ j, i ≤ j → j < i + f → W.testBit j = false) ∨ ∃ l : Nat, lowN W f i = (l : Int) ∧ i ≤ l ∧ l < i + f ∧ W.testBit l = true ∧ ∀ j, i ≤ j → j < l → W.testBit j = false := by
  induction f generalizing i with
  | zero => exact Or.inl ⟨rfl, fun j h1 h2 => by omega⟩
  | succ f ih =>
    simp only [lowN]
    by_cases hb : W.testBit i
    · rw [if_pos hb]
      exact Or.inr ⟨i, rfl, Nat.le_refl _, by omega, hb, fun j h1 h2 => by omega⟩
    · rw [if_neg hb]
      rcases ih (i + 1) with ⟨h1, h2⟩ | ⟨l, h1, h2, h3, h4, h5⟩
      · refine Or.inl ⟨h1, fun j hj hj' => ?_⟩
        by_cases e : j = i
        · subst e; simpa using hb
        · exact h2 j (by omega) (by omega)
      · refine Or.inr ⟨l, h1, by omega, by omega, h4, fun j hj hj' => ?_⟩
        by_cases e : j = i
        · subst e; simpa using hb
        · exact h5 j (by omega) hj'

theorem zero_of_bits (W : Nat) (hW : W < 18446744073709551616) (h : ∀ i, i < 64 → W.testBit i = false) : W = 0 := by
  apply Nat.eq_of_testBit_eq
  intro i
  rw [Nat.zero_testBit]
  by_cases hi : i < 64
  · exact h i hi
  · exact testBit_ge64 W i hW (by omega)

theorem high_shr (W h : Nat) (hW : W < 18446744073709551616) (h3 : W.testBit h = true) (h4 : ∀ i, h < i → i < 64 → W.testBit i = false) : W / 2 ^ h = 1 := by
  have h1 : 2 ^ h ≤ W := Nat.ge_two_pow_of_testBit h3
  have h2 : W < 2 ^ (h + 1) := by
    apply Nat.lt_pow_two_of_testBit
    intro i hi
    by_cases e : i < 64
    · exact h4 i (by omega) e
    · exact testBit_ge64 W i hW (by omega)
  rw [Nat.pow_succ] at h2
  exact Nat.div_eq_of_lt_le (by omega) (by omega)

theorem low_shl (W l : Nat) (hl : l ≤ 63) (h3 : W.testBit l = true) (h4 : ∀ j, j < l → W.testBit j = false) : IntKind.u64.wrap ((W : Int) * 2 ^ (63 - l)) = 9223372036854775808 := by
  have e1 : W % 2 ^ l = 0 := by
    apply Nat.eq_of_testBit_eq
    intro i
    rw [Nat.zero_testBit, Nat.testBit_mod_two_pow]
    by_cases hi : i < l
    · simp [h4 i hi]
    · simp [hi]
  have e2 : W / 2 ^ l % 2 = 1 := by
    rw [Nat.testBit_eq_decide_div_mod_eq] at h3
    exact of_decide_eq_true h3
  have e3 := Nat.div_add_mod W (2 ^ l)
  have e4 : W * 2 ^ (63 - l) = W / 2 ^ l * 9223372036854775808 := by
    have e5 : 2 ^ l * 2 ^ (63 - l) = 9223372036854775808 := by rw [← Nat.pow_add, show l + (63 - l) = 63 by omega]
    have e6 : W * 2 ^ (63 - l) = (2 ^ l * (W / 2 ^ l)) * 2 ^ (63 - l) := by rw [show 2 ^ l * (W / 2 ^ l) = W by omega]
    rw [e6, ← e5, Nat.mul_comm (2 ^ l), Nat.mul_assoc]
  rw [IntKind.wrap_u64, show ((2 : Int) ^ (63 - l)) = ((2 ^ (63 - l) : Nat) : Int) by simp, ← Int.natCast_mul, e4]
  generalize W / 2 ^ l = y at e2
  omega

theorem getN_one (W i : Nat) (h : W.testBit i = true) : getN W i 1 = 1 := by
  unfold getN
  rw [Nat.testBit_eq_decide_div_mod_eq] at h
  simpa using of_decide_eq_true h

/-- Of a word that is not nought: its highest and its lowest bit. -/
theorem ends (W : Nat) (hW : W < 18446744073709551616) (h0 : W ≠ 0) : ∃ h l : Nat, highN W 64 = (h : Int) ∧ lowN W 64 0 = (l : Int) ∧ h ≤ 63 ∧ l ≤ h ∧ getN W h 1 = 1 ∧ getN W l 1 = 1 ∧ (W : Int) / 2 ^ h = 1 ∧ IntKind.u64.wrap ((W : Int) * 2 ^ (63 - l)) = 9223372036854775808 := by
  rcases highN_spec W 64 with ⟨_, h2⟩ | ⟨h, a1, a2, a3, a4⟩
  · exact absurd (zero_of_bits W hW h2) h0
  · rcases lowN_spec W 64 0 with ⟨_, h2⟩ | ⟨l, b1, b2, b3, b4, b5⟩
    · exact absurd (zero_of_bits W hW (fun i hi => h2 i (by omega) (by omega))) h0
    · have hle : l ≤ h := by
        apply Nat.le_of_not_lt
        intro hlt
        have := a4 l hlt (by omega)
        rw [this] at b4
        cases b4
      refine ⟨h, l, a1, b1, by omega, hle, getN_one W h a3, getN_one W l b4, ?_, low_shl W l (by omega) b4 (fun j hj => b5 j (by omega) hj)⟩
      rw [cast_shr, high_shr W h hW a3 a4]
      rfl

theorem put_comm (W n m u v : Nat) (hW : W < 18446744073709551616) (h : n + m ≤ 64) (hu : u < 2 ^ n) (hv : v < 2 ^ m) :
    putN (putN W 0 n u) n m v = putN (putN W n m v) 0 n u := by
  apply Nat.eq_of_testBit_eq
  intro i
  rw [testBit_putN _ n m v _ (putN_lt W 0 n u (by omega) hu) h hv, testBit_putN _ 0 n u _ hW (by omega) hu, testBit_putN _ 0 n u _ (putN_lt W n m v h hv) (by omega) hu, testBit_putN _ n m v _ hW h hv]
  by_cases h1 : i < n
  · rw [if_neg (by omega), if_pos (by omega), if_pos (by omega)]
  · by_cases h2 : i < n + m
    · rw [if_pos (by omega), if_neg (by omega), if_pos (by omega)]
    · rw [if_neg (by omega), if_neg (by omega), if_neg (by omega), if_neg (by omega)]

theorem get_both (W n m u v : Nat) (hW : W < 18446744073709551616) (h : n + m ≤ 64) (hu : u < 2 ^ n) (hv : v < 2 ^ m) :
    getN (putN (putN W 0 n u) n m v) 0 (n + m) = v * 2 ^ n + u := by
  apply Nat.eq_of_testBit_eq
  intro i
  rw [testBit_getN, testBit_putN _ n m v _ (putN_lt W 0 n u (by omega) hu) h hv, testBit_putN _ 0 n u _ hW (by omega) hu, Nat.mul_comm v, Nat.testBit_two_pow_mul_add v hu]
  by_cases h1 : i < n
  · rw [if_neg (by omega), if_pos (by omega), if_pos h1]
    simp [show i < n + m by omega]
  · by_cases h2 : i < n + m
    · rw [if_pos (by omega), if_neg h1, Nat.zero_add]
      simp [h2]
    · rw [if_neg h1]
      have h3 : v.testBit (i - n) = false := by
        apply Nat.testBit_lt_two_pow
        have : 2 ^ m ≤ 2 ^ (i - n) := Nat.pow_le_pow_right (by omega) (by omega)
        omega
      simp [h2, h3]

theorem shl_nat (v n m : Nat) (h : n + m ≤ 64) (hv : v < 2 ^ m) : IntKind.u64.wrap ((v : Int) * 2 ^ n) = ((v * 2 ^ n : Nat) : Int) := by
  have := val_lt n m v h hv
  rw [IntKind.wrap_u64, show ((2 : Int) ^ n) = ((2 ^ n : Nat) : Int) by simp, ← Int.natCast_mul]
  generalize v * 2 ^ n = y at this
  omega

theorem sum_lt (v n m u : Nat) (h : n + m ≤ 64) (hu : u < 2 ^ n) (hv : v < 2 ^ m) : v * 2 ^ n + u < 18446744073709551616 := by
  have h1 : 2 ^ m * 2 ^ n ≤ 18446744073709551616 := by rw [← Nat.pow_add]; exact pow_le64 _ (by omega)
  have h2 : (v + 1) * 2 ^ n ≤ 2 ^ m * 2 ^ n := Nat.mul_le_mul_right _ hv
  rw [Nat.succ_mul] at h2
  omega

end M
end Go.Proofs.Yteekgfdffofnaaa
