/-
  PLAIN INTERRUPTS: eight lines, each with whether it is pending, masked, and its owner (-1: nobody). The chapter's answers as plain functions: both sides speak of these alone.
-/
import Derived.Test.YtekohlbafhlldaaLeaf
namespace Go.Proofs.Ytekohlbafhlldaa
set_option maxRecDepth 10000
set_option linter.unusedVariables false

/-- Eight lines. -/
structure I where
  p : Nat → Bool
  m : Nat → Bool
  o : Nat → Int
def ub (f : Nat → Bool) (k : Nat) (v : Bool) : Nat → Bool := fun j => if j = k then v else f j
def ui (f : Nat → Int) (k : Nat) (v : Int) : Nat → Int := fun j => if j = k then v else f j
namespace M
/-- Nobody owns a line, all are masked, none is pending. -/
def i0 : I := ⟨fun _ => false, fun _ => true, fun _ => -1⟩
def isL (n : Int) : Bool := decide (0 ≤ n ∧ n < 8)
def isD (d : Int) : Bool := decide (0 ≤ d ∧ d < 4)
/-- Own: the error; what becomes of the lines. -/
def oe (i : I) (n d : Int) : Int := if isL n = true ∧ isD d = true then (if i.o n.toNat = -1 then 0 else 4) else 1
def os (i : I) (n d : Int) : I := if isL n = true ∧ isD d = true ∧ i.o n.toNat = -1 then ⟨i.p, ub i.m n.toNat false, ui i.o n.toNat d⟩ else i
/-- Raise. -/
def re (n : Int) : Int := if isL n = true then 0 else 1
def rs (i : I) (n : Int) : I := if isL n = true then ⟨ub i.p n.toNat true, i.m, i.o⟩ else i
/-- Line k is one that domain d may take. -/
def hit (i : I) (d : Int) (k : Nat) : Bool := i.o k == d && !i.m k && i.p k
/-- The first one of the eight, or none. -/
def Nx (i : I) (d : Int) : Option Nat → Prop
  | some k => k < 8 ∧ hit i d k = true ∧ ∀ j, j < k → hit i d j = false
  | none => ∀ j, j < 8 → hit i d j = false
def nn (r : Option Nat) : Int := match r with | some k => (k : Int) | none => 0
def ns (i : I) (r : Option Nat) : I := match r with | some k => ⟨ub i.p k false, ub i.m k true, i.o⟩ | none => i
/-- Ack. -/
def ae (i : I) (n : Int) : Int := if isL n = true then (if i.o n.toNat = -1 ∨ i.m n.toNat = false then 8 else 0) else 1
def ak (i : I) (n : Int) : I := if isL n = true ∧ i.o n.toNat ≠ -1 then ⟨i.p, ub i.m n.toNat false, i.o⟩ else i
/-- Owner. -/
def on (i : I) (n : Int) : Int := if isL n = true ∧ i.o n.toNat ≠ -1 then i.o n.toNat else 0
def ob (i : I) (n : Int) : Bool := isL n && i.o n.toNat != -1
/-- A word's bits below j. -/
def bb (f : Nat → Bool) (k : Nat) : Nat := if f k then 1 else 0
def wn (f : Nat → Bool) : Nat → Nat
  | 0 => 0
  | j + 1 => wn f j + bb f j * 2 ^ j
/-- The same from the top down. -/
def wu (f : Nat → Bool) : Nat → Nat
  | 0 => 0
  | j + 1 => 2 * wu f j + bb f (7 - j)
def wd (f : Nat → Bool) : Nat := wn f 8

theorem bb_le (f : Nat → Bool) (k : Nat) : bb f k ≤ 1 := by unfold bb; split <;> omega
theorem wu_eq (f : Nat → Bool) : wu f 8 = wd f := by
  simp only [wd, wu, wn]
  simp
  omega
theorem wn_lt (f : Nat → Bool) : ∀ j, wn f j < 2 ^ j
  | 0 => by simp [wn]
  | j + 1 => by
    have h1 := wn_lt f j
    have h2 := bb_le f j
    have h3 : bb f j * 2 ^ j ≤ 1 * 2 ^ j := Nat.mul_le_mul_right _ h2
    unfold wn
    rw [Nat.pow_succ]
    omega
theorem wd_lt (f : Nat → Bool) : wd f < 256 := wn_lt f 8
theorem wn_bit (f : Nat → Bool) (i : Nat) : ∀ j, (wn f j).testBit i = (decide (i < j) && f i)
  | 0 => by simp [wn]
  | j + 1 => by
    have ih := wn_bit f i j
    have hl := wn_lt f j
    unfold wn bb
    cases hf : f j with
    | false =>
      simp only [Bool.false_eq_true, if_false, Nat.zero_mul, Nat.add_zero]
      rw [ih]
      by_cases c : i = j
      · subst c; simp [hf]
      · by_cases c2 : i < j
        · simp [c2, show i < j + 1 by omega]
        · simp [c2, show ¬ i < j + 1 by omega]
    | true =>
      simp only [if_true, Nat.one_mul]
      rw [Nat.add_comm, show 2 ^ j + wn f j = 2 ^ j * 1 + wn f j by omega, Nat.testBit_two_pow_mul_add _ hl]
      by_cases c2 : i < j
      · rw [if_pos c2, ih]; simp [c2, show i < j + 1 by omega]
      · rw [if_neg c2]
        by_cases c : i = j
        · subst c; simp [hf]
        · have : i - j = (i - j - 1) + 1 := by omega
          rw [this]
          simp [Nat.testBit_succ, show ¬ i < j + 1 by omega]
theorem wd_bit (f : Nat → Bool) (k : Nat) (hk : k < 8) : (wd f).testBit k = f k := by unfold wd; rw [wn_bit]; simp [hk]
theorem wn_put (f : Nat → Bool) (j : Nat) (hj : j < 8) (h : f j = true) : putN (wn f j) j 1 1 = wn f (j + 1) := by
  have hl := wn_lt f j
  have h8 : 2 ^ j ≤ 2 ^ 8 := Nat.pow_le_pow_right (by omega) (by omega)
  refine Nat.eq_of_testBit_eq fun i => ?_
  rw [testBit_putN _ _ _ _ _ (by omega) (by omega) (by decide), wn_bit, wn_bit]
  by_cases c : j ≤ i ∧ i < j + 1
  · obtain rfl : i = j := by omega
    simp [h]
  · rw [if_neg c]
    by_cases c2 : i < j
    · simp [c2, show i < j + 1 by omega]
    · simp [c2, show ¬ i < j + 1 by omega]
theorem wn_skip (f : Nat → Bool) (j : Nat) (h : f j = false) : wn f j = wn f (j + 1) := by simp [wn, bb, h]
theorem nx_some (i : I) (d : Int) : ∃ r, Nx i d r := by
  by_cases h : ∃ k, k < 8 ∧ hit i d k = true
  · obtain ⟨k, hk, hh⟩ := h
    induction k using Nat.strongRecOn with
    | _ k ih =>
      by_cases c : ∃ j, j < k ∧ hit i d j = true
      · obtain ⟨j, hj, e⟩ := c
        exact ih j hj (by omega) e
      · refine ⟨some k, hk, hh, fun j hj => ?_⟩
        cases e : hit i d j with
        | false => rfl
        | true => exact (c ⟨j, hj, e⟩).elim
  · refine ⟨none, fun j hj => ?_⟩
    cases e : hit i d j with
    | false => rfl
    | true => exact (h ⟨j, hj, e⟩).elim
theorem isL_iff {n : Int} : isL n = true ↔ 0 ≤ n ∧ n < 8 := by unfold isL; simp
theorem isD_iff {n : Int} : isD n = true ↔ 0 ≤ n ∧ n < 4 := by unfold isD; simp
theorem isL_nat {n : Int} (h : isL n = true) : ∃ k : Nat, n = (k : Int) ∧ k < 8 ∧ n.toNat = k := by
  rw [isL_iff] at h
  exact ⟨n.toNat, by omega, by omega, rfl⟩
/-- What always holds: a line that nobody owns is masked; owners are domains. -/
def Gd (i : I) : Prop := ∀ k, k < 8 → (i.o k = -1 ∧ i.m k = true) ∨ (0 ≤ i.o k ∧ i.o k < 4)
theorem gd0 : Gd i0 := fun k _ => .inl ⟨rfl, rfl⟩
theorem Gd.own {i : I} (h : Gd i) (n d : Int) : Gd (os i n d) := by
  unfold os
  split
  · rename_i c
    intro k hk
    have := isD_iff.1 c.2.1
    by_cases e : k = n.toNat
    · subst e; exact .inr (by simp [ui]; omega)
    · simpa [ub, ui, e] using h k hk
  · exact h
theorem Gd.raise {i : I} (h : Gd i) (n : Int) : Gd (rs i n) := by
  unfold rs
  split
  · exact h
  · exact h
theorem Gd.next {i : I} (h : Gd i) (r : Option Nat) : Gd (ns i r) := by
  unfold ns
  cases r with
  | none => exact h
  | some k =>
    intro j hj
    have := h j hj
    by_cases e : j = k
    · subst e
      rcases this with h1 | h1
      · exact .inl ⟨h1.1, by simp [ub]⟩
      · exact .inr h1
    · simpa [ub, e] using this
theorem Gd.ack {i : I} (h : Gd i) (n : Int) : Gd (ak i n) := by
  unfold ak
  split
  · rename_i c
    intro j hj
    have := h j hj
    by_cases e : j = n.toNat
    · subst e
      rcases this with h1 | h1
      · exact (c.2 h1.1).elim
      · exact .inr h1
    · simpa [ub, e] using this
  · exact h
end M
end Go.Proofs.Ytekohlbafhlldaa
