/-
  THE CONTRACTS of package cap's Words and Of.
-/
import Derived.Test.YtkpcdfiebjigbaaChk
namespace Go.Proofs.Ytkpcdfiebjigbaa
set_option maxRecDepth 10000
open Go.RowKit

/-- A field that is put above all that is there is added. -/
theorem M.putN_add (W a n v : Nat) (hW : W < 2 ^ a) (h : a + n ≤ 64) (hv : v < 2 ^ n) : M.putN W a n v = W + v * 2 ^ a := by
  have h64 : W < 18446744073709551616 := by
    have : 2 ^ a ≤ 2 ^ 64 := Nat.pow_le_pow_right (by omega) (by omega)
    omega
  apply Nat.eq_of_testBit_eq
  intro i
  rw [M.testBit_putN W a n v i h64 h hv, Nat.add_comm W, Nat.mul_comm v, Nat.testBit_two_pow_mul_add v hW]
  by_cases h1 : i < a
  · rw [if_neg (by omega), if_pos h1]
  · rw [if_neg h1]
    by_cases h2 : i < a + n
    · rw [if_pos ⟨by omega, h2⟩]
    · rw [if_neg (by omega)]
      have e1 : W.testBit i = false := Nat.testBit_lt_two_pow (Nat.lt_of_lt_of_le hW (Nat.pow_le_pow_right (by omega) (by omega)))
      have e2 : v.testBit (i - a) = false := Nat.testBit_lt_two_pow (Nat.lt_of_lt_of_le hv (Nat.pow_le_pow_right (by omega) (by omega)))
      rw [e1, e2]

/-- A right one, in natural numbers. -/
theorem M.chk_ok {k o r b g n : Int} (hb : 0 ≤ b) (hg : 0 ≤ g) (h : M.chk ⟨k, o, r, b, g, n⟩ = 0) :
    ∃ K O R B G N : Nat, k = K ∧ o = O ∧ r = R ∧ b = B ∧ g = G ∧ n = N ∧ K ≤ 11 ∧ O ≤ 63 ∧ R < 8 ∧ B < 268435456 ∧ G < 65536 ∧ N ≤ 16 := by
  unfold M.chk at h
  cases h1 : M.knd k
  · rw [h1] at h; simp at h
  · rw [h1] at h
    cases h2 : M.bnd ⟨k, o, r, b, g, n⟩
    · rw [h2] at h; simp at h
    · simp only [M.knd, Bool.and_eq_true, decide_eq_true_eq] at h1
      simp only [M.bnd, M.grd, M.blw, Bool.and_eq_true, decide_eq_true_eq] at h2
      obtain ⟨⟨⟨⟨o1, o2⟩, h3⟩, h4⟩, ⟨h5, h6⟩, h7⟩ := h2
      obtain ⟨R, rfl, hR⟩ := M.ck_nat h3
      have h8 : (2 : Int) ^ n.toNat ≤ 65536 := by
        have : 2 ^ n.toNat ≤ 2 ^ 16 := Nat.pow_le_pow_right (by omega) (by omega)
        have e : ((2 : Int) ^ n.toNat) = ((2 ^ n.toNat : Nat) : Int) := by simp
        rw [e]; omega
      have h9 : b < 268435456 := h4
      exact ⟨k.toNat, o.toNat, R, b.toNat, g.toNat, n.toNat, by omega, by omega, rfl, by omega, by omega, by omega, by omega, by omega, hR, by omega, by omega, by omega⟩

end Go.Proofs.Ytkpcdfiebjigbaa
