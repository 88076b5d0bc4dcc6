/-
  OF TWO RIGHT SPANS: the one lies in the other, or they are apart; halves. Speaks of no function of the program.
-/
import Derived.Test.YthjbihbaccnmcaaMath
namespace Go.Proofs.Ythjbihbaccnmcaa.M

theorem nest_le (a c m n k : Nat) (hn : n = m * k) (ha : a % m = 0) (hc : c % n = 0) : (c ≤ a ∧ a + m ≤ c + n) ∨ a + m ≤ c ∨ c + n ≤ a := by
  obtain ⟨x, rfl⟩ := Nat.dvd_of_mod_eq_zero ha
  obtain ⟨y, rfl⟩ := Nat.dvd_of_mod_eq_zero hc
  subst hn
  rw [Nat.mul_assoc]
  by_cases h1 : x < k * y
  · right; left
    have := Nat.mul_le_mul_left m (show x + 1 ≤ k * y by omega)
    rw [Nat.mul_add, Nat.mul_one] at this; exact this
  · by_cases h2 : x < k * y + k
    · left
      have h3 := Nat.mul_le_mul_left m (show k * y ≤ x by omega)
      have h4 := Nat.mul_le_mul_left m (show x + 1 ≤ k * y + k by omega)
      rw [Nat.mul_add, Nat.mul_add, Nat.mul_one] at h4
      exact ⟨h3, h4⟩
    · right; right
      have h3 := Nat.mul_le_mul_left m (show k * y + k ≤ x by omega)
      rw [Nat.mul_add] at h3; exact h3

theorem pow_mul {b d : Nat} (h : b ≤ d) : 2 ^ d = 2 ^ b * 2 ^ (d - b) := by
  rw [← Nat.pow_add]; congr 1; omega

theorem inn_nat {a b c d m n : Nat} (h1 : rgt a b = true) (h2 : rgt c d = true) (hm : 2 ^ b = m) (hn : 2 ^ d = n) : inn a b c d = decide (c ≤ a ∧ a + m ≤ c + n) := by
  unfold inn; rw [h1, h2, pw_nat, pw_nat, hm, hn]
  rw [Bool.eq_iff_iff]; simp; omega
theorem apt_nat {a b c d m n : Nat} (h1 : rgt a b = true) (h2 : rgt c d = true) (hm : 2 ^ b = m) (hn : 2 ^ d = n) : apt a b c d = decide (a + m ≤ c ∨ c + n ≤ a) := by
  unfold apt; rw [h1, h2, pw_nat, pw_nat, hm, hn]
  rw [Bool.eq_iff_iff]; simp; omega

theorem nests {A B C D : Int} (h1 : rgt A B = true) (h2 : rgt C D = true) : (inn A B C D || inn C D A B) = !(apt A B C D) := by
  obtain ⟨a, b, m, rfl, rfl, hb, hm, _, m1, m2, m3, hr⟩ := rgt_nat h1
  obtain ⟨c, d, n, rfl, rfl, hd, hn, _, n1, n2, n3, hs⟩ := rgt_nat h2
  rw [inn_nat h1 h2 hm hn, inn_nat h2 h1 hn hm, apt_nat h1 h2 hm hn]
  have ha : a % m = 0 := by exact_mod_cast hr
  have hc : c % n = 0 := by exact_mod_cast hs
  have key : (c ≤ a ∧ a + m ≤ c + n) ∨ (a ≤ c ∧ c + n ≤ a + m) ∨ a + m ≤ c ∨ c + n ≤ a := by
    by_cases hbd : b ≤ d
    · have := nest_le a c m n (2 ^ (d - b)) (by rw [← hm, ← hn]; exact pow_mul hbd) ha hc
      omega
    · have := nest_le c a n m (2 ^ (b - d)) (by rw [← hm, ← hn]; exact pow_mul (by omega)) hc ha
      omega
  rw [Bool.eq_iff_iff]; simp; omega

theorem apt_comm (A B C D : Int) : apt C D A B = apt A B C D := by
  unfold apt
  cases rgt A B <;> cases rgt C D <;> simp [Bool.or_comm]
theorem inn_self {A B : Int} (h : rgt A B = true) : inn A B A B = true := by unfold inn; rw [h]; simp
theorem pow_inj {b d : Nat} (h : 2 ^ b = 2 ^ d) : b = d := by
  have h1 : ¬ b < d := fun e => by have := Nat.pow_lt_pow_right (a := 2) (by decide) e; omega
  have h2 : ¬ d < b := fun e => by have := Nat.pow_lt_pow_right (a := 2) (by decide) e; omega
  omega
theorem inn_both {A B C D : Int} (h : inn A B C D = true) (k : inn C D A B = true) : A = C ∧ B = D := by
  have h1 : rgt A B = true := by unfold inn at h; cases e : rgt A B <;> simp_all
  have h2 : rgt C D = true := by unfold inn at k; cases e : rgt C D <;> simp_all
  obtain ⟨a, b, m, rfl, rfl, hb, hm, _, m1, m2, m3, hr⟩ := rgt_nat h1
  obtain ⟨c, d, n, rfl, rfl, hd, hn, _, n1, n2, n3, hs⟩ := rgt_nat h2
  rw [inn_nat h1 h2 hm hn] at h
  rw [inn_nat h2 h1 hn hm] at k
  simp at h k
  have e : m = n := by omega
  have := pow_inj (b := b) (d := d) (by omega)
  omega
theorem inn_no {A B C D : Int} (h : (rgt A B && rgt C D) = false) : inn A B C D = false ∧ apt A B C D = false := by
  unfold inn apt
  cases e1 : rgt A B <;> cases e2 : rgt C D <;> simp_all

theorem has_nat {a b m : Nat} {x : Int} (h : rgt a b = true) (hm : 2 ^ b = m) : has a b x = decide ((a : Int) ≤ x ∧ x < (a : Int) + (m : Int)) := by
  unfold has; rw [h, pw_nat, hm]; rw [Bool.eq_iff_iff]; simp
theorem has_no {A B x : Int} (h : rgt A B = false) : has A B x = false := by unfold has; rw [h]; rfl

/-- What holds of the halves of a right span. -/
theorem half_facts {a b c m n : Nat} (hn : b + 1 = n) (hm : 2 ^ b = m) (hc : a + m = c) (h : rgt a n = true) :
    n ≤ 16 ∧ rgt a b = true ∧ rgt c b = true ∧ apt a b c b = true ∧ inn a b a n = true ∧ inn c b a n = true ∧ (∀ x : Int, has a n x = (has a b x || has c b x)) ∧ (∀ x : Int, has a b x = true → has c b x = false) := by
  obtain ⟨a', n', k, ea, en, hn16, hk, _, k1, k2, k3, hr⟩ := rgt_nat h
  obtain rfl : a = a' := by omega
  obtain rfl : n = n' := by omega
  have e2 : k = m * 2 := by rw [← hk, ← hn, Nat.pow_succ, hm]
  have hm1 : 1 ≤ m := by rw [← hm]; exact Nat.one_le_two_pow
  have hak : a % k = 0 := by exact_mod_cast hr
  have ham : a % m = 0 := by
    obtain ⟨y, hy⟩ := Nat.dvd_of_mod_eq_zero hak
    rw [hy, e2, Nat.mul_assoc, Nat.mul_mod_right]
  have hcm : c % m = 0 := by rw [← hc, Nat.add_mod, ham]; simp
  have r1 : rgt a b = true := rgt_mk a b m (by omega) hm (by omega) (by exact_mod_cast ham)
  have r2 : rgt c b = true := rgt_mk c b m (by omega) hm (by omega) (by exact_mod_cast hcm)
  refine ⟨hn16, r1, r2, ?_, ?_, ?_, ?_, ?_⟩
  · rw [apt_nat r1 r2 hm hm]; simp; omega
  · rw [inn_nat r1 h hm hk]; simp; omega
  · rw [inn_nat r2 h hm hk]; simp; omega
  · intro x
    rw [has_nat h hk, has_nat r1 hm, has_nat r2 hm, Bool.eq_iff_iff]; simp; omega
  · intro x
    rw [has_nat r1 hm, has_nat r2 hm]; simp; omega

end Go.Proofs.Ythjbihbaccnmcaa.M
