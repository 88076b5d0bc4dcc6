/-
  A SPAN THAT IS FILLED, AS NUMBERS: one object behind the other, all of one length. Speaks of no function of the program.
-/
import Derived.Test.YtadllapdhdjpbaaFacts
namespace Go.Proofs.Ytadllapdhdjpbaa.M

theorem bts_unt (k : Nat) (h : k ≤ 16) : bts 1 (k : Int) = ((k : Int), 0) := by
  unfold bts; rw [if_neg (by decide), if_pos rfl, if_neg (by omega)]
theorem right512 (n : Nat) (h : n ≤ 8) : rgt 512 (n : Int) = true := by
  have : n = 0 ∨ n = 1 ∨ n = 2 ∨ n = 3 ∨ n = 4 ∨ n = 5 ∨ n = 6 ∨ n = 7 ∨ n = 8 := by omega
  rcases this with rfl | rfl | rfl | rfl | rfl | rfl | rfl | rfl | rfl <;> decide +kernel
theorem mult512 (k m : Nat) (h : k ≤ 8) (hm : 2 ^ k = m) : 512 % m = 0 := by
  subst hm
  have : k = 0 ∨ k = 1 ∨ k = 2 ∨ k = 3 ∨ k = 4 ∨ k = 5 ∨ k = 6 ∨ k = 7 ∨ k = 8 := by omega
  rcases this with rfl | rfl | rfl | rfl | rfl | rfl | rfl | rfl | rfl <;> decide
/-- The next multiple of a multiple. -/
theorem same_up (t f m : Nat) (h1 : t ≤ f) (h2 : f < t + m) (h3 : f % m = 0) (h4 : t % m = 0) : f = t := by
  have h5 : m ∣ f - t := Nat.dvd_sub (Nat.dvd_of_mod_eq_zero h3) (Nat.dvd_of_mod_eq_zero h4)
  by_cases e : f - t = 0
  · omega
  · have := Nat.le_of_dvd (by omega) h5; omega

theorem fill (n k p m j U : Nat) (hn : n ≤ 8) (hk : k ≤ 8) (hp : 2 ^ n = p) (hm : 2 ^ k = m) (hU : j * m = U) (h : U ≤ p) :
    (U + m ≤ p ∧ pln 512 (n : Int) (U : Int) 1 (k : Int) 1 = ([(((512 + U : Nat) : Int), (k : Int))], ((U + m : Nat) : Int), 0)) ∨ (p < U + m ∧ pln 512 (n : Int) (U : Int) 1 (k : Int) 1 = ([], 0, 7)) := by
  have hb := bts_unt k (by omega)
  have hr := right512 n hn
  have hpw : pw (n : Int) = (p : Int) := by rw [pw_nat, hp]
  have hu : usd 512 (n : Int) (U : Int) = true := by unfold usd; rw [hr, hpw, decide_eq_true (by omega : (0 : Int) ≤ (U : Int)), decide_eq_true (by omega : (U : Int) ≤ (p : Int))]; rfl
  rcases ways6 512 (n : Int) (U : Int) 1 (k : Int) 1 with ⟨b', e', hb', he', q'⟩ | ⟨b', hb', _, hk', q'⟩ | ⟨a', d', p', s', b', m', y', f', F', H⟩
  · rw [hb] at hb'; simp only [Prod.mk.injEq] at hb'; exact absurd hb'.2.symm he'
  · exact absurd ⟨hu, by omega, by omega⟩ hk'
  · have ea : a' = 512 := by have h2 := F'.hA; omega
    have ed : n = d' := by have h2 := F'.hB; omega
    have es : U = s' := by have h2 := F'.hu; omega
    have eb : k = b' := by have h1 := F'.hb; rw [hb] at h1; simp only [Prod.mk.injEq] at h1; omega
    have ey : y' = 1 := by have h1 := F'.hc; omega
    have ep : p = p' := by rw [← F'.hp, ← hp, ed]
    have em : m = m' := by rw [← F'.hm, ← hm, eb]
    have ef : f' = 512 + U := by
      have f1 := F'.f1; have f2 := F'.f2; have f3 := F'.f3
      rw [← em, ea, ← es] at *
      refine same_up (512 + U) f' m f1 f2 f3 ?_
      rw [← hU, Nat.add_mod, mult512 k m hk hm, Nat.mul_mod_left]; simp
    subst ea ed es eb ey ep em ef
    clear F'
    rcases H with ⟨hy, q⟩ | ⟨hy, q⟩
    · right; exact ⟨by omega, q⟩
    · left; refine ⟨by omega, ?_⟩
      rw [q]
      have e1 : 512 + U + 1 * m - 512 = U + m := by omega
      have e2 : rowL (512 + U) m k 1 = [(((512 + U : Nat) : Int), (k : Int))] := by unfold rowL; simp
      rw [e1, e2]

theorem fill_end (n k p m j U : Nat) (hp : 2 ^ n = p) (hm : 2 ^ k = m) (hU : j * m = U) (h : U ≤ p) (h2 : p < U + m) :
    (n < k ∧ j = 0) ∨ (k ≤ n ∧ j = 2 ^ (n - k) ∧ U = p) := by
  by_cases e : n < k
  · left; refine ⟨e, ?_⟩
    have : 2 ^ n < 2 ^ k := Nat.pow_lt_pow_right (by decide) e
    by_cases hj : j = 0
    · exact hj
    · have : 1 * m ≤ j * m := Nat.mul_le_mul_right m (by omega)
      omega
  · right
    have hq : 2 ^ (n - k) * 2 ^ k = 2 ^ n := by rw [← Nat.pow_add]; congr 1; omega
    rw [hp, hm] at hq
    have h1 : j * m ≤ 2 ^ (n - k) * m := by omega
    have h3 : 2 ^ (n - k) * m < (j + 1) * m := by rw [Nat.succ_mul]; omega
    have m1 : 0 < m := by rw [← hm]; exact Nat.two_pow_pos k
    have h4 := Nat.le_of_mul_le_mul_right h1 m1
    have h5 := Nat.lt_of_mul_lt_mul_right h3
    have ej : j = 2 ^ (n - k) := by omega
    exact ⟨by omega, ej, by rw [← hU, ej, hq]⟩

theorem fill_lt (n p m j U : Nat) (hn : n ≤ 8) (hp : 2 ^ n = p) (m1 : 1 ≤ m) (hU : j * m = U) (h : U ≤ p) : j ≤ 256 := by
  have h1 : 2 ^ n ≤ 2 ^ 8 := Nat.pow_le_pow_right (by decide) hn
  have h2 : j * 1 ≤ j * m := Nat.mul_le_mul_left j m1
  have h3 : (2 : Nat) ^ 8 = 256 := by decide
  omega

theorem mod9 (C : Int) : ∃ U x : Nat, IntKind.u64.wrap C = (U : Int) ∧ (U : Int) % 9 = (x : Int) ∧ x ≤ 8 :=
  ⟨(IntKind.u64.wrap C).toNat, (IntKind.u64.wrap C).toNat % 9, by rw [IntKind.wrap_u64]; omega, by omega, by omega⟩

/-- A round of the law, whole. -/
theorem fill_round (n k p m j U : Nat) (hn : n ≤ 8) (hk : k ≤ 8) (hp : 2 ^ n = p) (hm : 2 ^ k = m) (hU : j * m = U) (h : U ≤ p) :
    j ≤ 256 ∧ ((∃ V : Nat, (j + 1) * m = V ∧ V ≤ p ∧ pln 512 (n : Int) (U : Int) 1 (k : Int) 1 = ([(((512 + U : Nat) : Int), (k : Int))], (V : Int), 0)) ∨
      (pln 512 (n : Int) (U : Int) 1 (k : Int) 1 = ([], 0, 7) ∧ ((n < k ∧ j = 0) ∨ (k ≤ n ∧ (∃ i : Nat, (n : Int) - (k : Int) = (i : Int) ∧ i ≤ 16 ∧ Go.RowKit.wrap64 (2 ^ i) = (j : Int)) ∧ lft 512 (n : Int) (U : Int) = 0)))) := by
  have m1 : 1 ≤ m := by rw [← hm]; exact Nat.one_le_two_pow
  refine ⟨fill_lt n p m j U hn hp m1 hU h, ?_⟩
  rcases fill n k p m j U hn hk hp hm hU h with ⟨h1, q⟩ | ⟨h1, q⟩
  · left; exact ⟨U + m, by rw [Nat.succ_mul, hU], h1, q⟩
  · right
    refine ⟨q, ?_⟩
    rcases fill_end n k p m j U hp hm hU h h1 with h2 | ⟨h2, h3, h4⟩
    · exact .inl h2
    · refine .inr ⟨h2, ⟨n - k, by omega, by omega, shl_val (n - k) j (by omega) h3.symm⟩, ?_⟩
      have hpw : pw (n : Int) = (p : Int) := by rw [pw_nat, hp]
      have hr := right512 n hn
      have hu : usd 512 (n : Int) (U : Int) = true := by unfold usd; rw [hr, hpw, decide_eq_true (by omega : (0 : Int) ≤ (U : Int)), decide_eq_true (by omega : (U : Int) ≤ (p : Int))]; rfl
      rw [lft_yes p U hu hpw rfl, h4]; omega

end Go.Proofs.Ytadllapdhdjpbaa.M
