/-
  THE SPANS OF A COVER ONE BY ONE: where each begins; they rise, are right, are apart, and their lengths add up. Speaks of no function of the program.
-/
import Derived.Test.YthjbihbaccnmcaaLong
import Derived.Test.YthjbihbaccnmcaaNest
namespace Go.Proofs.Ythjbihbaccnmcaa.M

/-- Where span number i of the cover begins (t, if there is none). -/
def st (t a : Nat) : Nat → Nat
  | 0 => a
  | i + 1 => if st t a i < t then st t a i + 2 ^ lng (st t a i) t else st t a i
theorem st_lt {t a i : Nat} (h : st t a i < t) : st t a (i + 1) = st t a i + 2 ^ lng (st t a i) t := by rw [st, if_pos h]
theorem st_ge {t a i : Nat} (h : ¬ st t a i < t) : st t a (i + 1) = st t a i := by rw [st, if_neg h]
theorem st_shift (t a : Nat) : ∀ i, st t a (i + 1) = st t (st t a 1) i
  | 0 => rfl
  | i + 1 => by
    have ih := st_shift t a i
    rw [show st t (st t a 1) (i + 1) = if st t (st t a 1) i < t then st t (st t a 1) i + 2 ^ lng (st t (st t a 1) i) t else st t (st t a 1) i from rfl, ← ih]
    rfl
theorem st_le {t a : Nat} (h : a ≤ t) : ∀ i, st t a i ≤ t
  | 0 => h
  | i + 1 => by
    have ih := st_le h i
    by_cases k : st t a i < t
    · rw [st_lt k]; exact (ok_iff.1 (lng_ok k).1).2
    · rw [st_ge k]; exact ih
theorem st_up (t a i : Nat) : st t a i ≤ st t a (i + 1) := by
  by_cases k : st t a i < t
  · rw [st_lt k]; exact Nat.le_add_right _ _
  · rw [st_ge k]; exact Nat.le_refl _
theorem st_ups (t a i : Nat) : ∀ d, st t a i ≤ st t a (i + d)
  | 0 => Nat.le_refl _
  | d + 1 => Nat.le_trans (st_ups t a i d) (st_up t a (i + d))
theorem st_mono {t a i j : Nat} (h : i ≤ j) : st t a i ≤ st t a j := by
  have := st_ups t a i (j - i); rwa [show i + (j - i) = j by omega] at this

theorem cover_get (t : Nat) : ∀ (i a : Nat), (cover t a)[i]? = if st t a i < t then some ((st t a i : Int), (lng (st t a i) t : Int)) else none
  | 0, a => by
    by_cases h : a < t
    · rw [cover_lt h, show st t a 0 = a from rfl, if_pos h]; rfl
    · rw [cover_end h, show st t a 0 = a from rfl, if_neg h]; rfl
  | i + 1, a => by
    by_cases h : a < t
    · rw [cover_lt h, List.getElem?_cons_succ, cover_get t i, st_shift, show st t a 1 = a + 2 ^ lng a t from st_lt (i := 0) h]
    · have h0 : ¬ st t a (i + 1) < t := by
        have := st_mono (t := t) (a := a) (i := 0) (j := i + 1) (by omega)
        rw [show st t a 0 = a from rfl] at this; omega
      rw [cover_end h, if_neg h0]; rfl
theorem cover_idx {t a i : Nat} (h : i < (cover t a).length) : st t a i < t := by
  have h1 := cover_get t i a
  rw [List.getElem?_eq_getElem h] at h1
  by_cases k : st t a i < t
  · exact k
  · rw [if_neg k] at h1; cases h1
theorem cover_past {t a i : Nat} (h : ¬ i < (cover t a).length) : ¬ st t a i < t := fun k => by
  have h1 := cover_get t i a
  rw [if_pos k, List.getElem?_eq_none (by omega)] at h1; cases h1

/-- Each is right, and does not go beyond t. -/
theorem one_right {t c : Nat} (ht : t ≤ 65536) (h : c < t) : rgt (c : Int) (lng c t : Int) = true ∧ c + 2 ^ lng c t ≤ t ∧ lng c t ≤ 16 := by
  have h1 := lng_ok h
  obtain ⟨k1, k2⟩ := ok_iff.1 h1.1
  exact ⟨rgt_mk c _ _ h1.2 rfl (by omega) (by exact_mod_cast k1), k2, h1.2⟩
theorem one_chk {t c : Nat} (ht : t ≤ 65536) (h : c < t) : chk (c : Int) (lng c t : Int) (t : Int) = 0 := by
  obtain ⟨h1, h2, h3⟩ := one_right ht h
  unfold chk
  rw [rgt_rng h1, h1, pw_nat, if_pos rfl, if_pos rfl, if_neg (by omega)]
theorem cover_all {t a : Nat} (ht : t ≤ 65536) : all (cover t a) = true := by
  refine all_yes fun i hi k hk => ?_
  have hi' := cover_idx hi
  have hk' := cover_idx (show k < (cover t a).length by omega)
  have e1 := cover_get t i a
  have e2 := cover_get t k a
  rw [if_pos hi'] at e1
  rw [if_pos hk'] at e2
  rw [ap_at e1 e2]
  obtain ⟨r1, _, _⟩ := one_right ht hi'
  obtain ⟨r2, _, _⟩ := one_right ht hk'
  have h3 := st_mono (t := t) (a := a) (show k + 1 ≤ i by omega)
  rw [st_lt hk'] at h3
  rw [apt_nat r1 r2 rfl rfl]; simp; omega
/-- It cannot be twice as long. -/
theorem one_long {t c : Nat} : chk (c : Int) ((lng c t : Int) + 1) (t : Int) ≠ 0 := by
  intro e
  have e0 : (lng c t : Int) + 1 = ((lng c t + 1 : Nat) : Int) := by omega
  rw [e0] at e
  unfold chk at e
  cases k1 : rng (c : Int) ((lng c t + 1 : Nat) : Int)
  · rw [k1] at e; simp at e
  · cases k2 : rgt (c : Int) ((lng c t + 1 : Nat) : Int)
    · rw [k1, k2] at e; simp at e
    · rw [k1, k2, pw_nat] at e
      by_cases k3 : (t : Int) < (c : Int) + ((2 ^ (lng c t + 1) : Nat) : Int)
      · rw [if_pos rfl, if_pos rfl, if_pos k3] at e; cases e
      · obtain ⟨h4, h5⟩ := longer_ok k2 rfl (show c + 2 ^ (lng c t + 1) ≤ t by omega)
        have := lngF_max h4 16 h5
        unfold lng at this; omega

/-- What the law's loop wants to know of span number i. -/
theorem cover_fact {t a i n : Nat} (ht : t ≤ 3000) (hat : a ≤ t) (hn : a + n = st t a i) (hi : i < (cover t a).length) :
    ∃ c b m : Nat, (cover t a)[i]? = some ((c : Int), (b : Int)) ∧ b ≤ 16 ∧ 2 ^ b = m ∧ 1 ≤ m ∧ m ≤ 65536 ∧ chk (c : Int) (b : Int) (t : Int) = 0 ∧ n + m ≤ 3000 ∧ a ≤ c ∧ a + (n + m) = st t a (i + 1) ∧ chk (c : Int) ((b : Int) + 1) (t : Int) ≠ 0 ∧
      ∀ i1, i1 + 1 = i → ∃ c1 b1 : Nat, (cover t a)[i1]? = some ((c1 : Int), (b1 : Int)) ∧ c1 < c := by
  have h1 := cover_idx hi
  have h2 := cover_get t i a
  rw [if_pos h1] at h2
  obtain ⟨h3, h4, h5⟩ := one_right (t := t) (by omega) h1
  have h6 := pow_le16 _ h5
  have h7 := st_le hat (i + 1)
  have h8 := st_lt h1
  refine ⟨st t a i, lng (st t a i) t, _, h2, h5, rfl, h6.1, h6.2, one_chk (by omega) h1, by omega, by omega, by omega, one_long, ?_⟩
  intro i1 e
  have k1 := cover_idx (t := t) (a := a) (i := i1) (by omega)
  have k2 := cover_get t i1 a
  rw [if_pos k1] at k2
  refine ⟨_, _, k2, ?_⟩
  have k3 := st_lt k1
  have k4 := Nat.one_le_two_pow (n := lng (st t a i1) t)
  rw [e] at k3
  omega
theorem cover_stop {t a i n : Nat} (hat : a ≤ t) (hn : a + n = st t a i) (hi : ¬ i < (cover t a).length) : a + n = t := by
  have h1 := cover_past hi
  have h2 := st_le hat i
  omega

end Go.Proofs.Ythjbihbaccnmcaa.M
