/-
  COVERS AS LISTS OF NUMBERS: the longest right span that begins at a place and does not go beyond another; the spans that cover a stretch. Speaks of no function of the program.
-/
import Derived.Test.YthjbihbaccnmcabMath
namespace Go.Proofs.Ythjbihbaccnmcab.M

def ok (a t c : Nat) : Bool := decide (a % 2 ^ c = 0 ∧ a + 2 ^ c ≤ t)
def lngF (a t : Nat) : Nat → Nat
  | 0 => 0
  | c + 1 => if ok a t (c + 1) then c + 1 else lngF a t c
def lng (a t : Nat) : Nat := lngF a t 16

theorem ok_iff {a t c : Nat} : ok a t c = true ↔ a % 2 ^ c = 0 ∧ a + 2 ^ c ≤ t := by unfold ok; simp
theorem ok_down {a t c : Nat} (h : ok a t (c + 1) = true) : ok a t c = true := by
  rw [ok_iff] at *
  obtain ⟨h1, h2⟩ := h
  have hp : 2 ^ (c + 1) = 2 ^ c * 2 := Nat.pow_succ 2 c
  refine ⟨?_, by omega⟩
  have hd : 2 ^ c ∣ a := Nat.dvd_trans ⟨2, hp⟩ (Nat.dvd_of_mod_eq_zero h1)
  exact Nat.mod_eq_zero_of_dvd hd
theorem ok_downs {a t : Nat} (c d : Nat) (h : ok a t (c + d) = true) : ok a t c = true := by
  induction d with
  | zero => exact h
  | succ d ih => exact ih (ok_down h)
theorem ok0 {a t : Nat} (h : a < t) : ok a t 0 = true := by rw [ok_iff]; simp [Nat.mod_one]; omega
theorem lngF_ok {a t : Nat} (h : a < t) : ∀ n, ok a t (lngF a t n) = true ∧ lngF a t n ≤ n
  | 0 => ⟨ok0 h, Nat.le_refl _⟩
  | n + 1 => by
    unfold lngF
    split
    · exact ⟨by assumption, Nat.le_refl _⟩
    · have := lngF_ok h n; exact ⟨this.1, by omega⟩
theorem lng_ok {a t : Nat} (h : a < t) : ok a t (lng a t) = true ∧ lng a t ≤ 16 := lngF_ok h 16
theorem lngF_max {a t c : Nat} (h : ok a t c = true) : ∀ n, c ≤ n → c ≤ lngF a t n
  | 0, hn => by omega
  | n + 1, hn => by
    unfold lngF
    split
    · exact hn
    · rename_i hx
      by_cases e : c = n + 1
      · rw [e] at h; exact absurd h hx
      · exact lngF_max h n (by omega)
theorem lng_of {a t c : Nat} (hc : c ≤ 16) (h : ok a t c = true) (h2 : c = 16 ∨ ok a t (c + 1) = false) : lng a t = c := by
  have h1 := lngF_max h 16 hc
  have h3 := lngF_ok (a := a) (t := t) (by have := (ok_iff.1 h).2; have := Nat.one_le_two_pow (n := c); omega) 16
  unfold lng
  rcases h2 with rfl | h2
  · omega
  · by_cases e : lngF a t 16 = c
    · exact e
    · have : ok a t (c + 1) = true := ok_downs (c + 1) (lngF a t 16 - (c + 1)) (by rw [show c + 1 + (lngF a t 16 - (c + 1)) = lngF a t 16 by omega]; exact h3.1)
      rw [this] at h2; cases h2

theorem lngF_here {a t c : Nat} (h : ok a t c = true) : lngF a t c = c := by
  cases c with
  | zero => rfl
  | succ c => unfold lngF; rw [if_pos h]
theorem lngF_step {a t c : Nat} (h : ok a t (c + 1) = false) : lngF a t (c + 1) = lngF a t c := by
  rw [lngF, h]; rfl

/-- The spans that cover the words from a up to, not with, t: n at most. -/
def coverF : Nat → Nat → Nat → List (Int × Int)
  | 0, _, _ => []
  | n + 1, t, a => if a < t then ((a : Int), (lng a t : Int)) :: coverF n t (a + 2 ^ lng a t) else []
/-- All of them. -/
def cover (t a : Nat) : List (Int × Int) := coverF (t - a) t a
theorem coverF_end {t a : Nat} (n : Nat) (h : ¬ a < t) : coverF n t a = [] := by
  cases n with
  | zero => rfl
  | succ n => unfold coverF; rw [if_neg h]
theorem coverF_same : ∀ (n k t a : Nat), t - a ≤ n → t - a ≤ k → coverF n t a = coverF k t a
  | 0, k, t, a, h, _ => by rw [coverF_end k (by omega), coverF_end 0 (by omega)]
  | n + 1, 0, t, a, _, h => by rw [coverF_end 0 (by omega), coverF_end (n + 1) (by omega)]
  | n + 1, k + 1, t, a, h1, h2 => by
    by_cases h : a < t
    · have := Nat.one_le_two_pow (n := lng a t)
      rw [coverF, coverF, if_pos h, if_pos h, coverF_same n k t (a + 2 ^ lng a t) (by omega) (by omega)]
    · rw [coverF_end _ h, coverF_end _ h]
theorem cover_lt {t a : Nat} (h : a < t) : cover t a = ((a : Int), (lng a t : Int)) :: cover t (a + 2 ^ lng a t) := by
  have h1 := Nat.one_le_two_pow (n := lng a t)
  obtain ⟨n, hn⟩ : ∃ n, t - a = n + 1 := ⟨t - a - 1, by omega⟩
  unfold cover
  rw [hn, coverF, if_pos h, coverF_same n (t - (a + 2 ^ lng a t)) t _ (by omega) (by omega)]
theorem cover_end {t a : Nat} (h : ¬ a < t) : cover t a = [] := coverF_end _ h
theorem cover_len : ∀ (n t a : Nat), t - a ≤ n → (cover t a).length ≤ n
  | 0, t, a, h => by rw [cover_end (by omega)]; simp
  | n + 1, t, a, h => by
    by_cases k : a < t
    · have := Nat.one_le_two_pow (n := lng a t)
      rw [cover_lt k]
      have := cover_len n t (a + 2 ^ lng a t) (by omega)
      simp; exact this
    · rw [cover_end k]; simp

/-- The next longer one, right or not. -/
theorem longer_right {a t d : Nat} (ht : t ≤ 65536) (h : ok a t d = true) (hc : d ≤ 16) : rgt (a : Int) (d : Int) = true := by
  obtain ⟨h1, h2⟩ := ok_iff.1 h
  exact rgt_mk a d _ hc rfl (by omega) (by exact_mod_cast h1)
theorem longer_ok {a t d m : Nat} (h : rgt (a : Int) (d : Int) = true) (hm : 2 ^ d = m) (h2 : a + m ≤ t) : ok a t d = true ∧ d ≤ 16 := by
  obtain ⟨x, y, z, e1, e2, k1, k2, k3, k4, k5, k6, k7⟩ := rgt_nat h
  obtain rfl : a = x := by omega
  obtain rfl : d = y := by omega
  obtain rfl : m = z := by omega
  refine ⟨ok_iff.2 ⟨?_, by omega⟩, k1⟩
  rw [hm]; exact_mod_cast k7

end Go.Proofs.Ythjbihbaccnmcab.M
