/-
  SPANS AS NUMBERS: what is right, what lies in what, what is apart. Speaks of no function of the program.
-/
import Derived.Test.YtadllapdhdjpbaaBase
namespace Go.Proofs.Ytadllapdhdjpbaa.M

/-- 2^B, for whatever B. -/
def pw (B : Int) : Int := 2 ^ B.toNat
def rng (A B : Int) : Bool := decide (0 ≤ B ∧ B ≤ 16 ∧ 0 ≤ A ∧ A + pw B ≤ 65536)
def rgt (A B : Int) : Bool := rng A B && decide (A % pw B = 0)
def chk (A B w : Int) : Int := if rng A B then (if rgt A B then (if w < A + pw B then 7 else 0) else 9) else 1
def has (A B a : Int) : Bool := rgt A B && (decide (A ≤ a) && decide (a < A + pw B))
def inn (A B C D : Int) : Bool := rgt A B && (rgt C D && (decide (C ≤ A) && decide (A + pw B ≤ C + pw D)))
def apt (A B C D : Int) : Bool := rgt A B && (rgt C D && (decide (A + pw B ≤ C) || decide (C + pw D ≤ A)))

theorem pw_nat (b : Nat) : pw (b : Int) = ((2 ^ b : Nat) : Int) := by unfold pw; simp
theorem pow_le16 (b : Nat) (h : b ≤ 16) : 1 ≤ 2 ^ b ∧ 2 ^ b ≤ 65536 :=
  ⟨Nat.one_le_two_pow, by have := Nat.pow_le_pow_right (n := 2) (by decide) h; simpa using this⟩

theorem shl_val (b m : Nat) (h : b ≤ 16) (hm : 2 ^ b = m) : Go.RowKit.wrap64 (2 ^ b) = (m : Int) := by
  have := pow_le16 b h
  rw [show ((2 : Int) ^ b) = ((2 ^ b : Nat) : Int) by simp, hm]
  rw [hm] at this
  unfold Go.RowKit.wrap64; omega
theorem rng_iff {A B : Int} : rng A B = true ↔ 0 ≤ B ∧ B ≤ 16 ∧ 0 ≤ A ∧ A + pw B ≤ 65536 := by unfold rng; simp
theorem rgt_iff {A B : Int} : rgt A B = true ↔ rng A B = true ∧ A % pw B = 0 := by unfold rgt; simp

/-- Numbers of a span that is in its bounds. -/
theorem rng_nat {A B : Int} (h : rng A B = true) : ∃ a b m : Nat, A = (a : Int) ∧ B = (b : Int) ∧ b ≤ 16 ∧ 2 ^ b = m ∧ pw B = (m : Int) ∧ 1 ≤ m ∧ m ≤ 65536 ∧ a + m ≤ 65536 := by
  obtain ⟨h1, h2, h3, h4⟩ := rng_iff.1 h
  obtain ⟨a, rfl⟩ : ∃ a : Nat, A = (a : Int) := ⟨A.toNat, by omega⟩
  obtain ⟨b, rfl⟩ : ∃ b : Nat, B = (b : Int) := ⟨B.toNat, by omega⟩
  have := pow_le16 b (by omega)
  rw [pw_nat] at h4
  refine ⟨a, b, 2 ^ b, rfl, rfl, by omega, rfl, pw_nat b, this.1, this.2, by omega⟩

theorem rng_mk (a b m : Nat) (hb : b ≤ 16) (hm : 2 ^ b = m) (h : a + m ≤ 65536) : rng (a : Int) (b : Int) = true := by
  rw [rng_iff, pw_nat, hm]; omega
theorem rng_no_at (A : Int) (b m : Nat) (hm : 2 ^ b = m) (h : ¬ (0 ≤ A ∧ A + (m : Int) ≤ 65536)) : rng A (b : Int) = false := by
  cases e : rng A b
  · rfl
  · rw [rng_iff, pw_nat, hm] at e; omega
theorem rng_no_bits (A B : Int) (h : ¬ (0 ≤ B ∧ B ≤ 16)) : rng A B = false := by
  cases e : rng A B
  · rfl
  · rw [rng_iff] at e; omega
theorem rgt_rng {A B : Int} (h : rgt A B = true) : rng A B = true := (rgt_iff.1 h).1
theorem rgt_no {A B : Int} (h : rng A B = false) : rgt A B = false := by unfold rgt; rw [h]; rfl
/-- Numbers of a right span. -/
theorem rgt_nat {A B : Int} (h : rgt A B = true) : ∃ a b m : Nat, A = (a : Int) ∧ B = (b : Int) ∧ b ≤ 16 ∧ 2 ^ b = m ∧ pw B = (m : Int) ∧ 1 ≤ m ∧ m ≤ 65536 ∧ a + m ≤ 65536 ∧ (a : Int) % (m : Int) = 0 := by
  obtain ⟨h1, h2⟩ := rgt_iff.1 h
  obtain ⟨a, b, m, rfl, rfl, k1, k2, k3, k4, k5, k6⟩ := rng_nat h1
  rw [k3] at h2
  exact ⟨a, b, m, rfl, rfl, k1, k2, k3, k4, k5, k6, h2⟩
theorem rgt_mk (a b m : Nat) (hb : b ≤ 16) (hm : 2 ^ b = m) (h : a + m ≤ 65536) (hr : (a : Int) % (m : Int) = 0) : rgt (a : Int) (b : Int) = true := by
  rw [rgt_iff]; exact ⟨rng_mk a b m hb hm h, by rw [pw_nat, hm]; exact hr⟩
theorem rgt_not (a b m : Nat) (hm : 2 ^ b = m) (hr : ¬ (a : Int) % (m : Int) = 0) : rgt (a : Int) (b : Int) = false := by
  cases e : rgt a b
  · rfl
  · rw [rgt_iff, pw_nat, hm] at e; exact absurd e.2 hr

/-- The four ways of Check. -/
theorem ways (A B : Int) : (¬ (0 ≤ B ∧ B ≤ 16) ∧ rng A B = false) ∨ (∃ b m : Nat, B = (b : Int) ∧ b ≤ 16 ∧ 2 ^ b = m ∧ ¬ (0 ≤ A ∧ A + (m : Int) ≤ 65536) ∧ rng A B = false) ∨
    (∃ a b m : Nat, A = (a : Int) ∧ B = (b : Int) ∧ b ≤ 16 ∧ 2 ^ b = m ∧ a + m ≤ 65536 ∧ pw B = (m : Int) ∧ rng A B = true ∧ ((a : Int) % (m : Int) = 0 ∧ rgt A B = true ∨ (∃ r : Nat, (a : Int) % (m : Int) = (r : Int) ∧ r ≠ 0 ∧ rgt A B = false))) := by
  by_cases h : 0 ≤ B ∧ B ≤ 16
  · right
    obtain ⟨b, rfl⟩ : ∃ b : Nat, B = (b : Int) := ⟨B.toNat, by omega⟩
    by_cases k : 0 ≤ A ∧ A + ((2 ^ b : Nat) : Int) ≤ 65536
    · right
      obtain ⟨a, rfl⟩ : ∃ a : Nat, A = (a : Int) := ⟨A.toNat, by omega⟩
      refine ⟨a, b, 2 ^ b, rfl, rfl, by omega, rfl, by omega, pw_nat b, rng_mk a b _ (by omega) rfl (by omega), ?_⟩
      by_cases r : (a : Int) % ((2 ^ b : Nat) : Int) = 0
      · exact .inl ⟨r, rgt_mk a b _ (by omega) rfl (by omega) r⟩
      · exact .inr ⟨a % 2 ^ b, by simp, fun e => r (by exact_mod_cast e), rgt_not a b _ rfl r⟩
    · left
      exact ⟨b, 2 ^ b, rfl, by omega, rfl, k, rng_no_at A b _ rfl k⟩
  · exact .inl ⟨h, rng_no_bits A B h⟩

/-! ### Lists -/
def ap (L : List (Int × Int)) (i k : Nat) : Bool :=
  match L[i]?, L[k]? with
  | some p, some q => apt p.1 p.2 q.1 q.2
  | _, _ => false
def all (L : List (Int × Int)) : Bool := decide (∀ i, i < L.length → ∀ k, k < i → ap L i k = true)
theorem ap_at {L : List (Int × Int)} {i k : Nat} {p q : Int × Int} (hi : L[i]? = some p) (hk : L[k]? = some q) : ap L i k = apt p.1 p.2 q.1 q.2 := by
  unfold ap; rw [hi, hk]
theorem all_yes {L : List (Int × Int)} (h : ∀ i, i < L.length → ∀ k, k < i → ap L i k = true) : all L = true := by unfold all; simpa using h
theorem all_no {L : List (Int × Int)} (i k : Nat) (hi : i < L.length) (hk : k < i) (h : ap L i k = false) : all L = false := by
  unfold all
  rw [decide_eq_false]
  intro hh
  rw [hh i hi k hk] at h; cases h

end Go.Proofs.Ytadllapdhdjpbaa.M
