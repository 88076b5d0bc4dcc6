/-
  READY, PLAIN: ids with their levels in the order in which they came; a level's ids; the word of the levels that have one, its highest bit. No program, no memory.
-/
import Derived.Test.YtpacgdplbddclaaLin
namespace Go.Proofs.Ytpacgdplbddclaa
set_option linter.unusedVariables false

namespace M
/-- A level's ids. -/
def lv (R : List (Int × Int)) (l : Int) : List Int := (R.filter fun o => o.2 == l).map (·.1)
def ids (R : List (Int × Int)) : List Int := R.map (·.1)
def re (R : List (Int × Int)) (a l : Int) : Int := if 0 ≤ a ∧ a < 64 ∧ 0 ≤ l ∧ l < 8 then (if a ∈ ids R then 4 else 0) else 1
def rl (R : List (Int × Int)) (a l : Int) : List (Int × Int) := if (0 ≤ a ∧ a < 64 ∧ 0 ≤ l ∧ l < 8) ∧ a ∉ ids R then R ++ [(a, l)] else R
def rd (R : List (Int × Int)) (a : Int) : List (Int × Int) := R.filter fun o => o.1 != a

theorem mem_lv {R : List (Int × Int)} {l a : Int} : a ∈ lv R l ↔ (a, l) ∈ R := by
  unfold lv
  simp only [List.mem_map, List.mem_filter, beq_iff_eq]
  constructor
  · rintro ⟨⟨x, y⟩, ⟨h1, rfl⟩, rfl⟩; exact h1
  · intro h; exact ⟨(a, l), ⟨h, rfl⟩, rfl⟩
theorem mem_ids {R : List (Int × Int)} {a : Int} : a ∈ ids R ↔ ∃ l, (a, l) ∈ R := by
  unfold ids
  simp only [List.mem_map]
  constructor
  · rintro ⟨⟨x, y⟩, h1, rfl⟩; exact ⟨y, h1⟩
  · rintro ⟨l, h⟩; exact ⟨(a, l), h, rfl⟩
theorem lv_sub (R : List (Int × Int)) (l : Int) : (lv R l).Sublist (ids R) := List.filter_sublist.map _
theorem lv_nodup {R : List (Int × Int)} (h : (ids R).Nodup) (l : Int) : (lv R l).Nodup := h.sublist (lv_sub R l)
theorem lv_len (R : List (Int × Int)) (l : Int) : (lv R l).length ≤ R.length := by
  have := (lv_sub R l).length_le
  unfold ids at this
  rwa [List.length_map] at this
theorem lv_nil (l : Int) : lv [] l = [] := rfl
theorem lv_app (R : List (Int × Int)) (a l k : Int) : lv (R ++ [(a, l)]) k = if k = l then lv R k ++ [a] else lv R k := by
  unfold lv
  rw [List.filter_append, List.map_append]
  by_cases h : k = l
  · subst h; simp
  · rw [if_neg h]
    have : (l == k) = false := by simp; exact fun e => h e.symm
    simp [this]
theorem lv_rd (R : List (Int × Int)) (a k : Int) : lv (rd R a) k = M.wo (lv R k) a := by
  unfold lv rd M.wo
  induction R with
  | nil => rfl
  | cons o R ih =>
    by_cases h1 : o.1 = a <;> by_cases h2 : o.2 = k <;> simp [h1, h2] at ih ⊢ <;> exact ih
theorem ids_rd (R : List (Int × Int)) (a : Int) : ids (rd R a) = M.wo (ids R) a := by
  unfold ids rd M.wo
  induction R with
  | nil => rfl
  | cons o R ih =>
    by_cases h1 : o.1 = a <;> simp [h1] at ih ⊢ <;> exact ih
theorem rd_not {R : List (Int × Int)} {a : Int} (h : a ∉ ids R) : rd R a = R := by
  unfold rd
  rw [List.filter_eq_self]
  intro o ho
  simp
  rintro rfl
  exact h (mem_ids.2 ⟨o.2, ho⟩)
theorem rd_len (R : List (Int × Int)) (a : Int) : (rd R a).length ≤ R.length := List.length_filter_le _ _
theorem rl_len (R : List (Int × Int)) (a l : Int) : (rl R a l).length ≤ R.length + 1 := by
  unfold rl
  split <;> simp
/-- Nobody twice; each at a level. -/
structure Gd (R : List (Int × Int)) : Prop where
  nd : (ids R).Nodup
  le : ∀ a l, (a, l) ∈ R → 0 ≤ l ∧ l < 8
theorem Gd.nil : Gd [] := ⟨by simp [ids], fun a l h => by simp at h⟩
theorem Gd.put {R : List (Int × Int)} (h : Gd R) (a l : Int) : Gd (rl R a l) := by
  unfold rl
  split
  · rename_i c
    refine ⟨?_, fun x y hx => ?_⟩
    · unfold ids
      rw [List.map_append, List.nodup_append]
      refine ⟨h.nd, by simp, ?_⟩
      intro x hx y hy
      simp at hy
      subst hy
      rintro rfl
      exact c.2 hx
    · rw [List.mem_append] at hx
      rcases hx with hx | hx
      · exact h.le x y hx
      · simp at hx; obtain ⟨rfl, rfl⟩ := hx; exact c.1.2.2
  · exact h
theorem Gd.drop {R : List (Int × Int)} (h : Gd R) (a : Int) : Gd (rd R a) :=
  ⟨by rw [ids_rd]; exact M.wo_nodup h.nd, fun x y hx => h.le x y (List.mem_filter.1 hx).1⟩
/-- Who is there is there at one level. -/
theorem Gd.one {R : List (Int × Int)} (h : Gd R) {a l k : Int} (h1 : (a, l) ∈ R) (h2 : (a, k) ∈ R) : l = k := by
  have := h.nd
  unfold ids at this
  induction R with
  | nil => simp at h1
  | cons o R ih =>
    rw [List.map_cons, List.nodup_cons] at this
    have hn : ∀ y, (a, y) ∈ R → o.1 ≠ a := fun y hy e => this.1 (by rw [e, List.mem_map]; exact ⟨(a, y), hy, rfl⟩)
    rw [List.mem_cons] at h1 h2
    rcases h1 with h1 | h1 <;> rcases h2 with h2 | h2
    · rw [← h1] at h2; simpa using h2.symm
    · exact absurd (by rw [← h1]) (hn k h2)
    · exact absurd (by rw [← h2]) (hn l h1)
    · exact ih ⟨this.2, fun x y hx => h.le x y (List.mem_cons_of_mem _ hx)⟩ h1 h2 this.2
theorem Gd.at {R : List (Int × Int)} (h : Gd R) {a : Int} (ha : a ∈ ids R) : ∃ l : Nat, l < 8 ∧ a ∈ lv R l ∧ ∀ k : Nat, k ≠ l → a ∉ lv R k := by
  obtain ⟨l, hl⟩ := mem_ids.1 ha
  have := h.le a l hl
  obtain ⟨n, rfl⟩ : ∃ n : Nat, l = n := ⟨l.toNat, by omega⟩
  refine ⟨n, by omega, mem_lv.2 hl, fun k hk hm => ?_⟩
  have := h.one hl (mem_lv.1 hm)
  omega
theorem not_ids {R : List (Int × Int)} {a : Int} (h : Gd R) (hn : ∀ l : Nat, l < 8 → a ∉ lv R l) : a ∉ ids R := fun ha => by
  obtain ⟨l, h1, h2, _⟩ := h.at ha
  exact hn l h1 h2
theorem not_lv {R : List (Int × Int)} {a : Int} (h : a ∉ ids R) (l : Int) : a ∉ lv R l := fun e => h (mem_ids.2 ⟨l, mem_lv.1 e⟩)

/-! ### The word of the levels -/
/-- The word whose bits below n are told by b. -/
def wd (b : Nat → Bool) : Nat → Nat
  | 0 => 0
  | n + 1 => wd b n + if b n then 2 ^ n else 0
theorem wd_lt (b : Nat → Bool) (n : Nat) : wd b n < 2 ^ n := by
  induction n with
  | zero => simp [wd]
  | succ n ih => rw [wd, Nat.pow_succ]; split <;> omega
theorem wd_no {b : Nat → Bool} {n : Nat} (h : b n = false) : wd b (n + 1) = wd b n := by rw [wd, h]; simp
theorem wd_yes {b : Nat → Bool} {n : Nat} (h : b n = true) : wd b (n + 1) = wd b n + 2 ^ n := by rw [wd, h]; simp
theorem wd_bit (b : Nat → Bool) (n i : Nat) : (wd b n).testBit i = (decide (i < n) && b i) := by
  induction n with
  | zero => simp [wd]
  | succ n ih =>
    have hl := wd_lt b n
    by_cases hb : b n = true
    · rw [wd_yes hb, Nat.add_comm]
      by_cases h : i = n
      · subst h
        rw [Nat.testBit_two_pow_add_eq, Nat.testBit_lt_two_pow hl, hb]
        simp
      · by_cases h2 : i < n
        · rw [Nat.testBit_two_pow_add_gt h2, ih]
          have h3 : i < n + 1 := by omega
          simp [h2, h3]
        · have h3 : 2 ^ (n + 1) ≤ 2 ^ i := Nat.pow_le_pow_right (by decide) (by omega)
          rw [Nat.testBit_lt_two_pow (by rw [Nat.pow_succ] at h3; omega)]
          have h4 : ¬ i < n + 1 := by omega
          simp [h4]
    · rw [wd_no (by simpa using hb), ih]
      by_cases h : i = n
      · subst h
        have : b i = false := by simpa using hb
        simp [this]
      · by_cases h2 : i < n
        · have h3 : i < n + 1 := by omega
          simp [h2, h3]
        · have h4 : ¬ i < n + 1 := by omega
          simp [h2, h4]
theorem wd_put {b : Nat → Bool} {n : Nat} (h : b n = true) (hn : n < 8) : putN (wd b n) n 1 1 = wd b (n + 1) := by
  have hl := wd_lt b n
  have hp : 2 ^ n ≤ 2 ^ 8 := Nat.pow_le_pow_right (by decide) (by omega)
  apply Nat.eq_of_testBit_eq
  intro i
  rw [testBit_putN _ n 1 1 i (by omega) (by omega) (by decide), wd_bit, wd_bit]
  by_cases c : i = n
  · subst c
    rw [if_pos (by omega)]
    simp [h]
  · rw [if_neg (by omega)]
    by_cases c2 : i < n
    · have : i < n + 1 := by omega
      simp [c2, this]
    · have : ¬ i < n + 1 := by omega
      simp [c2, this]
/-- The highest one below n; -1: none. -/
def hi (b : Nat → Bool) : Nat → Int
  | 0 => -1
  | n + 1 => if b n then (n : Int) else hi b n
theorem hi_bd (b : Nat → Bool) (n : Nat) : -1 ≤ hi b n ∧ hi b n < n := by
  induction n with
  | zero => simp [hi]
  | succ n ih => rw [hi]; split <;> omega
theorem hi_at {b : Nat → Bool} {n h : Nat} (e : hi b n = (h : Int)) : h < n ∧ b h = true ∧ ∀ i, h < i → i < n → b i = false := by
  induction n with
  | zero => simp [hi] at e
  | succ n ih =>
    rw [hi] at e
    split at e
    · rename_i c
      obtain rfl : n = h := by omega
      exact ⟨by omega, c, fun i h1 h2 => by omega⟩
    · rename_i c
      obtain ⟨h1, h2, h3⟩ := ih e
      refine ⟨by omega, h2, fun i h4 h5 => ?_⟩
      by_cases d : i = n
      · subst d; simpa using c
      · exact h3 i h4 (by omega)
theorem hi_none {b : Nat → Bool} {n : Nat} (e : hi b n < 0) : ∀ i, i < n → b i = false := by
  induction n with
  | zero => intro i hi; omega
  | succ n ih =>
    rw [hi] at e
    split at e
    · omega
    · rename_i c
      intro i h
      by_cases d : i = n
      · subst d; simpa using c
      · exact ih e i (by omega)
theorem high_wd (b : Nat → Bool) : highN (wd b 8) 64 = hi b 8 := by
  have h1 : ∀ k, k ≤ 8 → highN (wd b 8) k = hi b k := by
    intro k hk
    induction k with
    | zero => rfl
    | succ k ih =>
      have h8 : k < 8 := by omega
      rw [highN, hi, ih (by omega), wd_bit]
      simp [h8]
  have h2 : ∀ k, highN (wd b 8) (8 + k) = hi b 8 := by
    intro k
    induction k with
    | zero => exact h1 8 (Nat.le_refl _)
    | succ k ih =>
      rw [← Nat.add_assoc, highN, ih, wd_bit]
      have : ¬ 8 + k < 8 := by omega
      simp [this]
  exact h2 56
/-- Which levels have one. -/
def bb (R : List (Int × Int)) (i : Nat) : Bool := !(lv R i).isEmpty
def lw (R : List (Int × Int)) : Nat := wd (bb R) 8
theorem lw_lt (R : List (Int × Int)) : lw R < 256 := wd_lt (bb R) 8
/-- Who is next. -/
def nx (R : List (Int × Int)) : Int := if hi (bb R) 8 < 0 then 0 else (lv R (hi (bb R) 8)).headD 0
def nb (R : List (Int × Int)) : Bool := if hi (bb R) 8 < 0 then false else true
end M
end Go.Proofs.Ytpacgdplbddclaa
