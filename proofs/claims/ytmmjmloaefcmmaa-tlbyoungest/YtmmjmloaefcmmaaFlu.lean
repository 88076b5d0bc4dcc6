/-
  WHAT IS KEPT BEHIND FILLS AND A FLUSH, in plain numbers: which pages, and how many up to a page.
-/
import Derived.Test.YtmmjmloaefcmmaaWkt
namespace Go.Proofs.Ytmmjmloaefcmmaa
set_option maxRecDepth 10000
open Go.RowKit
set_option linter.unusedVariables false

theorem M.pl_app (L D : List K) : M.pl (L ++ D) = M.pl L ++ M.pl D := by unfold M.pl; simp
theorem M.mem_kd {L : List K} {s p a b : Int} : (a, b) ∈ M.pl (M.kd L s p) ↔ (a, b) ∈ M.pl L ∧ ¬ (a = s ∧ b = p) := by
  unfold M.pl M.kd
  simp only [List.mem_map, List.mem_filter, Bool.not_eq_true', Prod.mk.injEq]
  constructor
  · rintro ⟨k, ⟨h1, h2⟩, rfl, rfl⟩
    refine ⟨⟨k, h1, rfl, rfl⟩, fun e => ?_⟩
    rw [M.here_iff.2 e] at h2
    cases h2
  · rintro ⟨⟨k, h1, rfl, rfl⟩, h2⟩
    refine ⟨k, ⟨h1, ?_⟩, rfl, rfl⟩
    cases h : M.here s p k with
    | false => rfl
    | true => exact absurd (M.here_iff.1 h) h2
theorem M.mem_kx {L : List K} {s a b : Int} : (a, b) ∈ M.pl (M.kx L s) ↔ (a, b) ∈ M.pl L ∧ ¬ a = s := by
  unfold M.pl M.kx
  simp only [List.mem_map, List.mem_filter, Bool.not_eq_true', Prod.mk.injEq, beq_eq_false_iff_ne]
  constructor
  · rintro ⟨k, ⟨h1, h2⟩, rfl, rfl⟩
    exact ⟨⟨k, h1, rfl, rfl⟩, h2⟩
  · rintro ⟨⟨k, h1, rfl, rfl⟩, h2⟩
    exact ⟨k, ⟨h1, h2⟩, rfl, rfl⟩

/-- Behind j fills of fewer than eight pages: which are kept. -/
structure Fls (S P : Nat → Nat) (j : Nat) (L : List K) : Prop where
  len : L.length ≤ j
  num : ∀ k ∈ L, ∃ s p : Nat, k.s = (s : Int) ∧ k.p = (p : Int) ∧ s < 4 ∧ p < 256
  mem : ∀ s p : Nat, ((s : Int), (p : Int)) ∈ M.pl L ↔ ∃ i, i < j ∧ S i = s ∧ P i = p
theorem Fls.nil (S P : Nat → Nat) : Fls S P 0 [] := ⟨by simp, by simp, fun s p => by simp [M.pl]⟩
theorem Fls.next {S P : Nat → Nat} {j : Nat} {L : List K} (h : Fls S P j L) (hj : j < 8) (e : E) (hS : S j < 4) (hP : P j < 256) : Fls S P (j + 1) (M.kput L (S j : Int) (P j : Int) e) := by
  have hl : (M.kd L (S j : Int) (P j : Int)).length ≤ j := Nat.le_trans (List.length_filter_le _ _) h.len
  have e1 : M.kput L (S j : Int) (P j : Int) e = M.kd L (S j : Int) (P j : Int) ++ [⟨(S j : Int), (P j : Int), e⟩] := by
    unfold M.kput M.kl
    rw [if_neg (by omega)]
  rw [e1]
  refine ⟨by rw [List.length_append]; simp; omega, fun k hk => ?_, fun s p => ?_⟩
  · rcases List.mem_append.1 hk with hk | hk
    · exact h.num k (List.mem_filter.1 hk).1
    · simp only [List.mem_singleton] at hk
      subst hk
      exact ⟨S j, P j, rfl, rfl, hS, hP⟩
  · rw [M.pl_app, List.mem_append, M.mem_kd, h.mem]
    have e2 : M.pl [⟨(S j : Int), (P j : Int), e⟩] = [((S j : Int), (P j : Int))] := rfl
    rw [e2, List.mem_singleton, Prod.mk.injEq]
    constructor
    · rintro (⟨⟨i, h1, h2, h3⟩, _⟩ | ⟨h1, h2⟩)
      · exact ⟨i, by omega, h2, h3⟩
      · exact ⟨j, by omega, by omega, by omega⟩
    · rintro ⟨i, h1, h2, h3⟩
      by_cases c : s = S j ∧ p = P j
      · exact .inr ⟨by rw [c.1], by rw [c.2]⟩
      · refine .inl ⟨⟨i, ?_, h2, h3⟩, fun e => c ⟨by omega, by omega⟩⟩
        by_cases ci : i = j
        · subst ci; exact absurd ⟨h2.symm, h3.symm⟩ c
        · omega

/-- Whether a page is among the first c. -/
def inB (S P : Nat → Nat) (s p : Nat) : Nat → Bool
  | 0 => false
  | c + 1 => inB S P s p c || ((S c : Int) == (s : Int) && (P c : Int) == (p : Int))
theorem inB_iff (S P : Nat → Nat) (s p c : Nat) : inB S P s p c = true ↔ ∃ i, i < c ∧ S i = s ∧ P i = p := by
  induction c with
  | zero => simp [inB]
  | succ c ih =>
    unfold inB
    rw [Bool.or_eq_true, ih, Bool.and_eq_true]
    simp only [beq_iff_eq]
    constructor
    · rintro (⟨i, h1, h2⟩ | ⟨h1, h2⟩)
      · exact ⟨i, by omega, h2⟩
      · exact ⟨c, by omega, by omega, by omega⟩
    · rintro ⟨i, h1, h2, h3⟩
      by_cases ci : i = c
      · subst ci; exact .inr ⟨by rw [h2], by rw [h3]⟩
      · exact .inl ⟨i, by omega, h2, h3⟩
theorem Fls.get {S P : Nat → Nat} {n : Nat} {L : List K} (h : Fls S P n L) (sp s p : Nat) : (M.kg (M.kx L (sp : Int)) (s : Int) (p : Int)).2 = (inB S P s p n && ((s : Int) != (sp : Int))) := by
  rw [M.kg_in]
  have e1 := M.mem_kx (L := L) (s := (sp : Int)) (a := (s : Int)) (b := (p : Int))
  rw [h.mem, ← inB_iff] at e1
  cases hb : inB S P s p n with
  | false =>
    rw [hb] at e1
    simpa using e1
  | true =>
    rw [hb] at e1
    rw [Bool.eq_iff_iff, decide_eq_true_eq, e1]
    by_cases c : (s : Int) = (sp : Int) <;> simp [c]

/-! ### How many -/
/-- How many of the pages up to there. -/
def cnt (L : List K) (m : Nat) : Nat := (L.filter fun k => decide (k.s * 256 + k.p < (m : Int))).length
theorem cnt_zero {L : List K} (h : ∀ k ∈ L, 0 ≤ k.s ∧ 0 ≤ k.p) : cnt L 0 = 0 := by
  unfold cnt
  rw [List.filter_eq_nil_iff.2]
  · rfl
  · intro k hk
    have := h k hk
    simp
    omega
theorem cnt_all {L : List K} {m : Nat} (h : ∀ k ∈ L, k.s * 256 + k.p < (m : Int)) : cnt L m = L.length := by
  unfold cnt
  rw [List.filter_eq_self.2]
  intro k hk
  simp [h k hk]
theorem cnt_succ {L : List K} {s p : Nat} (hp : p < 256) (hn : (M.pl L).Nodup) (hk : ∀ k ∈ L, ∃ s p : Nat, k.s = (s : Int) ∧ k.p = (p : Int) ∧ s < 4 ∧ p < 256) :
    cnt L (s * 256 + p + 1) = cnt L (s * 256 + p) + if (M.kg L (s : Int) (p : Int)).2 = true then 1 else 0 := by
  rw [M.kg_in]
  induction L with
  | nil => simp [cnt, M.pl]
  | cons x L ih =>
    have hn2 : (x.s, x.p) ∉ M.pl L ∧ (M.pl L).Nodup := by
      unfold M.pl at hn
      simpa [List.nodup_cons, M.pl] using hn
    have ih := ih hn2.2 (fun k h => hk k (by simp [h]))
    obtain ⟨s', p', e1, e2, h1, h2⟩ := hk x (by simp)
    have e3 : M.pl (x :: L) = (x.s, x.p) :: M.pl L := rfl
    rw [e3]
    unfold cnt at ih ⊢
    rw [List.filter_cons, List.filter_cons]
    by_cases c : s' = s ∧ p' = p
    · obtain ⟨rfl, rfl⟩ := c
      rw [if_pos (by rw [e1, e2]; simp; omega), if_neg (by rw [e1, e2]; simp), List.length_cons, ih]
      rw [e1, e2] at hn2 ⊢
      simp [hn2.1]
    · have hne : ¬ ((s : Int), (p : Int)) = (x.s, x.p) := by
        intro e
        simp only [Prod.mk.injEq] at e
        exact c ⟨by omega, by omega⟩
      have em : (((s : Int), (p : Int)) ∈ (x.s, x.p) :: M.pl L) ↔ (((s : Int), (p : Int)) ∈ M.pl L) := by
        rw [List.mem_cons]
        exact ⟨fun h => h.resolve_left hne, .inr⟩
      rw [decide_eq_decide.2 em]
      by_cases d : s' * 256 + p' < s * 256 + p
      · rw [if_pos (by rw [e1, e2]; simp; omega), if_pos (by rw [e1, e2]; simp; omega), List.length_cons, List.length_cons, ih]
        omega
      · rw [if_neg (by rw [e1, e2]; simp; omega), if_neg (by rw [e1, e2]; simp; omega)]
        exact ih
theorem kx_len (L : List K) (s : Int) : (M.kx L s).length ≤ L.length := List.length_filter_le _ _
theorem kx_num {L : List K} {s : Int} (hk : ∀ k ∈ L, ∃ s p : Nat, k.s = (s : Int) ∧ k.p = (p : Int) ∧ s < 4 ∧ p < 256) : ∀ k ∈ M.kx L s, ∃ s p : Nat, k.s = (s : Int) ∧ k.p = (p : Int) ∧ s < 4 ∧ p < 256 := fun k h => hk k (List.mem_filter.1 h).1
end Go.Proofs.Ytmmjmloaefcmmaa
