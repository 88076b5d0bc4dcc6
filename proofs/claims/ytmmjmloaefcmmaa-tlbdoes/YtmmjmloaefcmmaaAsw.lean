/-
  AS WITHOUT, in plain numbers: where all that is kept agrees, To is what a walk tells, and what is kept then agrees too.
-/
import Derived.Test.YtmmjmloaefcmmaaWkt
namespace Go.Proofs.Ytmmjmloaefcmmaa
set_option maxRecDepth 10000
open Go.RowKit
set_option linter.unusedVariables false

/-- All that is kept is what a walk tells, from each space's own directory. -/
def Agr (n : Nat) (F : Nat → Nat) (L : List K) (d : Int → Int) : Prop := ∀ k ∈ L, M.pe n F (d k.s) (k.p * 16) = (k.e, 0)
theorem Agr.ka {n : Nat} {F : Nat → Nat} {L : List K} {d : Int → Int} (h : Agr n F L d) (s dir : Int) (hd : d s = dir) : M.ka n F L s dir = true := by
  unfold M.ka
  rw [List.all_eq_true]
  intro k hk
  unfold M.kag
  cases c : (k.s == s) with
  | false => rfl
  | true =>
    have e : k.s = s := by simpa using c
    have := h k hk
    rw [e, hd] at this
    rw [this]
    simp [M.eq_refl]
theorem M.pe_first {n : Nat} {F : Nat → Nat} {dir a : Int} (h : M.isA a = true) : M.pe n F dir (a / 16 * 16) = M.pe n F dir a := by
  obtain ⟨A, rfl, hA⟩ := M.isA_nat h
  have := M.pe_page (n := n) (F := F) (dir := dir) (A / 16) (A % 16) (by omega) (by omega)
  have e1 : ((16 * (A / 16) + A % 16 : Nat) : Int) = (A : Int) := by omega
  have e2 : ((16 * (A / 16) : Nat) : Int) = (A : Int) / 16 * 16 := by omega
  rw [e1, e2] at this
  exact this.symm

theorem M.kt_as {n : Nat} {F : Nat → Nat} {L : List K} {d : Int → Int} {s dir a : Int} {wr : Bool} (g : Good L) (h : Agr n F L d) (hs : M.nr s = true) (hd : d s = dir) :
    ∃ L', M.kt n F L s dir a wr = ((M.to n F dir a wr).1, (M.to n F dir a wr).2, L') ∧ Agr n F L' d ∧ ∀ k ∈ L', k ∈ L ∨ (k.s = s ∧ k.p = a / 16 ∧ M.isA a = true) := by
  unfold M.kt M.to
  cases hA : M.isA a with
  | false =>
    have e : M.pe n F dir a = (E.zero, 1) := by unfold M.pe; rw [if_pos hA]
    rw [if_pos (by simp), e]
    exact ⟨L, rfl, h, fun k hk => .inl hk⟩
  | true =>
    rw [if_neg (by simp [hs])]
    have ep := M.pe_first (n := n) (F := F) (dir := dir) hA
    obtain ⟨⟨e, o⟩, hg⟩ : ∃ q, M.kg L s (a / 16) = q := ⟨_, rfl⟩
    cases o with
    | true =>
      obtain ⟨k, k1, k2, k3, k4⟩ := M.kg_mem hg
      have hp := h k k1
      rw [k2, hd, k3, ep, k4] at hp
      have e1 : M.kte n F L s dir a = (e, 0, L) := by unfold M.kte; rw [hg]; rfl
      rw [e1, hp]
      simp only [if_true]
      refine ⟨L, ?_, h, fun k hk => .inl hk⟩
      split <;> rfl
    | false =>
      obtain ⟨⟨c, f⟩, hp⟩ : ∃ q, M.pe n F dir a = q := ⟨_, rfl⟩
      by_cases hf : f = 0
      · subst hf
        have e1 : M.kte n F L s dir a = (c, 0, M.kput L s (a / 16) c) := by unfold M.kte; rw [hg, hp]; rfl
        rw [e1, hp]
        simp only [if_true]
        have hm : ∀ k ∈ M.kput L s (a / 16) c, k ∈ L ∨ k = ⟨s, a / 16, c⟩ := by
          intro k hk
          unfold M.kput at hk
          rcases List.mem_append.1 hk with hk | hk
          · have := (M.kl_sub _).subset hk
            unfold M.kd at this
            exact .inl (List.mem_filter.1 this).1
          · exact .inr (by simpa using hk)
        refine ⟨M.kput L s (a / 16) c, ?_, fun k hk => ?_, fun k hk => ?_⟩
        · split <;> rfl
        · rcases hm k hk with hk | rfl
          · exact h k hk
          · simp only
            rw [hd, ep, hp]
        · rcases hm k hk with hk | rfl
          · exact .inl hk
          · exact .inr ⟨rfl, rfl, trivial⟩
      · have e1 : M.kte n F L s dir a = (E.zero, f, L) := by unfold M.kte; rw [hg, hp]; simp [hf]
        rw [e1, hp]
        simp only [if_neg hf]
        exact ⟨L, rfl, h, fun k hk => .inl hk⟩
end Go.Proofs.Ytmmjmloaefcmmaa
