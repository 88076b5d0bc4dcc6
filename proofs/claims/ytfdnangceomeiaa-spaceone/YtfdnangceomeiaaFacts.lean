/-
  PLAIN FACTS for the laws: addresses of one page; the arguments as natural numbers.
-/
import Derived.Test.YtfdnangceomeiaaMde
namespace Go.Proofs.Ytfdnangceomeiaa
set_option maxRecDepth 10000
open Go.RowKit
set_option linter.unusedVariables false

theorem M.pe_page {n : Nat} {F : Nat → Nat} {dir : Int} (k i : Nat) (hk : k < 256) (hi : i < 16) : M.pe n F dir ((16 * k + i : Nat) : Int) = M.pe n F dir ((16 * k : Nat) : Int) := by
  have e1 : M.isA ((16 * k + i : Nat) : Int) = true := by simp [M.isA]; omega
  have e2 : M.isA ((16 * k : Nat) : Int) = true := by simp [M.isA]; omega
  have e3 : ((16 * k + i : Nat) : Int) / 256 = ((16 * k : Nat) : Int) / 256 := by omega
  have e4 : ((16 * k + i : Nat) : Int) / 16 % 16 = ((16 * k : Nat) : Int) / 16 % 16 := by omega
  unfold M.pe
  rw [e1, e2, e3, e4]

theorem M.to_page {n : Nat} {F : Nat → Nat} {dir : Int} {wr : Bool} {k : Nat} {x f : Int} (hk : k < 256) (h : M.to n F dir ((16 * k : Nat) : Int) wr = (x, f)) :
    (f ≠ 0 ∧ ∀ i, i < 16 → M.to n F dir ((16 * k + i : Nat) : Int) wr = (0, f)) ∨
    (f = 0 ∧ ∃ Q : Nat, x = ((16 * Q : Nat) : Int) ∧ 16 * Q + 16 ≤ n ∧ ∀ i, i < 16 → M.to n F dir ((16 * k + i : Nat) : Int) wr = (((16 * Q + i : Nat) : Int), 0)) := by
  by_cases c : f = 0
  · subst c
    obtain ⟨c, A, Q, hp, hw, hA, hQ, hQ', hx⟩ := M.to_ok h
    refine .inr ⟨rfl, Q, by omega, hQ', fun i hi => ?_⟩
    have h2 := M.pe_page (n := n) (F := F) (dir := dir) k i hk hi
    unfold M.to
    rw [h2, hp]
    simp only [if_true]
    rw [if_neg (by simp [hw])]
    simp only [Prod.mk.injEq, and_true]
    omega
  · refine .inl ⟨c, fun i hi => ?_⟩
    have h2 := M.pe_page (n := n) (F := F) (dir := dir) k i hk hi
    unfold M.to at h ⊢
    rw [h2]
    by_cases c1 : (M.pe n F dir ((16 * k : Nat) : Int)).2 = 0
    · rw [if_pos c1] at h ⊢
      by_cases c2 : (wr && !(M.pe n F dir ((16 * k : Nat) : Int)).1.w) = true
      · rw [if_pos c2] at h ⊢
        simp only [Prod.mk.injEq] at h ⊢
        exact ⟨trivial, h.2⟩
      · rw [if_neg c2] at h
        simp only [Prod.mk.injEq] at h
        exact absurd h.2.symm c
    · rw [if_neg c1] at h ⊢
      simp only [Prod.mk.injEq] at h ⊢
      exact ⟨trivial, h.2⟩

/-- A size that is brought into bounds. -/
theorem sizeArg (a : Int) : ∃ U n : Nat, IntKind.u64.wrap a = (U : Int) ∧ 64 + (U : Int) % 256 = (n : Int) ∧ 64 ≤ n ∧ n ≤ 320 := by
  refine ⟨(IntKind.u64.wrap a).toNat, 64 + (IntKind.u64.wrap a).toNat % 256, ?_, ?_, by omega, by omega⟩
  · rw [IntKind.wrap_u64]; omega
  · omega
theorem modArg (a : Int) (m : Nat) (hm : 0 < m) : ∃ U k : Nat, IntKind.u64.wrap a = (U : Int) ∧ (U : Int) % (m : Int) = (k : Int) ∧ k < m := by
  refine ⟨(IntKind.u64.wrap a).toNat, (IntKind.u64.wrap a).toNat % m, ?_, by simp, Nat.mod_lt _ hm⟩
  rw [IntKind.wrap_u64]; omega

end Go.Proofs.Ytfdnangceomeiaa
