/-
  THE PLAN, PLAIN: a domain for each tick of a schedule.
-/
import Derived.Test.YtpacgdplbddclaaWrk
namespace Go.Proofs.Ytpacgdplbddclaa
set_option maxRecDepth 10000
set_option linter.unusedVariables false
open Go.RowKit
namespace M
/-- A domain for each tick of the first n entries. -/
def pln (T : List (Int × Int)) : Nat → List Int
  | 0 => []
  | n + 1 => pln T n ++ List.replicate (tt T n).toNat (dm T n)
section
variable {T : List (Int × Int)}
theorem Ok.pln_len (h : Ok T) : ∀ n, n ≤ T.length → ((pln T n).length : Int) = pre T n := by
  intro n
  induction n with
  | zero => intro _; rfl
  | succ n ih =>
    intro hn
    have h1 := ih (by omega)
    have h2 := h.dmB (n := n) (by omega)
    rw [pln, List.length_append, List.length_replicate, pre_succ (by omega)]
    push_cast
    omega
theorem Ok.pln_at (h : Ok T) {l N : Int} {n : Nat} (p : Ps T n l N) : ∀ k, n + 1 + k ≤ T.length → (pln T (n + 1 + k))[N.toNat]? = some (dm T n) := by
  have hb := p.bd h
  intro k
  induction k with
  | zero =>
    intro hk
    have h1 := h.pln_len n (by omega)
    have h2 := h.dmB p.lt
    have h3 := p.eq
    have h4 := p.l1
    rw [Nat.add_zero, pln, List.getElem?_append_right (by omega), List.getElem?_replicate, if_pos (by omega)]
  | succ k ih =>
    intro hk
    have h1 := h.pln_len (n + 1 + k) (by omega)
    have h2 := h.pre_mono k (n + 1) (by omega)
    rw [← Nat.add_assoc, pln, List.getElem?_append_left (by omega)]
    exact ih (by omega)
theorem Ok.plan (h : Ok T) {l N : Int} {n : Nat} (p : Ps T n l N) : (pln T T.length)[N.toNat]? = some (dm T n) := by
  have e : n + 1 + (T.length - (n + 1)) = T.length := by have := p.lt; omega
  have := h.pln_at p (T.length - (n + 1)) (by omega)
  rwa [e] at this
end
theorem pln_more (T : List (Int × Int)) (n k : Nat) : pln T n ++ List.replicate k (dm T n) ++ [dm T n] = pln T n ++ List.replicate (k + 1) (dm T n) := by
  rw [List.append_assoc, ← List.replicate_succ']
theorem mod_next (i K : Int) (hK : 0 < K) : ((i % K) + 1) % K = (i + 1) % K := by
  rw [Int.add_emod, Int.emod_emod_of_dvd _ (Int.dvd_refl K), ← Int.add_emod]
end M
theorem lbAt {w : World} {O : Nat → Prop} {x : Option Addr} {n c : Nat} {D : List Int} (h : LB eI 3 1 (.slice x n c) D w O) (m : Nat) (a : Int) (hm : D[m]? = some a) : ∃ g, x = some ⟨g, 0, none⟩ ∧ w.cell? ⟨g, m, none⟩ = some (.int .i64 a) := by
  rcases h.1.form with ⟨e, rfl⟩ | ⟨g, c', e, _⟩
  · simp at hm
  · cases e
    exact ⟨g, rfl, IL.at h.1 rfl m a hm⟩
/-- The schedule and the plan. -/
abbrev SL (w0 w : World) (P R : Nat → Prop) (p : Nat) (T : List (Int × Int)) (n : Nat) (l : Int) (F : Nat → List (Int × Int)) (v : Value) (D : List Int) : Prop := Tw (fun w O => SA w O p T n l F) (LB eI 3 1 v D) w0 w P R
section
variable {w0 w w' : World} {P R : Nat → Prop} {p : Nat} {T : List (Int × Int)} {n n' : Nat} {l l' : Int} {F F' : Nat → List (Int × Int)} {v : Value} {D : List Int}
theorem SL.pr (h : SL w0 w P R p T n l F v D) (Z : SA w' (wide P w w') p T n' l' F') (f : Fr P w w') : SL w0 w' (wide P w w') R p T n' l' F' v D := Tw.prog (A' := fun w O => SA w O p T n' l' F') (kLB eI 3 1 v D) h Z f
theorem SL.kp (h : SL w0 w P R p T n l F v D) (g : w.grownBy w' none) : SL w0 w' P R p T n l F v D := Tw.kept (kSA p T n l F) (kLB eI 3 1 v D) h g
end
end Go.Proofs.Ytpacgdplbddclaa
