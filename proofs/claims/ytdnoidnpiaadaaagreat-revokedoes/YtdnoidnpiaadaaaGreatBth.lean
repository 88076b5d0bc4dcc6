/-
  BOTH SIDES AT ONCE: the program's parts and the document's, each with blocks of its own; a call on the one leaves the other alone.
-/
import Derived.Test.YtdnoidnpiaadaaaGreatG21
namespace Go.Proofs.YtdnoidnpiaadaaaGreat
set_option maxRecDepth 10000
open Go.RowKit
set_option linter.unusedVariables false

theorem Cs.fr {w0 w w' : World} {O O' : Nat → Prop} {p s t m : Nat} {S : St} {f : T9.Fo} (h : Cs w0 w O p s t m S f) (F : Fr O' w w') (ho : ∀ i, O i → ¬ O' i) (hl : ∀ i, O' i → w0.heap.size ≤ i) : Cs w0 w' O p s t m S f := by
  obtain ⟨OS, OT, h1, h2, h3, h4, h5⟩ := h.ex
  have := h.gr.size
  exact ⟨⟨OS, OT, h1.fr F (fun i hi => ho i (h4 i hi).1), h2.fr F (fun i hi => ho i (h5 i hi).1), h3, h4, h5⟩, (F.block p h.plt (ho p h.op)).trans h.box, h.op, fun i hi => ⟨(h.lo i hi).1, Nat.lt_of_lt_of_le (h.lo i hi).2 F.size⟩,
    ((Fr.grown (O := O') h.gr).trans F).new (fun i hi e => absurd (hl i e) (by omega)), h.gs, h.gt⟩

/-- The program's parts at S, f; the document's at S2, f2; from w on nothing but new blocks was written. -/
structure Bh (w0 w : World) (P R : Nat → Prop) (p s t m q : Nat) (S : St) (f : T9.Fo) (S2 : St) (f2 : T9.Fo) : Prop where
  cs : Cs w0 w P p s t m S f
  rc : Rc w0 w R q S2 f2
  ap : ∀ i, P i → ¬ R i
namespace Bh
variable {w0 w w' : World} {P R : Nat → Prop} {p s t m m' q : Nat} {S S' S2 S3 : St} {f f' f2 f3 : T9.Fo}
theorem kept (h : Bh w0 w P R p s t m q S f S2 f2) (g : w.grownBy w' none) : Bh w0 w' P R p s t m q S f S2 f2 := ⟨h.cs.kept g, h.rc.kept g, h.ap⟩
theorem prog (h : Bh w0 w P R p s t m q S f S2 f2) (A : Cs w0 w' (wide P w w') p s t m' S' f') (F : Fr P w w') : Bh w0 w' (wide P w w') R p s t m' q S' f' S2 f2 :=
  ⟨A, h.rc.fr F (fun i hi e => h.ap i e hi) (fun i hi => (h.cs.lo i hi).1), fun i hi e => by
    rcases hi with k | k
    · exact h.ap i k e
    · have := (h.rc.lo i e).2; omega⟩
theorem doc (h : Bh w0 w P R p s t m q S f S2 f2) (A : Rc w0 w' (wide R w w') q S3 f3) (F : Fr R w w') : Bh w0 w' P (wide R w w') p s t m q S f S3 f3 :=
  ⟨h.cs.fr F (fun i hi => h.ap i hi) (fun i hi => (h.rc.lo i hi).1), A, fun i hi e => by
    rcases e with k | k
    · exact h.ap i hi k
    · have := (h.cs.lo i hi).2; omega⟩
theorem keep {x : Nat} (h : Bh w0 w P R p s t m q S f S2 f2) (g : w.grownBy w' (some x)) (hP : ¬ P x) (hR : ¬ R x) (hl : w0.heap.size ≤ x) : Bh w0 w' P R p s t m q S f S2 f2 := ⟨h.cs.keep g hP hl, h.rc.keep g hR hl, h.ap⟩
theorem out (h : Bh w0 w P R p s t m q S f S2 f2) {x : Nat} (hx : w.heap.size ≤ x) : ¬ P x ∧ ¬ R x := ⟨fun e => by have := (h.cs.lo x e).2; omega, fun e => by have := (h.rc.lo x e).2; omega⟩
theorem gr (h : Bh w0 w P R p s t m q S f S2 f2) : w0.grownBy w none := h.cs.gr
end Bh

/-- A block that neither side has: kept by either side's calls. -/
structure Nb (w : World) (P R : Nat → Prop) (x : Nat) : Prop where
  np : ¬ P x
  nr : ¬ R x
  lt : x < w.heap.size
namespace Nb
variable {w w' : World} {P R : Nat → Prop} {x : Nat}
theorem kept (h : Nb w P R x) (g : w.grownBy w' none) : Nb w' P R x := ⟨h.np, h.nr, Nat.lt_of_lt_of_le h.lt g.size⟩
theorem prog (h : Nb w P R x) (F : Fr P w w') : Nb w' (wide P w w') R x := ⟨wideNo h.np h.lt, h.nr, Nat.lt_of_lt_of_le h.lt F.size⟩
theorem doc (h : Nb w P R x) (F : Fr R w w') : Nb w' P (wide R w w') x := ⟨h.np, wideNo h.nr h.lt, Nat.lt_of_lt_of_le h.lt F.size⟩
end Nb

theorem M.moveF_len (g : T9.Fo) (x y : Int × Int) : (g.moveF x y).len = g.len := by
  unfold T9.Fo.moveF
  split
  · split
    · rfl
    · exact T9.Fo.len_mv x y g
  · rfl
end Go.Proofs.YtdnoidnpiaadaaaGreat
