/-
  BOTH STORES SIDE BY SIDE.
-/
import Derived.Test.YtakappaaiknpfaaRadd2
namespace Go.Proofs.Ytakappaaiknpfaa
open Go.RowKit
set_option linter.unusedVariables false

/-- Both stores: what lies in the one, and in the other one. -/
structure Both (w0 w : World) (P R : Nat → Prop) (p q n : Nat) (S T : St) : Prop where
  sp : SAt w p n P S
  rp : RAt w q R T
  dis : ∀ i, P i → ¬ R i
  lp : ∀ i, P i → w0.heap.size ≤ i ∧ i < w.heap.size
  lr : ∀ i, R i → w0.heap.size ≤ i ∧ i < w.heap.size
  bel : Below w0.heap.size w0 w
  gs : Good S
  gt : Good T
theorem Both.size {w0 w : World} {P R : Nat → Prop} {p q n : Nat} {S T : St} (h : Both w0 w P R p q n S T) : w0.heap.size ≤ w.heap.size := h.bel.size
theorem Both.kept {w0 w w' : World} {P R : Nat → Prop} {p q n : Nat} {S T : St} (h : Both w0 w P R p q n S T) (g : w.grownBy w' none) : Both w0 w' P R p q n S T :=
  ⟨h.sp.kept g, h.rp.kept g, h.dis, fun i hi => ⟨(h.lp i hi).1, Nat.lt_of_lt_of_le (h.lp i hi).2 g.size⟩, fun i hi => ⟨(h.lr i hi).1, Nat.lt_of_lt_of_le (h.lr i hi).2 g.size⟩, h.bel.trans (gbBelow (Below.refl _ _) g h.size (by simp)), h.gs, h.gt⟩
theorem Both.prog {w0 w w' : World} {P P2 R : Nat → Prop} {p q n n2 : Nat} {S S2 T : St} (h : Both w0 w P R p q n S T) (F : Fr P w w') (h2 : SAt w' p n2 P2 S2) (g2 : Good S2) (ho : ∀ i, P2 i → P i ∨ (w.heap.size ≤ i ∧ i < w'.heap.size)) : Both w0 w' P2 R p q n2 S2 T := by
  have hz := h.size
  refine ⟨h2, h.rp.fr F (fun i hi e => h.dis i e hi), ?_, ?_, fun i hi => ⟨(h.lr i hi).1, Nat.lt_of_lt_of_le (h.lr i hi).2 F.size⟩, h.bel.trans (F.below _ hz (fun i e => (h.lp i e).1)), g2, h.gt⟩
  · intro i hi hr
    rcases ho i hi with e | e
    · exact h.dis i e hr
    · have := (h.lr i hr).2; omega
  · intro i hi
    rcases ho i hi with e | e
    · exact ⟨(h.lp i e).1, Nat.lt_of_lt_of_le (h.lp i e).2 F.size⟩
    · exact ⟨by omega, e.2⟩
theorem Both.doc {w0 w w' : World} {P R R2 : Nat → Prop} {p q n : Nat} {S T T2 : St} (h : Both w0 w P R p q n S T) (F : Fr R w w') (h2 : RAt w' q R2 T2) (g2 : Good T2) (ho : ∀ i, R2 i → R i ∨ (w.heap.size ≤ i ∧ i < w'.heap.size)) : Both w0 w' P R2 p q n S T2 := by
  have hz := h.size
  refine ⟨h.sp.fr F (fun i hi e => h.dis i hi e), h2, ?_, fun i hi => ⟨(h.lp i hi).1, Nat.lt_of_lt_of_le (h.lp i hi).2 F.size⟩, ?_, h.bel.trans (F.below _ hz (fun i e => (h.lr i e).1)), h.gs, g2⟩
  · intro i hi hr
    rcases ho i hr with e | e
    · exact h.dis i hi e
    · have := (h.lp i hi).2; omega
  · intro i hi
    rcases ho i hi with e | e
    · exact ⟨(h.lr i e).1, Nat.lt_of_lt_of_le (h.lr i e).2 F.size⟩
    · exact ⟨by omega, e.2⟩

/-- The document's store, laid. -/
theorem docNew (w : World) : RA (w.alloc (.cells #[.slice none 0 0] 56)) w.heap.size (.slice none 0 0) [] (fun _ => none) :=
  ⟨Deep.blk_alloc_new _ _, ⟨rfl, .inl ⟨rfl, rfl⟩⟩, List.Pairwise.nil, by simp, fun _ _ => rfl, List.Pairwise.nil⟩
theorem bothNew {w w1 : World} {p : Nat} (g : w.grownBy w1 none) (h : SAt w1 p 0 (fun i => w.heap.size ≤ i ∧ i < w1.heap.size) (fun _ => none)) :
    ∃ W, w1.alloc (.cells #[.slice none 0 0] 56) = W ∧ ∃ P R, Both w W P R p w1.heap.size 0 (fun _ => none) (fun _ => none) := by
  have hz := g.size
  have hs : (w1.alloc (.cells #[.slice none 0 0] 56)).heap.size = w1.heap.size + 1 := by simp
  refine ⟨_, rfl, fun i => w.heap.size ≤ i ∧ i < w1.heap.size, fun i => i = w1.heap.size, h.kept (gbAlloc _ _ _), ⟨_, _, docNew w1, rfl, fun k e => (nomatch e), by simp⟩, fun i hi e => by omega, fun i hi => ⟨hi.1, by rw [hs]; omega⟩, fun i hi => ⟨by omega, by rw [hs]; omega⟩, gbEnd (gbTrans g (gbAlloc _ _ _)), Good.none, Good.none⟩

end Go.Proofs.Ytakappaaiknpfaa
