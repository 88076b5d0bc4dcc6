/-
  THE CONTRACTS of package guard: bitsOf, level (one node's part of an address).
-/
import Derived.Test.YtdnoidnpiaadaaaGreatG19
import Derived.Deep.LoopGhost
import Derived.Deep.Cut
import Derived.Deep.DeepCutAuto
namespace Go.Proofs.YtdnoidnpiaadaaaGreat
set_option maxRecDepth 10000
open Go.RowKit
set_option linter.unusedVariables false

/-- Whether it is an address. -/
def M.adr (p : Nat) (d : Int) : Bool := decide (1 ≤ d) && decide (d ≤ 16) && decide (p < 2 ^ d.toNat)

namespace M
/-- One level: the slot's number, and how many bits are left then; none: it leads to none. -/
def lvl (S : St) (p : Nat) (c : C) (l : Nat) : Option (Nat × Nat) :=
  if rad S c.o = 0 then none
  else if c.n < 0 ∨ (l : Int) < c.n then none
  else if ((getN p (l - c.n.toNat) c.n.toNat : Nat) : Int) = c.g then
    (if ((l - c.n.toNat : Nat) : Int) < rad S c.o then none
     else some (getN p (l - c.n.toNat - (rad S c.o).toNat) (rad S c.o).toNat, l - c.n.toNat - (rad S c.o).toNat))
  else none
end M

theorem SBox.put {w : World} {x : Nat} {n i : Int} (h : SBox w x n i) (n' i' : Int) :
    ∃ W, (w.setCell ⟨x, 0, none⟩ (.int .i64 n')).setCell ⟨x, 1, none⟩ (.int .i64 i') = W ∧ SBox W x n' i' ∧ w.grownBy W (some x) := by
  obtain ⟨a0, a1, lt⟩ := h
  refine ⟨_, rfl, ⟨?_, ?_, ?_⟩, ?_⟩
  · exact (World.cell?_setCell_other _ _ _ _ (by simp)).trans (World.cell?_setCell_same _ _ _ a0)
  · exact World.cell?_setCell_same _ _ _ ((World.cell?_setCell_other _ _ _ _ (by simp)).trans a1)
  · simpa [World.setCell] using lt
  · exact gbTrans (gbSetCell _ _ _ _) (gbSetCell _ _ _ _)

end Go.Proofs.YtdnoidnpiaadaaaGreat

/-
  THE CONTRACT of package guard: Resolve.
-/
namespace Go.Proofs.YtdnoidnpiaadaaaGreat
set_option maxRecDepth 10000
open Go.RowKit
set_option linter.unusedVariables false

namespace M
/-- Level by level: the node, the slot's number, and how many bits are left. -/
def res (S : St) (p : Nat) : Nat → C → Nat → Option (Int × Nat × Nat)
  | 0, _, _ => none
  | f + 1, c, l => match lvl S p c l with
    | none => none
    | some (a, t) => if t = 0 ∨ (getC S c.o a).k ≠ 2 then some (c.o, a, t) else res S p f (getC S c.o a) t
/-- Resolve: the node, the slot's number, how many bits are left, the error. -/
def rs (S : St) (c : C) (p : Nat) (d : Int) : Int × Int × Int × Int :=
  if adr p d = true then (if c.k = 2 then (match res S p 17 c d.toNat with
    | none => (0, 0, 0, 6)
    | some (n, a, t) => (n, a, t, 0)) else (0, 0, 0, 2)) else (0, 0, 0, 1)
end M

/-- What the loop of Resolve holds. -/
structure Going (w wr : World) (A L P X : Nat) (c : C) (l p : Nat) : Prop where
  cap : Box wr A c
  lft : Left wr L P l p
  slt : SBox wr X 0 0
  fz : ∀ i, wr.frozen? ⟨X, i, none⟩ = false
  gr : w.grownBy wr none
  lo : w.heap.size ≤ A ∧ w.heap.size ≤ L ∧ w.heap.size ≤ P ∧ w.heap.size ≤ X
  ne : A ≠ L ∧ A ≠ P ∧ X ≠ L ∧ X ≠ P ∧ A ≠ X

theorem Going.lvl {w wr w1 : World} {A L P X l p t : Nat} {c : C} (h : Going w wr A L P X c l p) (l1 : Left w1 L P t p) (g : wr.grownBy w1 (some L)) : Going w w1 A L P X c t p :=
  ⟨h.cap.keep g (by simpa using h.ne.1), l1, h.slt.keep g h.ne.2.2.1, fun i => (gbFrozen g h.slt.lt (by simpa using h.ne.2.2.1)).trans (h.fz i), gbNew (gbTrans (gbAny h.gr _) g) h.lo.2.1, h.lo, h.ne⟩
theorem Going.kept {w wr w1 : World} {A L P X l p : Nat} {c : C} (h : Going w wr A L P X c l p) (g : wr.grownBy w1 none) : Going w w1 A L P X c l p :=
  ⟨h.cap.kept g, h.lft.kept g, h.slt.kept g, fun i => (gbFrozen g h.slt.lt (by simp)).trans (h.fz i), gbTrans h.gr g, h.lo, h.ne⟩
theorem Going.put {w wr : World} {A L P X l p : Nat} {c : C} (h : Going w wr A L P X c l p) (d : C) :
    ∃ W, ((((((wr.setCell ⟨A, 0, none⟩ (.int .i64 d.k)).setCell ⟨A, 1, none⟩ (.int .i64 d.o)).setCell ⟨A, 2, none⟩ (.int .i64 d.r)).setCell ⟨A, 3, none⟩ (.int .u64 d.b)).setCell ⟨A, 4, none⟩ (.int .u64 d.g)).setCell ⟨A, 5, none⟩ (.int .i64 d.n)) = W ∧
      Going w W A L P X d l p ∧ wr.grownBy W (some A) := by
  obtain ⟨W, hW, Z, gW⟩ := h.cap.put d
  exact ⟨W, hW, ⟨Z, h.lft.keep gW h.ne.1.symm h.ne.2.1.symm, h.slt.keep gW h.ne.2.2.2.2.symm, fun i => (gbFrozen gW h.slt.lt (by simpa using h.ne.2.2.2.2.symm)).trans (h.fz i), gbNew (gbTrans (gbAny h.gr _) gW) h.lo.1, h.lo, h.ne⟩, gW⟩
theorem Going.fin {w wr : World} {A L P X l p : Nat} {c : C} (h : Going w wr A L P X c l p) (n i : Int) :
    ∃ W, (wr.setCell ⟨X, 0, none⟩ (.int .i64 n)).setCell ⟨X, 1, none⟩ (.int .i64 i) = W ∧ SBox W X n i ∧ w.grownBy W none := by
  obtain ⟨W, hW, Y, gW⟩ := h.slt.put n i
  exact ⟨W, hW, Y, gbNew (gbTrans (gbAny h.gr _) gW) h.lo.2.2.2⟩
end Go.Proofs.YtdnoidnpiaadaaaGreat
