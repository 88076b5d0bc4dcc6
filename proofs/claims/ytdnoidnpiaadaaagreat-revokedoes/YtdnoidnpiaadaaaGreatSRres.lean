/-
  THE CONTRACTS of donjonref08: front, Resolve.
-/
import Derived.Test.YtdnoidnpiaadaaaGreatFnd
import Derived.Test.YtdnoidnpiaadaaaGreatSRdrop
import Derived.Deep.CutRange
namespace Go.Proofs.YtdnoidnpiaadaaaGreat
open Go.RowKit
set_option linter.unusedVariables false
set_option maxRecDepth 10000
variable {u : Value}

namespace M
end M
/-- What the loop of Resolve holds. -/
structure RGo (w wr : World) (A X : Nat) (c : C) : Prop where
  cap : Box wr A c
  slt : SBox wr X 0 0
  fz : ∀ i, wr.frozen? ⟨X, i, none⟩ = false
  gr : w.grownBy wr none
  lo : w.heap.size ≤ A ∧ w.heap.size ≤ X
  ne : A ≠ X
theorem RGo.kept {w wr w1 : World} {A X : Nat} {c : C} (h : RGo w wr A X c) (g : wr.grownBy w1 none) : RGo w w1 A X c :=
  ⟨h.cap.kept g, h.slt.kept g, fun i => (gbFrozen g h.slt.lt (by simp)).trans (h.fz i), gbTrans h.gr g, h.lo, h.ne⟩
theorem RGo.put {w wr : World} {A X : Nat} {c : C} (h : RGo w wr A X c) (d : C) :
    ∃ W, ((((((wr.setCell ⟨A, 0, none⟩ (.int .i64 d.k)).setCell ⟨A, 1, none⟩ (.int .i64 d.o)).setCell ⟨A, 2, none⟩ (.int .i64 d.r)).setCell ⟨A, 3, none⟩ (.int .u64 d.b)).setCell ⟨A, 4, none⟩ (.int .u64 d.g)).setCell ⟨A, 5, none⟩ (.int .i64 d.n)) = W ∧
      RGo w W A X d := by
  obtain ⟨W, hW, Z, gW⟩ := h.cap.put d
  exact ⟨W, hW, ⟨Z, h.slt.keep gW h.ne.symm, fun i => (gbFrozen gW h.slt.lt (by simpa using h.ne.symm)).trans (h.fz i), gbNew (gbTrans (gbAny h.gr _) gW) h.lo.1, h.lo, h.ne⟩⟩
theorem RGo.fin {w wr : World} {A X : Nat} {c : C} (h : RGo w wr A X c) (n i : Int) :
    ∃ W, (wr.setCell ⟨X, 0, none⟩ (.int .i64 n)).setCell ⟨X, 1, none⟩ (.int .i64 i) = W ∧ SBox W X n i ∧ w.grownBy W none := by
  obtain ⟨W, hW, Y, gW⟩ := h.slt.put n i
  exact ⟨W, hW, Y, gbNew (gbTrans (gbAny h.gr _) gW) h.lo.2⟩
theorem RGo.start {w W : World} {c : C} (g0 : w.grownBy W none) (Y : SBox W (w.heap.size + 1) 0 0) (fz : ∀ i, W.frozen? ⟨w.heap.size + 1, i, none⟩ = false) :
    ∃ V, W.alloc (.cells #[.int .i64 c.k, .int .i64 c.o, .int .i64 c.r, .int .u64 c.b, .int .u64 c.g, .int .i64 c.n] 25) = V ∧ RGo w V W.heap.size (w.heap.size + 1) c := by
  obtain ⟨V, hV, Z, gV⟩ := boxNew W c
  have h1 := g0.size
  have h4 := Y.lt
  exact ⟨V, hV, Z, Y.kept gV, fun i => (gbFrozen gV h4 (by simp)).trans (fz i), gbTrans g0 gV, by omega, by omega⟩

namespace M
end M

end Go.Proofs.YtdnoidnpiaadaaaGreat
