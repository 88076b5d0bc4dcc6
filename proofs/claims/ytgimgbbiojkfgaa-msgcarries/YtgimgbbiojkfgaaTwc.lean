/-
  FOR MsgTwice: registers stored one by one into a new row; what lies in grown worlds.
-/
import Derived.Test.YtgimgbbiojkfgaaArgs
import Derived.Deep.CutRange
import Derived.Deep.DeepCutAuto
import Derived.Deep.RegionHeld3
namespace Go.Proofs.Ytgimgbbiojkfgaa
set_option maxRecDepth 10000
open Go.RowKit
set_option linter.unusedVariables false

theorem gcell {W w1 : World} (h : W.grownBy w1 none) (b o : Nat) (hb : b < W.heap.size) : w1.cell? ⟨b, o, none⟩ = W.cell? ⟨b, o, none⟩ := by
  cases e : W.cell? ⟨b, o, none⟩ with
  | some v => exact h.cell e (by simp)
  | none => unfold World.cell? at e ⊢; rw [h.block b hb (by simp)]; exact e
theorem gfroz {W w1 : World} (h : W.grownBy w1 none) (b o : Nat) (hb : b < W.heap.size) : w1.frozen? ⟨b, o, none⟩ = W.frozen? ⟨b, o, none⟩ := gbFrozen h hb (by simp)

/-- Eight cells that are read. -/
abbrev T8 (w : World) (x : Nat) (f : Nat → Nat) : Prop := w.cell? ⟨x, 0, none⟩ = some (.int .u64 (f 0 : Int)) ∧ w.cell? ⟨x, 1, none⟩ = some (.int .u64 (f 1 : Int)) ∧ w.cell? ⟨x, 2, none⟩ = some (.int .u64 (f 2 : Int)) ∧ w.cell? ⟨x, 3, none⟩ = some (.int .u64 (f 3 : Int)) ∧ w.cell? ⟨x, 4, none⟩ = some (.int .u64 (f 4 : Int)) ∧ w.cell? ⟨x, 5, none⟩ = some (.int .u64 (f 5 : Int)) ∧ w.cell? ⟨x, 6, none⟩ = some (.int .u64 (f 6 : Int)) ∧ w.cell? ⟨x, 7, none⟩ = some (.int .u64 (f 7 : Int))
theorem RA.t8 {w : World} {b : Nat} {t : TypeId} {f : Nat → Nat} (h : RA w b t f) : T8 w b f :=
  ⟨h.cell (by decide), h.cell (by decide), h.cell (by decide), h.cell (by decide), h.cell (by decide), h.cell (by decide), h.cell (by decide), h.cell (by decide)⟩

/-- Eight registers stored into a row that is there. -/
theorem RA.put8 {w : World} {y : Nat} {t : TypeId} {q : Nat → Nat} (h : RA w y t q) (f : Nat → Nat) :
    RA ((((((((w.setCell ⟨y, 0, none⟩ (.int .u64 (f 0 : Int))).setCell ⟨y, 1, none⟩ (.int .u64 (f 1 : Int))).setCell ⟨y, 2, none⟩ (.int .u64 (f 2 : Int))).setCell ⟨y, 3, none⟩ (.int .u64 (f 3 : Int))).setCell ⟨y, 4, none⟩ (.int .u64 (f 4 : Int))).setCell ⟨y, 5, none⟩ (.int .u64 (f 5 : Int))).setCell ⟨y, 6, none⟩ (.int .u64 (f 6 : Int))).setCell ⟨y, 7, none⟩ (.int .u64 (f 7 : Int))) y t f := by
  refine ((((((((h.set 0 (f 0)).set 1 (f 1)).set 2 (f 2)).set 3 (f 3)).set 4 (f 4)).set 5 (f 5)).set 6 (f 6)).set 7 (f 7)).congr (fun i hi => ?_)
  have hj : i = 0 ∨ i = 1 ∨ i = 2 ∨ i = 3 ∨ i = 4 ∨ i = 5 ∨ i = 6 ∨ i = 7 := by omega
  rcases hj with rfl | rfl | rfl | rfl | rfl | rfl | rfl | rfl <;> rfl
theorem gbPut8 {w0 w : World} (g : w0.grownBy w none) (y : Nat) (hy : w0.heap.size ≤ y) (a0 a1 a2 a3 a4 a5 a6 a7 : Value) :
    w0.grownBy ((((((((w.setCell ⟨y, 0, none⟩ a0).setCell ⟨y, 1, none⟩ a1).setCell ⟨y, 2, none⟩ a2).setCell ⟨y, 3, none⟩ a3).setCell ⟨y, 4, none⟩ a4).setCell ⟨y, 5, none⟩ a5).setCell ⟨y, 6, none⟩ a6).setCell ⟨y, 7, none⟩ a7) none :=
  gbSetNew (gbSetNew (gbSetNew (gbSetNew (gbSetNew (gbSetNew (gbSetNew (gbSetNew g _ _ _ hy) _ _ _ hy) _ _ _ hy) _ _ _ hy) _ _ _ hy) _ _ _ hy) _ _ _ hy) _ _ _ hy
end Go.Proofs.Ytgimgbbiojkfgaa
