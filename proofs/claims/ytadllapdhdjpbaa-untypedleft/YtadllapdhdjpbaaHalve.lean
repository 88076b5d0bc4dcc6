/-
  THE CONTRACT of package span's Halves.
-/
import Derived.Test.YtadllapdhdjpbaaTells
import Derived.Deep.RegionHeld3
import Derived.Deep.DrawnRows
namespace Go.Proofs.Ytadllapdhdjpbaa
open Go.RowKit

theorem gbSetNew {w w1 : World} (h : w.grownBy w1 none) (b i : Nat) (v : Value) (hb : w.heap.size ≤ b) : w.grownBy (w1.setCell ⟨b, i, none⟩ v) none :=
  gbNew (gbTrans (gbAny h _) (gbSetCell _ _ _ _)) hb
theorem gbDrew {w w1 : World} (h : w.grownBy w1 none) : w.grownBy w1.drew none := gbTrans h (gbDrewN _ 1 none)
theorem gbAllocN {w w1 : World} (h : w.grownBy w1 none) (o : Obj) : w.grownBy (w1.alloc o) none := gbTrans h (gbAlloc _ _ _)

theorem boxThree (w : World) (A B : Int) : ∃ W, ((w.alloc (.cells #[.int .i64 A, .int .i64 B] 23)).alloc (.cells #[.int .i64 0, .int .i64 0] 23)).alloc (.cells #[.int .i64 0, .int .i64 0] 23) = W ∧
    Box W w.heap.size A B ∧ Box W (w.heap.size + 1) 0 0 ∧ Box W (w.heap.size + 1 + 1) 0 0 ∧ w.grownBy W none :=
  ⟨_, rfl, ((Box.made w A B).kept (gbAlloc _ _ _)).kept (gbAlloc _ _ _), (by simpa using Box.made (w.alloc (.cells #[.int .i64 A, .int .i64 B] 23)) 0 0 : Box _ (w.heap.size + 1) 0 0).kept (gbAlloc _ _ _),
    by simpa using Box.made ((w.alloc (.cells #[.int .i64 A, .int .i64 B] 23)).alloc (.cells #[.int .i64 0, .int .i64 0] 23)) 0 0, gbAllocN (gbAllocN (gbAllocN (gbRefl _ _) _) _) _⟩

theorem gcell {W w1 : World} (h : W.grownBy w1 none) (b o : Nat) (hb : b < W.heap.size) : w1.cell? ⟨b, o, none⟩ = W.cell? ⟨b, o, none⟩ := by
  cases e : W.cell? ⟨b, o, none⟩ with
  | some v => exact h.cell e (by simp)
  | none => unfold World.cell? at *; rw [h.block b hb (by simp)]; exact e
theorem gfroz {W w1 : World} (h : W.grownBy w1 none) (b o : Nat) (hb : b < W.heap.size) : w1.frozen? ⟨b, o, none⟩ = W.frozen? ⟨b, o, none⟩ := gbFrozen h hb (by simp)

theorem boxNew (w : World) (A B : Int) : ∃ W, w.alloc (.cells #[.int .i64 A, .int .i64 B] 23) = W ∧ Box W w.heap.size A B ∧ w.grownBy W none :=
  ⟨_, rfl, Box.made w A B, gbAlloc _ _ _⟩

theorem Box.set {w : World} {b : Nat} {A B : Int} (h : Box w b A B) (C D : Int) : Box ((w.setCell ⟨b, 0, none⟩ (.int .i64 C)).setCell ⟨b, 1, none⟩ (.int .i64 D)) b C D :=
  ⟨(World.cell?_setCell_other _ _ _ _ (by simp)).trans (World.cell?_setCell_same _ _ _ h.at0), World.cell?_setCell_same _ _ _ (u := .int .i64 B) ((World.cell?_setCell_other _ _ _ _ (by simp)).trans h.at1), by simpa [World.setCell] using h.lt, by simpa using h.fr, by simpa using h.fr1⟩

end Go.Proofs.Ytadllapdhdjpbaa
