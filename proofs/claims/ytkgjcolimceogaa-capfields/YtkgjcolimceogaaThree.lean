/-
  BLOCKS that are written field by field; three blocks made in one statement.
-/
import Derived.Test.YtkgjcolimceogaaBoxes
namespace Go.Proofs.Ytkgjcolimceogaa
open Go.RowKit

theorem Box.setO {w : World} {x : Nat} {c : C} (h : Box w x c) (v : Int) : ∃ W, w.setCell ⟨x, 1, none⟩ (.int .i64 v) = W ∧ Box W x ⟨c.k, v, c.r, c.b, c.g, c.n⟩ ∧ w.grownBy W (some x) := by
  obtain ⟨a0, a1, a2, a3, a4, a5, lt, fr⟩ := h
  refine ⟨_, rfl, ⟨?_, ?_, ?_, ?_, ?_, ?_, ?_, ?_⟩, gbSetCell _ _ _ _⟩
  · exact (World.cell?_setCell_other _ _ _ _ (by simp)).trans a0
  · exact World.cell?_setCell_same _ _ _ a1
  · exact (World.cell?_setCell_other _ _ _ _ (by simp)).trans a2
  · exact (World.cell?_setCell_other _ _ _ _ (by simp)).trans a3
  · exact (World.cell?_setCell_other _ _ _ _ (by simp)).trans a4
  · exact (World.cell?_setCell_other _ _ _ _ (by simp)).trans a5
  · simpa [World.setCell] using lt
  · intro i; simpa using fr i
theorem Box.setR {w : World} {x : Nat} {c : C} (h : Box w x c) (v : Int) : ∃ W, w.setCell ⟨x, 2, none⟩ (.int .i64 v) = W ∧ Box W x ⟨c.k, c.o, v, c.b, c.g, c.n⟩ ∧ w.grownBy W (some x) := by
  obtain ⟨a0, a1, a2, a3, a4, a5, lt, fr⟩ := h
  refine ⟨_, rfl, ⟨?_, ?_, ?_, ?_, ?_, ?_, ?_, ?_⟩, gbSetCell _ _ _ _⟩
  · exact (World.cell?_setCell_other _ _ _ _ (by simp)).trans a0
  · exact (World.cell?_setCell_other _ _ _ _ (by simp)).trans a1
  · exact World.cell?_setCell_same _ _ _ a2
  · exact (World.cell?_setCell_other _ _ _ _ (by simp)).trans a3
  · exact (World.cell?_setCell_other _ _ _ _ (by simp)).trans a4
  · exact (World.cell?_setCell_other _ _ _ _ (by simp)).trans a5
  · simpa [World.setCell] using lt
  · intro i; simpa using fr i
theorem Box.setGN {w : World} {x : Nat} {c : C} (h : Box w x c) (g n : Int) : ∃ W, (w.setCell ⟨x, 4, none⟩ (.int .u64 g)).setCell ⟨x, 5, none⟩ (.int .i64 n) = W ∧ Box W x ⟨c.k, c.o, c.r, c.b, g, n⟩ ∧ w.grownBy W (some x) := by
  obtain ⟨a0, a1, a2, a3, a4, a5, lt, fr⟩ := h
  refine ⟨_, rfl, ⟨?_, ?_, ?_, ?_, ?_, ?_, ?_, ?_⟩, gbTrans (gbSetCell _ _ _ _) (gbSetCell _ _ _ _)⟩
  · exact (World.cell?_setCell_other _ _ _ _ (by simp)).trans ((World.cell?_setCell_other _ _ _ _ (by simp)).trans a0)
  · exact (World.cell?_setCell_other _ _ _ _ (by simp)).trans ((World.cell?_setCell_other _ _ _ _ (by simp)).trans a1)
  · exact (World.cell?_setCell_other _ _ _ _ (by simp)).trans ((World.cell?_setCell_other _ _ _ _ (by simp)).trans a2)
  · exact (World.cell?_setCell_other _ _ _ _ (by simp)).trans ((World.cell?_setCell_other _ _ _ _ (by simp)).trans a3)
  · exact (World.cell?_setCell_other _ _ _ _ (by simp)).trans (World.cell?_setCell_same _ _ _ a4)
  · exact World.cell?_setCell_same _ _ _ (u := .int .i64 c.n) ((World.cell?_setCell_other _ _ _ _ (by simp)).trans a5)
  · simpa [World.setCell] using lt
  · intro i; simpa using fr i

theorem Box.six {w w' : World} {x : Nat} {c : C} (h : Box w x c) (g : w.grownBy w' none) :
    w'.cell? ⟨x, 0, none⟩ = some (.int .i64 c.k) ∧ w'.cell? ⟨x, 1, none⟩ = some (.int .i64 c.o) ∧ w'.cell? ⟨x, 2, none⟩ = some (.int .i64 c.r) ∧ w'.cell? ⟨x, 3, none⟩ = some (.int .u64 c.b) ∧ w'.cell? ⟨x, 4, none⟩ = some (.int .u64 c.g) ∧ w'.cell? ⟨x, 5, none⟩ = some (.int .i64 c.n) :=
  have k := h.kept g
  ⟨k.at0, k.at1, k.at2, k.at3, k.at4, k.at5⟩

theorem threeNew (w : World) (c : C) (W : World) (hW : (((w.alloc (.cells #[.int .i64 c.k, .int .i64 c.o, .int .i64 c.r, .int .u64 c.b, .int .u64 c.g, .int .i64 c.n] 24)).alloc (.cells #[.int .i64 c.k, .int .i64 c.o, .int .i64 c.r, .int .u64 c.b, .int .u64 c.g, .int .i64 c.n] 24)).alloc (.cells #[.int .i64 c.k, .int .i64 c.o, .int .i64 c.r, .int .u64 c.b, .int .u64 c.g, .int .i64 c.n] 24)).drew = W) :
    Box W w.heap.size c ∧ Box W (w.heap.size + 1) c ∧ Box W (w.heap.size + 1 + 1) c ∧ w.grownBy W none := by
  subst hW
  obtain ⟨X, Y, Z, g⟩ := boxes3 w c c c _ rfl
  exact ⟨X.kept (gbDrewN _ 1 none), Y.kept (gbDrewN _ 1 none), Z.kept (gbDrewN _ 1 none), gbDrew g⟩

end Go.Proofs.Ytkgjcolimceogaa
