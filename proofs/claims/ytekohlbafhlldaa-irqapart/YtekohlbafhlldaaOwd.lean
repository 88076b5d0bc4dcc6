/-
  EIGHT LINES THAT ARE OWNED ONE BY ONE: what the laws begin with. Arrays of eight Bools and numbers in memory.
-/
import Derived.Test.YtekohlbafhlldaaWrk
import Derived.Test.YtekohlbafhlldaaRnx
namespace Go.Proofs.Ytekohlbafhlldaa
set_option maxRecDepth 10000
open Go.RowKit
set_option linter.unusedVariables false

/-- The first j lines are owned: the even ones by d, the odd ones by e. -/
def M.oj (d e : Int) (j : Nat) : I := ⟨fun _ => false, fun k => decide (j ≤ k), fun k => if k < j then (if k % 2 = 1 then e else d) else -1⟩
theorem M.oj0 (d e : Int) : M.oj d e 0 = M.i0 := by
  unfold M.oj M.i0
  simp
theorem M.ojS (d e : Int) (j : Nat) (hj : j < 8) (z : Int) (hz : z = if j % 2 = 1 then e else d) (h0 : 0 ≤ z) (h4 : z < 4) : M.oe (M.oj d e j) (j : Int) z = 0 ∧ M.os (M.oj d e j) (j : Int) z = M.oj d e (j + 1) := by
  have l : M.isL (j : Int) = true := M.isL_iff.2 (by omega)
  have dd : M.isD z = true := M.isD_iff.2 ⟨h0, h4⟩
  have o : (M.oj d e j).o ((j : Int).toNat) = -1 := by
    rw [Int.toNat_natCast]; unfold M.oj; simp
  unfold M.oe M.os
  rw [if_pos ⟨l, dd⟩, if_pos o, if_pos ⟨l, dd, o⟩]
  refine ⟨rfl, ?_⟩
  rw [Int.toNat_natCast]
  unfold M.oj ub ui
  simp only [I.mk.injEq, true_and]
  constructor
  · funext k
    by_cases c : k = j
    · rw [if_pos c]; simp; omega
    · rw [if_neg c]
      by_cases c2 : j ≤ k
      · simp [c2]; omega
      · simp [c2]; omega
  · funext k
    by_cases c : k = j
    · rw [if_pos c, if_pos (by omega), hz, c]
    · rw [if_neg c]
      by_cases c2 : k < j
      · rw [if_pos c2, if_pos (show k < j + 1 by omega)]
      · rw [if_neg c2, if_neg (show ¬ k < j + 1 by omega)]
theorem M.wd_zero (f : Nat → Bool) (h : ∀ k, k < 8 → f k = false) : M.wd f = 0 := by
  refine Nat.eq_of_testBit_eq fun i => ?_
  unfold M.wd
  rw [M.wn_bit, Nat.zero_testBit]
  by_cases c : i < 8
  · simp [h i c]
  · simp [c]
/-- A bit, as the laws read it. -/
theorem M.bit1 (f : Nat → Bool) (k : Nat) (hk : k < 8) (h : f k = true) : ((M.wd f : Int) / 2 ^ k).tmod 2 = 1 := by
  have := M.bit_val (M.wd f) k
  rw [M.wd_bit f k hk, h] at this
  simpa using this
theorem M.bit0 (f : Nat → Bool) (k : Nat) (hk : k < 8) (h : f k = false) : ((M.wd f : Int) / 2 ^ k).tmod 2 = 0 := by
  have := M.bit_val (M.wd f) k
  rw [M.wd_bit f k hk, h] at this
  have h0 : ((M.wd f : Int) / 2 ^ k).tmod 2 ≠ 1 := by simpa using this
  have h1 : 0 ≤ (M.wd f : Int) / 2 ^ k := Int.ediv_nonneg (by omega) (by have := Int.pow_pos (n := 2) (m := k) (by omega); omega)
  rw [Int.tmod_eq_emod_of_nonneg h1] at h0 ⊢
  omega

theorem BA.lt {w : World} {x : Nat} {f : Nat → Bool} (h : BA w x f) : x < w.heap.size := World.rowIs.lt h
theorem BA.fz {w : World} {x : Nat} {f : Nat → Bool} (h : BA w x f) (k : Nat) : w.frozen? ⟨x, k, none⟩ = false := World.rowIs.frozen h k
theorem BA.set {w : World} {x : Nat} {f : Nat → Bool} (h : BA w x f) (k : Nat) (b : Bool) : ∃ W, w.setCell ⟨x, k, none⟩ (.bool b) = W ∧ BA W x (ub f k b) ∧ w.grownBy W (some x) :=
  ⟨_, rfl, World.rowIs.congr (World.rowIs.set h k _) (fun a _ => by unfold ub; split <;> rfl), gbSetCell _ _ _ _⟩
theorem BA.fr {O : Nat → Prop} {w w' : World} {x : Nat} {f : Nat → Bool} (h : BA w x f) (F : Fr O w w') (ho : ¬ O x) : BA w' x f := World.rowIs.of_block h (F.block _ h.lt ho)
theorem BA.kept {w w' : World} {x : Nat} {f : Nat → Bool} (h : BA w x f) (g : w.grownBy w' none) : BA w' x f := h.fr (O := fun _ => False) (Fr.grown g) (fun e => e)
theorem BA.aside {w w' : World} {x y : Nat} {f : Nat → Bool} (h : BA w x f) (g : w.grownBy w' (some y)) (hy : x ≠ y) : BA w' x f := World.rowIs.of_block h (g.block _ h.lt (by simp; exact hy))
/-- Eight numbers in memory. -/
def CA (w : World) (x : Nat) (f : Nat → Int) : Prop := w.rowIs x 39 8 (fun k => .int .i64 (f k))
theorem CA.lt {w : World} {x : Nat} {f : Nat → Int} (h : CA w x f) : x < w.heap.size := World.rowIs.lt h
theorem CA.cell {w : World} {x : Nat} {f : Nat → Int} (h : CA w x f) {k : Nat} (hk : k < 8) : w.cell? ⟨x, k, none⟩ = some (.int .i64 (f k)) := World.rowIs.cell h hk
theorem CA.fz {w : World} {x : Nat} {f : Nat → Int} (h : CA w x f) (k : Nat) : w.frozen? ⟨x, k, none⟩ = false := World.rowIs.frozen h k
theorem CA.set {w : World} {x : Nat} {f : Nat → Int} (h : CA w x f) (k : Nat) (b : Int) : ∃ W, w.setCell ⟨x, k, none⟩ (.int .i64 b) = W ∧ CA W x (ui f k b) ∧ w.grownBy W (some x) :=
  ⟨_, rfl, World.rowIs.congr (World.rowIs.set h k _) (fun a _ => by unfold ui; split <;> rfl), gbSetCell _ _ _ _⟩
theorem CA.fr {O : Nat → Prop} {w w' : World} {x : Nat} {f : Nat → Int} (h : CA w x f) (F : Fr O w w') (ho : ¬ O x) : CA w' x f := World.rowIs.of_block h (F.block _ h.lt ho)
theorem CA.kept {w w' : World} {x : Nat} {f : Nat → Int} (h : CA w x f) (g : w.grownBy w' none) : CA w' x f := h.fr (O := fun _ => False) (Fr.grown g) (fun e => e)
theorem CA.aside {w w' : World} {x y : Nat} {f : Nat → Int} (h : CA w x f) (g : w.grownBy w' (some y)) (hy : x ≠ y) : CA w' x f := World.rowIs.of_block h (g.block _ h.lt (by simp; exact hy))
theorem ba0 (w : World) : BA (w.alloc (.cells #[.bool false, .bool false, .bool false, .bool false, .bool false, .bool false, .bool false, .bool false] 38)) w.heap.size (fun _ => false) := by
  obtain ⟨W, rfl, h, _⟩ := BA.made w (fun _ => false)
  exact h
theorem ca0 (w : World) : CA (w.alloc (.cells #[.int .i64 0, .int .i64 0, .int .i64 0, .int .i64 0, .int .i64 0, .int .i64 0, .int .i64 0, .int .i64 0] 39)) w.heap.size (fun _ => 0) :=
  w.rowIs_alloc _ _ (fun _ => .int .i64 0) (fun i hi => by
    have hj : i = 0 ∨ i = 1 ∨ i = 2 ∨ i = 3 ∨ i = 4 ∨ i = 5 ∨ i = 6 ∨ i = 7 := by simp at hi; omega
    rcases hj with rfl | rfl | rfl | rfl | rfl | rfl | rfl | rfl <;> rfl)
theorem QBox.aside {w w' : World} {x y : Nat} {q : Q} (h : QBox w x q) (g : w.grownBy w' (some y)) (hy : x ≠ y) : QBox w' x q :=
  h.fr (O := fun k => k = y) (Fr.at g rfl) hy
/-- An act's line is written. -/
theorem QBox.setN {w : World} {x : Nat} {q : Q} (h : QBox w x q) (n : Int) : ∃ W, w.setCell ⟨x, 1, none⟩ (.int .i64 n) = W ∧ QBox W x ⟨q.k, n, q.d⟩ ∧ w.grownBy W (some x) := by
  refine ⟨_, rfl, ⟨?_, ?_, ?_, ?_⟩, gbSetCell _ _ _ _⟩
  · rw [World.cell?_setCell_other _ _ _ _ (by simp)]; exact h.at0
  · rw [World.cell?_setCell_same _ _ _ h.at1]
  · rw [World.cell?_setCell_other _ _ _ _ (by simp)]; exact h.at2
  · have := h.lt; simpa [World.setCell] using this
theorem qboxFz (w : World) (q : Q) : ∃ W, w.alloc (.cells #[.int .i64 q.k, .int .i64 q.n, .int .i64 q.d] 28) = W ∧ QBox W w.heap.size q ∧ w.grownBy W none ∧ W.frozen? ⟨w.heap.size, 1, none⟩ = false :=
  ⟨_, rfl, ⟨by simp, by simp, by simp, by simp⟩, gbAlloc _ _ _, frozen_of_row _ _ _ _ _ (heap_alloc_new _ _)⟩
end Go.Proofs.Ytekohlbafhlldaa
