/-
  WHAT IS TO BE MADE (donjonlaw06's Ask, three numbers): by value; a list of them; its block.
-/
import Derived.Test.YtadllapdhdjpbaaArgs
namespace Go.Proofs.Ytadllapdhdjpbaa
open Go.ChangeShapes Go.WideShapes Go.ChangeAt Go.RowKit

/-- As a value. -/
abbrev qv (k n c : Int) : Value := .agg #[.int .i64 k, .int .i64 n, .int .i64 c]

theorem askArg6 {H : Type} {enc : TypeId × Value → H} {W : World} {r : Reach} {b0 base : Nat} {spare : Nat → Bool} {held : Bool} {v : Value} {d : DataW H} {p : List MemPlace}
    (hv : Value.okWide Try.prog W r b0 25 v) (h : DataW.Trod enc Try.prog W base spare held 25 v d p) : ∃ k n c : Int, v = qv k n c := by
  obtain ⟨v0, v1, v2, y0, y1, y2, n, rfl, _, _, h0, h1, h2⟩ := Go.Joins.open_agg3 Try.underlying25 (by kernel_rfl) (by kernel_rfl) hv h
  obtain ⟨A0, e0, _⟩ := DataW.trod_int Try.underlying3 h0
  obtain ⟨A1, e1, _⟩ := DataW.trod_int Try.underlying3 h1
  obtain ⟨A2, e2, _⟩ := DataW.trod_int Try.underlying3 h2
  simp only [List.cons.injEq, and_true] at e0 e1 e2
  subst e0 e1 e2
  exact ⟨A0, A1, A2, rfl⟩

/-- A block of three cells. -/
structure Tri (w : World) (x : Nat) (k n c : Int) : Prop where
  at0 : w.cell? ⟨x, 0, none⟩ = some (.int .i64 k)
  at1 : w.cell? ⟨x, 1, none⟩ = some (.int .i64 n)
  at2 : w.cell? ⟨x, 2, none⟩ = some (.int .i64 c)
  lt : x < w.heap.size
  fr2 : w.frozen? ⟨x, 2, none⟩ = false
theorem Tri.kept {w w' : World} {x : Nat} {k n c : Int} (h : Tri w x k n c) (g : w.grownBy w' none) : Tri w' x k n c :=
  ⟨g.cell h.at0 (by simp), g.cell h.at1 (by simp), g.cell h.at2 (by simp), Nat.lt_of_lt_of_le h.lt g.size, (gbFrozen g h.lt (by simp)).trans h.fr2⟩
theorem Tri.made (w : World) (k n c : Int) : Tri (w.alloc (.cells #[.int .i64 k, .int .i64 n, .int .i64 c] 25)) w.heap.size k n c :=
  ⟨by simp, by simp, by simp, by simp, by simp⟩
/-- A span and what is to be made, both laid. -/
theorem spanAsk (w : World) (A B k n c : Int) : ∃ W, (w.alloc (.cells #[.int .i64 A, .int .i64 B] 23)).alloc (.cells #[.int .i64 k, .int .i64 n, .int .i64 c] 25) = W ∧ Box W w.heap.size A B ∧ Tri W (w.heap.size + 1) k n c ∧ w.grownBy W none :=
  ⟨_, rfl, (Box.made w A B).kept (gbAlloc _ _ _), by simpa using Tri.made (w.alloc (.cells #[.int .i64 A, .int .i64 B] 23)) k n c, gbTrans (gbAlloc _ _ _) (gbAlloc _ _ _)⟩

/-! ### A list of them -/
structure El3 (w : World) (y : Addr) (k n c : Int) : Prop where
  at0 : w.cell? y = some (.int .i64 k)
  at1 : w.cell? ⟨y.block, y.off + 1, none⟩ = some (.int .i64 n)
  at2 : w.cell? ⟨y.block, y.off + 2, none⟩ = some (.int .i64 c)
theorem El3.kept {w w' : World} {y : Addr} {k n c : Int} (h : El3 w y k n c) (g : w.grownBy w' none) : El3 w' y k n c :=
  ⟨g.cell h.at0 (by simp), g.cell h.at1 (by simp), g.cell h.at2 (by simp)⟩

theorem askCells {H : Type} {enc : TypeId × Value → H} {W : World} {base fuel : Nat} {spare : Nat → Bool} {held : Bool} {a : Option Addr} {len cap : Nat} {x : DataW H × List MemPlace}
    (h : DataW.trod enc Try.prog W base spare held fuel 35 [.slice a len cap] = some x) : ∀ i, i < len → ∃ x k n c, a = some x ∧ El3 W (x.add (i * 3)) k n c := by
  intro i hi
  rcases Deep.open_slice Try.underlying35 h with ⟨hcs, _⟩ | ⟨y, l, c, m, n, D, Pl, hcs, _, hl, _, hm, _, hx⟩
  · simp at hcs; omega
  · simp at hcs
    obtain ⟨rfl, rfl, rfl⟩ := hcs
    have hlm : len ≤ m := by rw [hm]; split <;> omega
    obtain ⟨cs', h1, h2⟩ := hx i (by omega)
    have ce : Try.prog.cellsOf 25 = 3 := by kernel_rfl
    rw [ce] at h1
    obtain ⟨_, hlen, hcell⟩ := World.cells?_some h1
    obtain ⟨xs, k, hk, hxy, _, hxl, hf⟩ := DataW.trod_struct Try.underlying25 h2
    have c3 : Try.prog.cellsOf 3 = 1 := by kernel_rfl
    match xs, hxl, cs', hlen with
    | [y0, y1, y2], _, [v0, v1, v2], _ =>
      have g0 : DataW.trod enc Try.prog W base spare held k 3 [v0] = some y0 := by have := hf 0 _ rfl; simpa [c3] using this
      have g1 : DataW.trod enc Try.prog W base spare held k 3 [v1] = some y1 := by have := hf 1 _ rfl; simpa [c3] using this
      have g2 : DataW.trod enc Try.prog W base spare held k 3 [v2] = some y2 := by have := hf 2 _ rfl; simpa [c3] using this
      obtain ⟨A, e0, _⟩ := DataW.trod_int Try.underlying3 g0
      obtain ⟨B, e1, _⟩ := DataW.trod_int Try.underlying3 g1
      obtain ⟨C, e2, _⟩ := DataW.trod_int Try.underlying3 g2
      simp only [List.cons.injEq, and_true] at e0 e1 e2
      subst e0; subst e1; subst e2
      have d0 := hcell 0 (by omega)
      have d1 := hcell 1 (by omega)
      have d2 := hcell 2 (by omega)
      rw [add_pos _ _ (by decide)] at d1 d2
      have z : (y.add (i * 3)).add 0 = y.add (i * 3) := by unfold Addr.add; simp
      rw [z] at d0
      exact ⟨y, A, B, C, rfl, d0, d1, d2⟩

/-- A list that comes in: each of its elements lies where it lies. -/
theorem asksArg {H : Type} {enc : TypeId × Value → H} {W : World} {base : Nat} {spare : Nat → Bool} {held : Bool} {a : Option Addr} {len cap : Nat} {d : DataW H} {p : List MemPlace}
    (h : DataW.Trod enc Try.prog W base spare held 35 (.slice a len cap) d p) : ∀ i, i < len → ∃ x k n c, a = some x ∧ El3 W (x.add (i * 3)) k n c := by
  obtain ⟨fuel, hf⟩ := h
  exact askCells hf

end Go.Proofs.Ytadllapdhdjpbaa
