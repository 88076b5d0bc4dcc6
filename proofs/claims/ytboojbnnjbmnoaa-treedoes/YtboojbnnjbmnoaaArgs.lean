/-
  WHAT COMES IN: a list of acts (donjonlaw09's Op, five numbers).
-/
import Derived.Test.YtboojbnnjbmnoaaBase
import Derived.Lib.SmallJoins
import Derived.Deep.Slices
import Derived.OpenShut
namespace Go.Proofs.Ytboojbnnjbmnoaa
open Go.ChangeShapes Go.WideShapes Go.ChangeAt Go.RowKit
set_option linter.unusedVariables false

theorem add_pos (y : Addr) (j : Nat) (h : j ≠ 0) : y.add j = ⟨y.block, y.off + j, none⟩ := by unfold Addr.add; rw [if_neg h]

/-- An act in memory, from an address on. -/
structure El5 (w : World) (y : Addr) (k a b c d : Int) : Prop where
  at0 : w.cell? y = some (.int .i64 k)
  at1 : w.cell? ⟨y.block, y.off + 1, none⟩ = some (.int .i64 a)
  at2 : w.cell? ⟨y.block, y.off + 2, none⟩ = some (.int .i64 b)
  at3 : w.cell? ⟨y.block, y.off + 3, none⟩ = some (.int .i64 c)
  at4 : w.cell? ⟨y.block, y.off + 4, none⟩ = some (.int .i64 d)
/-- Its numbers are numbers of their types. -/
structure Op5 (a b c d : Int) : Prop where
  a : I64 a
  b : I64 b
  c : I64 c
  d : I64 d
theorem El5.low {w w' : World} {y : Addr} {k a b c d : Int} (h : El5 w y k a b c d) (g : Below w.heap.size w w') : El5 w' y k a b c d := by
  have cell : ∀ {x : Addr} {v : Value}, w.cell? x = some v → w'.cell? x = some v := fun {x v} hx => (g.cell (World.block_lt_of_cell? w x hx)).trans hx
  exact ⟨cell h.at0, cell h.at1, cell h.at2, cell h.at3, cell h.at4⟩
theorem El5.kept {w w' : World} {y : Addr} {k a b c d : Int} (h : El5 w y k a b c d) (g : w.grownBy w' none) : El5 w' y k a b c d :=
  ⟨g.cell h.at0 (by simp), g.cell h.at1 (by simp), g.cell h.at2 (by simp), g.cell h.at3 (by simp), g.cell h.at4 (by simp)⟩

theorem opCells {H : Type} {enc : TypeId × Value → H} {W : World} {base fuel : Nat} {spare : Nat → Bool} {held : Bool} {a : Option Addr} {len cap : Nat} {x : DataW H × List MemPlace}
    (h : DataW.trod enc Try.prog W base spare held fuel 22 [.slice a len cap] = some x) : ∀ i, i < len → ∃ x k m n s t, a = some x ∧ El5 W (x.add (i * 5)) k m n s t ∧ Op5 m n s t := by
  intro i hi
  rcases Deep.open_slice Try.underlying22 h with ⟨hcs, _⟩ | ⟨y, l, c, m, n, D, Pl, hcs, _, hl, _, hm, _, hx⟩
  · simp at hcs; omega
  · simp at hcs
    obtain ⟨rfl, rfl, rfl⟩ := hcs
    have hlm : len ≤ m := by rw [hm]; split <;> omega
    obtain ⟨cs', h1, h2⟩ := hx i (by omega)
    have ce : Try.prog.cellsOf 33 = 5 := by kernel_rfl
    rw [ce] at h1
    obtain ⟨_, hlen, hcell⟩ := World.cells?_some h1
    obtain ⟨xs, k, hk, hxy, _, hxl, hf⟩ := DataW.trod_struct Try.underlying33 h2
    have c1 : Try.prog.cellsOf 3 = 1 := by kernel_rfl
    have c2 : Try.prog.cellsOf 31 = 2 := by kernel_rfl
    match xs, hxl, cs', hlen with
    | [y0, y1, y2], _, [v0, v1, v2, v3, v4], _ =>
      have g0 : DataW.trod enc Try.prog W base spare held k 3 [v0] = some y0 := by have := hf 0 _ rfl; simpa [c1] using this
      have g1 : DataW.trod enc Try.prog W base spare held k 31 [v1, v2] = some y1 := by have := hf 1 _ rfl; simpa [c2] using this
      have g2 : DataW.trod enc Try.prog W base spare held k 31 [v3, v4] = some y2 := by have := hf 2 _ rfl; simpa [c2] using this
      obtain ⟨xs1, k1, hk1, _, _, hxl1, hf1⟩ := DataW.trod_struct Try.underlying31 g1
      obtain ⟨xs2, k2, hk2, _, _, hxl2, hf2⟩ := DataW.trod_struct Try.underlying31 g2
      match xs1, hxl1, xs2, hxl2 with
      | [z0, z1], _, [q0, q1], _ =>
        have s0 : DataW.trod enc Try.prog W base spare held k1 3 [v1] = some z0 := by have := hf1 0 _ rfl; simpa [c1] using this
        have s1 : DataW.trod enc Try.prog W base spare held k1 3 [v2] = some z1 := by have := hf1 1 _ rfl; simpa [c1] using this
        have t0 : DataW.trod enc Try.prog W base spare held k2 3 [v3] = some q0 := by have := hf2 0 _ rfl; simpa [c1] using this
        have t1 : DataW.trod enc Try.prog W base spare held k2 3 [v4] = some q1 := by have := hf2 1 _ rfl; simpa [c1] using this
        obtain ⟨A0, e0, _⟩ := DataW.trod_int Try.underlying3 g0
        obtain ⟨A1, e1, w1⟩ := DataW.trod_int Try.underlying3 s0
        obtain ⟨A2, e2, w2⟩ := DataW.trod_int Try.underlying3 s1
        obtain ⟨A3, e3, w3⟩ := DataW.trod_int Try.underlying3 t0
        obtain ⟨A4, e4, w4⟩ := DataW.trod_int Try.underlying3 t1
        simp only [List.cons.injEq, and_true] at e0 e1 e2 e3 e4
        subst e0; subst e1; subst e2; subst e3; subst e4
        have d0 := hcell 0 (by omega)
        have d1 := hcell 1 (by omega)
        have d2 := hcell 2 (by omega)
        have d3 := hcell 3 (by omega)
        have d4 := hcell 4 (by omega)
        rw [add_pos _ _ (by decide)] at d1 d2 d3 d4
        have z : (y.add (i * 5)).add 0 = y.add (i * 5) := by unfold Addr.add; simp
        rw [z] at d0
        exact ⟨y, A0, A1, A2, A3, A4, rfl, ⟨d0, d1, d2, d3, d4⟩, ⟨w1.2, w2.2, w3.2, w4.2⟩⟩

/-- A list that comes in: each of its elements lies where it lies. -/
theorem opsArg {H : Type} {enc : TypeId × Value → H} {W : World} {base : Nat} {spare : Nat → Bool} {held : Bool} {a : Option Addr} {len cap : Nat} {d : DataW H} {p : List MemPlace}
    (h : DataW.Trod enc Try.prog W base spare held 22 (.slice a len cap) d p) : ∀ i, i < len → ∃ x k m n s t, a = some x ∧ El5 W (x.add (i * 5)) k m n s t ∧ Op5 m n s t := by
  obtain ⟨fuel, hf⟩ := h
  exact opCells hf

end Go.Proofs.Ytboojbnnjbmnoaa
