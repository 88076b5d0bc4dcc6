/-
  WHAT COMES IN: a list of acts (donjonlaw07's Op, ten numbers).
-/
import Derived.Test.YtjlkinocpkcghaaWorks
import Derived.Lib.SmallJoins
import Derived.Deep.Slices
import Derived.OpenShut
namespace Go.Proofs.Ytjlkinocpkcghaa
open Go.ChangeShapes Go.WideShapes Go.ChangeAt Go.RowKit
set_option linter.unusedVariables false

theorem add_pos (y : Addr) (j : Nat) (h : j ≠ 0) : y.add j = ⟨y.block, y.off + j, none⟩ := by unfold Addr.add; rw [if_neg h]

/-- An act in memory, from an address on. -/
structure El10 (w : World) (y : Addr) (k n a m : Int) (c : C) : Prop where
  at0 : w.cell? y = some (.int .i64 k)
  at1 : w.cell? ⟨y.block, y.off + 1, none⟩ = some (.int .i64 n)
  at2 : w.cell? ⟨y.block, y.off + 2, none⟩ = some (.int .i64 a)
  at3 : w.cell? ⟨y.block, y.off + 3, none⟩ = some (.int .i64 m)
  at4 : w.cell? ⟨y.block, y.off + 4, none⟩ = some (.int .i64 c.k)
  at5 : w.cell? ⟨y.block, y.off + 5, none⟩ = some (.int .i64 c.o)
  at6 : w.cell? ⟨y.block, y.off + 6, none⟩ = some (.int .i64 c.r)
  at7 : w.cell? ⟨y.block, y.off + 7, none⟩ = some (.int .u64 c.b)
  at8 : w.cell? ⟨y.block, y.off + 8, none⟩ = some (.int .u64 c.g)
  at9 : w.cell? ⟨y.block, y.off + 9, none⟩ = some (.int .i64 c.n)
/-- Its numbers are numbers of their types. -/
structure Op10 (n a : Int) (c : C) : Prop where
  n : I64 n
  a : I64 a
  b : 0 ≤ c.b
  g : 0 ≤ c.g
theorem El10.low {w w' : World} {y : Addr} {k n a m : Int} {c : C} (h : El10 w y k n a m c) (b : Below w.heap.size w w') : El10 w' y k n a m c := by
  have cell : ∀ {x : Addr} {v : Value}, w.cell? x = some v → w'.cell? x = some v := fun {x v} hx => (b.cell (World.block_lt_of_cell? w x hx)).trans hx
  exact ⟨cell h.at0, cell h.at1, cell h.at2, cell h.at3, cell h.at4, cell h.at5, cell h.at6, cell h.at7, cell h.at8, cell h.at9⟩
theorem El10.kept {w w' : World} {y : Addr} {k n a m : Int} {c : C} (h : El10 w y k n a m c) (g : w.grownBy w' none) : El10 w' y k n a m c :=
  ⟨g.cell h.at0 (by simp), g.cell h.at1 (by simp), g.cell h.at2 (by simp), g.cell h.at3 (by simp), g.cell h.at4 (by simp), g.cell h.at5 (by simp), g.cell h.at6 (by simp), g.cell h.at7 (by simp), g.cell h.at8 (by simp), g.cell h.at9 (by simp)⟩
theorem Fr.el10 {O : Nat → Prop} {w w' : World} {y : Addr} {k n a m : Int} {c : C} (g : Fr O w w') (h : El10 w y k n a m c) (ho : ¬ O y.block) : El10 w' y k n a m c :=
  ⟨g.cell h.at0 ho, g.cell h.at1 ho, g.cell h.at2 ho, g.cell h.at3 ho, g.cell h.at4 ho, g.cell h.at5 ho, g.cell h.at6 ho, g.cell h.at7 ho, g.cell h.at8 ho, g.cell h.at9 ho⟩

theorem u64_lo {a : Int} (h : (Lit.int .u64 a).wf = true) : 0 ≤ a := by
  unfold Lit.wf at h
  rw [Bool.and_eq_true, decide_eq_true_eq, decide_eq_true_eq] at h
  have e1 : IntKind.u64.min = 0 := by decide
  rw [e1] at h
  omega

theorem opCells {H : Type} {enc : TypeId × Value → H} {W : World} {base fuel : Nat} {spare : Nat → Bool} {held : Bool} {a : Option Addr} {len cap : Nat} {x : DataW H × List MemPlace}
    (h : DataW.trod enc Try.prog W base spare held fuel 22 [.slice a len cap] = some x) : ∀ i, i < len → ∃ x k n s m c, a = some x ∧ El10 W (x.add (i * 10)) k n s m c ∧ Op10 n s c := by
  intro i hi
  rcases Deep.open_slice Try.underlying22 h with ⟨hcs, _⟩ | ⟨y, l, c, m, n, D, Pl, hcs, _, hl, _, hm, _, hx⟩
  · simp at hcs; omega
  · simp at hcs
    obtain ⟨rfl, rfl, rfl⟩ := hcs
    have hlm : len ≤ m := by rw [hm]; split <;> omega
    obtain ⟨cs', h1, h2⟩ := hx i (by omega)
    have ce : Try.prog.cellsOf 35 = 10 := by kernel_rfl
    rw [ce] at h1
    obtain ⟨_, hlen, hcell⟩ := World.cells?_some h1
    obtain ⟨xs, k, hk, hxy, _, hxl, hf⟩ := DataW.trod_struct Try.underlying35 h2
    have c1 : Try.prog.cellsOf 3 = 1 := by kernel_rfl
    have cu : Try.prog.cellsOf 31 = 1 := by kernel_rfl
    have c2 : Try.prog.cellsOf 30 = 2 := by kernel_rfl
    have c6 : Try.prog.cellsOf 33 = 6 := by kernel_rfl
    match xs, hxl, cs', hlen with
    | [y0, y1, y2, y3], _, [v0, v1, v2, v3, v4, v5, v6, v7, v8, v9], _ =>
      have g0 : DataW.trod enc Try.prog W base spare held k 3 [v0] = some y0 := by have := hf 0 _ rfl; simpa [c1] using this
      have g1 : DataW.trod enc Try.prog W base spare held k 30 [v1, v2] = some y1 := by have := hf 1 _ rfl; simpa [c2] using this
      have g2 : DataW.trod enc Try.prog W base spare held k 3 [v3] = some y2 := by have := hf 2 _ rfl; simpa [c1] using this
      have g3 : DataW.trod enc Try.prog W base spare held k 33 [v4, v5, v6, v7, v8, v9] = some y3 := by have := hf 3 _ rfl; simpa [c6] using this
      obtain ⟨xs1, k1, hk1, _, _, hxl1, hf1⟩ := DataW.trod_struct Try.underlying30 g1
      obtain ⟨xs3, k3, hk3, _, _, hxl3, hf3⟩ := DataW.trod_struct Try.underlying33 g3
      match xs1, hxl1, xs3, hxl3 with
      | [z0, z1], _, [q0, q1, q2, q3, q4, q5], _ =>
        have s0 : DataW.trod enc Try.prog W base spare held k1 3 [v1] = some z0 := by have := hf1 0 _ rfl; simpa [c1] using this
        have s1 : DataW.trod enc Try.prog W base spare held k1 3 [v2] = some z1 := by have := hf1 1 _ rfl; simpa [c1] using this
        have t0 : DataW.trod enc Try.prog W base spare held k3 3 [v4] = some q0 := by have := hf3 0 _ rfl; simpa [c1] using this
        have t1 : DataW.trod enc Try.prog W base spare held k3 3 [v5] = some q1 := by have := hf3 1 _ rfl; simpa [c1] using this
        have t2 : DataW.trod enc Try.prog W base spare held k3 3 [v6] = some q2 := by have := hf3 2 _ rfl; simpa [c1] using this
        have t3 : DataW.trod enc Try.prog W base spare held k3 31 [v7] = some q3 := by have := hf3 3 _ rfl; simpa [cu] using this
        have t4 : DataW.trod enc Try.prog W base spare held k3 31 [v8] = some q4 := by have := hf3 4 _ rfl; simpa [cu] using this
        have t5 : DataW.trod enc Try.prog W base spare held k3 3 [v9] = some q5 := by have := hf3 5 _ rfl; simpa [c1] using this
        obtain ⟨A0, e0, _⟩ := DataW.trod_int Try.underlying3 g0
        obtain ⟨A1, e1, w1⟩ := DataW.trod_int Try.underlying3 s0
        obtain ⟨A2, e2, w2⟩ := DataW.trod_int Try.underlying3 s1
        obtain ⟨A3, e3, _⟩ := DataW.trod_int Try.underlying3 g2
        obtain ⟨A4, e4, _⟩ := DataW.trod_int Try.underlying3 t0
        obtain ⟨A5, e5, _⟩ := DataW.trod_int Try.underlying3 t1
        obtain ⟨A6, e6, _⟩ := DataW.trod_int Try.underlying3 t2
        obtain ⟨A7, e7, w7⟩ := DataW.trod_int Try.underlying31 t3
        obtain ⟨A8, e8, w8⟩ := DataW.trod_int Try.underlying31 t4
        obtain ⟨A9, e9, _⟩ := DataW.trod_int Try.underlying3 t5
        simp only [List.cons.injEq, and_true] at e0 e1 e2 e3 e4 e5 e6 e7 e8 e9
        subst e0; subst e1; subst e2; subst e3; subst e4; subst e5; subst e6; subst e7; subst e8; subst e9
        have d0 := hcell 0 (by omega)
        have d1 := hcell 1 (by omega)
        have d2 := hcell 2 (by omega)
        have d3 := hcell 3 (by omega)
        have d4 := hcell 4 (by omega)
        have d5 := hcell 5 (by omega)
        have d6 := hcell 6 (by omega)
        have d7 := hcell 7 (by omega)
        have d8 := hcell 8 (by omega)
        have d9 := hcell 9 (by omega)
        rw [add_pos _ _ (by decide)] at d1 d2 d3 d4 d5 d6 d7 d8 d9
        have z : (y.add (i * 10)).add 0 = y.add (i * 10) := by unfold Addr.add; simp
        rw [z] at d0
        exact ⟨y, A0, A1, A2, A3, ⟨A4, A5, A6, A7, A8, A9⟩, rfl, ⟨d0, d1, d2, d3, d4, d5, d6, d7, d8, d9⟩, ⟨w1.2, w2.2, u64_lo w7.2, u64_lo w8.2⟩⟩

/-- A list that comes in: each of its elements lies where it lies. -/
theorem opsArg {H : Type} {enc : TypeId × Value → H} {W : World} {base : Nat} {spare : Nat → Bool} {held : Bool} {a : Option Addr} {len cap : Nat} {d : DataW H} {p : List MemPlace}
    (h : DataW.Trod enc Try.prog W base spare held 22 (.slice a len cap) d p) : ∀ i, i < len → ∃ x k n s m c, a = some x ∧ El10 W (x.add (i * 10)) k n s m c ∧ Op10 n s c := by
  obtain ⟨fuel, hf⟩ := h
  exact opCells hf

end Go.Proofs.Ytjlkinocpkcghaa
