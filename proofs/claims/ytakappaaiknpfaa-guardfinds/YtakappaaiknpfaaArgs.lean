/-
  WHAT COMES IN: a slot's name and a capability by value; a list of numbers; a list of capabilities in slots (donjonlaw08's Put, eight numbers).
-/
import Derived.Test.YtakappaaiknpfaaMany
import Derived.Lib.SmallJoins
import Derived.Deep.Slices
import Derived.OpenShut
namespace Go.Proofs.Ytakappaaiknpfaa
open Go.ChangeShapes Go.WideShapes Go.ChangeAt Go.RowKit
set_option linter.unusedVariables false

theorem add_pos (y : Addr) (j : Nat) (h : j ≠ 0) : y.add j = ⟨y.block, y.off + j, none⟩ := by unfold Addr.add; rw [if_neg h]

theorem slotArg {H : Type} {enc : TypeId × Value → H} {W : World} {r : Reach} {b0 base : Nat} {spare : Nat → Bool} {held : Bool} {v : Value} {d : DataW H} {p : List MemPlace}
    (hv : Value.okWide Try.prog W r b0 32 v) (h : DataW.Trod enc Try.prog W base spare held 32 v d p) : ∃ A B : Int, v = sv A B := by
  obtain ⟨v0, v1, y0, y1, n, rfl, _, _, h0, h1⟩ := Go.Joins.open_agg2 Try.underlying32 (by kernel_rfl) (by kernel_rfl) hv h
  obtain ⟨A, e0, _⟩ := DataW.trod_int Try.underlying3 h0
  obtain ⟨B, e1, _⟩ := DataW.trod_int Try.underlying3 h1
  simp only [List.cons.injEq, and_true] at e0 e1
  subst e0; subst e1
  exact ⟨A, B, rfl⟩

theorem capArg {H : Type} {enc : TypeId × Value → H} {W : World} {r : Reach} {b0 base : Nat} {spare : Nat → Bool} {held : Bool} {v : Value} {d : DataW H} {p : List MemPlace}
    (hv : Value.okWide Try.prog W r b0 26 v) (h : DataW.Trod enc Try.prog W base spare held 26 v d p) : ∃ k o r b g n : Int, v = cv ⟨k, o, r, b, g, n⟩ ∧ I64 o := by
  obtain ⟨cs, rfl, hsz⟩ := okWide_struct Try.underlying26 hv
  have ce : Try.prog.cellsOf 26 = 6 := by kernel_rfl
  rw [ce] at hsz
  obtain ⟨fuel, hf⟩ := h
  obtain ⟨xs, k, _, _, _, hxl, hf⟩ := DataW.trod_struct Try.underlying26 hf
  have c3 : Try.prog.cellsOf 3 = 1 := by kernel_rfl
  have c4 : Try.prog.cellsOf 24 = 1 := by kernel_rfl
  obtain ⟨l⟩ := cs
  match xs, hxl, l, hsz with
  | [y0, y1, y2, y3, y4, y5], _, [v0, v1, v2, v3, v4, v5], _ =>
    have g0 : DataW.trod enc Try.prog W base spare held k 3 [v0] = some y0 := by have := hf 0 _ rfl; simpa [c3, Value.cells] using this
    have g1 : DataW.trod enc Try.prog W base spare held k 3 [v1] = some y1 := by have := hf 1 _ rfl; simpa [c3, Value.cells] using this
    have g2 : DataW.trod enc Try.prog W base spare held k 3 [v2] = some y2 := by have := hf 2 _ rfl; simpa [c3, Value.cells] using this
    have g3 : DataW.trod enc Try.prog W base spare held k 24 [v3] = some y3 := by have := hf 3 _ rfl; simpa [c4, Value.cells] using this
    have g4 : DataW.trod enc Try.prog W base spare held k 24 [v4] = some y4 := by have := hf 4 _ rfl; simpa [c4, Value.cells] using this
    have g5 : DataW.trod enc Try.prog W base spare held k 3 [v5] = some y5 := by have := hf 5 _ rfl; simpa [c3, Value.cells] using this
    obtain ⟨A0, e0, _⟩ := DataW.trod_int Try.underlying3 g0
    obtain ⟨A1, e1, _, f1⟩ := DataW.trod_int Try.underlying3 g1
    obtain ⟨A2, e2, _⟩ := DataW.trod_int Try.underlying3 g2
    obtain ⟨A3, e3, _⟩ := DataW.trod_int Try.underlying24 g3
    obtain ⟨A4, e4, _⟩ := DataW.trod_int Try.underlying24 g4
    obtain ⟨A5, e5, _⟩ := DataW.trod_int Try.underlying3 g5
    simp only [List.cons.injEq, and_true] at e0 e1 e2 e3 e4 e5
    subst e0 e1 e2 e3 e4 e5
    exact ⟨A0, A1, A2, A3, A4, A5, rfl, f1⟩

/-- A capability in a slot, in memory, from an address on. -/
structure El8 (w : World) (y : Addr) (n a : Int) (c : C) : Prop where
  at0 : w.cell? y = some (.int .i64 n)
  at1 : w.cell? ⟨y.block, y.off + 1, none⟩ = some (.int .i64 a)
  at2 : w.cell? ⟨y.block, y.off + 2, none⟩ = some (.int .i64 c.k)
  at3 : w.cell? ⟨y.block, y.off + 3, none⟩ = some (.int .i64 c.o)
  at4 : w.cell? ⟨y.block, y.off + 4, none⟩ = some (.int .i64 c.r)
  at5 : w.cell? ⟨y.block, y.off + 5, none⟩ = some (.int .u64 c.b)
  at6 : w.cell? ⟨y.block, y.off + 6, none⟩ = some (.int .u64 c.g)
  at7 : w.cell? ⟨y.block, y.off + 7, none⟩ = some (.int .i64 c.n)
/-- Its numbers are numbers of their types. -/
structure Op8 (n : Int) (c : C) : Prop where
  n : I64 n
  b : 0 ≤ c.b
  g : 0 ≤ c.g
theorem El8.low {w w' : World} {y : Addr} {n a : Int} {c : C} (h : El8 w y n a c) (b : Below w.heap.size w w') : El8 w' y n a c := by
  have cell : ∀ {x : Addr} {v : Value}, w.cell? x = some v → w'.cell? x = some v := fun {x v} hx => (b.cell (World.block_lt_of_cell? w x hx)).trans hx
  exact ⟨cell h.at0, cell h.at1, cell h.at2, cell h.at3, cell h.at4, cell h.at5, cell h.at6, cell h.at7⟩

theorem putCells {H : Type} {enc : TypeId × Value → H} {W : World} {base fuel : Nat} {spare : Nat → Bool} {held : Bool} {a : Option Addr} {len cap : Nat} {x : DataW H × List MemPlace}
    (h : DataW.trod enc Try.prog W base spare held fuel 23 [.slice a len cap] = some x) : ∀ i, i < len → ∃ x n s c, a = some x ∧ El8 W (x.add (i * 8)) n s c ∧ Op8 n c := by
  intro i hi
  rcases Deep.open_slice Try.underlying23 h with ⟨hcs, _⟩ | ⟨y, l, c, m, n, D, Pl, hcs, _, hl, _, hm, _, hx⟩
  · simp at hcs; omega
  · simp at hcs
    obtain ⟨rfl, rfl, rfl⟩ := hcs
    have hlm : len ≤ m := by rw [hm]; split <;> omega
    obtain ⟨cs', h1, h2⟩ := hx i (by omega)
    have ce : Try.prog.cellsOf 58 = 8 := by kernel_rfl
    rw [ce] at h1
    obtain ⟨_, hlen, hcell⟩ := World.cells?_some h1
    obtain ⟨xs, k, hk, hxy, _, hxl, hf⟩ := DataW.trod_struct Try.underlying58 h2
    have c1 : Try.prog.cellsOf 3 = 1 := by kernel_rfl
    have cu : Try.prog.cellsOf 24 = 1 := by kernel_rfl
    have c2 : Try.prog.cellsOf 32 = 2 := by kernel_rfl
    have c6 : Try.prog.cellsOf 26 = 6 := by kernel_rfl
    match xs, hxl, cs', hlen with
    | [y1, y3], _, [v1, v2, v4, v5, v6, v7, v8, v9], _ =>
      have g1 : DataW.trod enc Try.prog W base spare held k 32 [v1, v2] = some y1 := by have := hf 0 _ rfl; simpa [c2] using this
      have g3 : DataW.trod enc Try.prog W base spare held k 26 [v4, v5, v6, v7, v8, v9] = some y3 := by have := hf 1 _ rfl; simpa [c6] using this
      obtain ⟨xs1, k1, hk1, _, _, hxl1, hf1⟩ := DataW.trod_struct Try.underlying32 g1
      obtain ⟨xs3, k3, hk3, _, _, hxl3, hf3⟩ := DataW.trod_struct Try.underlying26 g3
      match xs1, hxl1, xs3, hxl3 with
      | [z0, z1], _, [q0, q1, q2, q3, q4, q5], _ =>
        have s0 : DataW.trod enc Try.prog W base spare held k1 3 [v1] = some z0 := by have := hf1 0 _ rfl; simpa [c1] using this
        have s1 : DataW.trod enc Try.prog W base spare held k1 3 [v2] = some z1 := by have := hf1 1 _ rfl; simpa [c1] using this
        have t0 : DataW.trod enc Try.prog W base spare held k3 3 [v4] = some q0 := by have := hf3 0 _ rfl; simpa [c1] using this
        have t1 : DataW.trod enc Try.prog W base spare held k3 3 [v5] = some q1 := by have := hf3 1 _ rfl; simpa [c1] using this
        have t2 : DataW.trod enc Try.prog W base spare held k3 3 [v6] = some q2 := by have := hf3 2 _ rfl; simpa [c1] using this
        have t3 : DataW.trod enc Try.prog W base spare held k3 24 [v7] = some q3 := by have := hf3 3 _ rfl; simpa [cu] using this
        have t4 : DataW.trod enc Try.prog W base spare held k3 24 [v8] = some q4 := by have := hf3 4 _ rfl; simpa [cu] using this
        have t5 : DataW.trod enc Try.prog W base spare held k3 3 [v9] = some q5 := by have := hf3 5 _ rfl; simpa [c1] using this
        obtain ⟨A1, e1, w1⟩ := DataW.trod_int Try.underlying3 s0
        obtain ⟨A2, e2, _⟩ := DataW.trod_int Try.underlying3 s1
        obtain ⟨A4, e4, _⟩ := DataW.trod_int Try.underlying3 t0
        obtain ⟨A5, e5, _⟩ := DataW.trod_int Try.underlying3 t1
        obtain ⟨A6, e6, _⟩ := DataW.trod_int Try.underlying3 t2
        obtain ⟨A7, e7, w7⟩ := DataW.trod_int Try.underlying24 t3
        obtain ⟨A8, e8, w8⟩ := DataW.trod_int Try.underlying24 t4
        obtain ⟨A9, e9, _⟩ := DataW.trod_int Try.underlying3 t5
        simp only [List.cons.injEq, and_true] at e1 e2 e4 e5 e6 e7 e8 e9
        subst e1; subst e2; subst e4; subst e5; subst e6; subst e7; subst e8; subst e9
        have d1 := hcell 0 (by omega)
        have d2 := hcell 1 (by omega)
        have d4 := hcell 2 (by omega)
        have d5 := hcell 3 (by omega)
        have d6 := hcell 4 (by omega)
        have d7 := hcell 5 (by omega)
        have d8 := hcell 6 (by omega)
        have d9 := hcell 7 (by omega)
        rw [add_pos _ _ (by decide)] at d2 d4 d5 d6 d7 d8 d9
        have z : (y.add (i * 8)).add 0 = y.add (i * 8) := by unfold Addr.add; simp
        rw [z] at d1
        exact ⟨y, A1, A2, ⟨A4, A5, A6, A7, A8, A9⟩, rfl, ⟨d1, d2, d4, d5, d6, d7, d8, d9⟩, ⟨w1.2, (u64_wf w7.2).1, (u64_wf w8.2).1⟩⟩
theorem putsArg {H : Type} {enc : TypeId × Value → H} {W : World} {base : Nat} {spare : Nat → Bool} {held : Bool} {a : Option Addr} {len cap : Nat} {d : DataW H} {p : List MemPlace}
    (h : DataW.Trod enc Try.prog W base spare held 23 (.slice a len cap) d p) : ∀ i, i < len → ∃ x n s c, a = some x ∧ El8 W (x.add (i * 8)) n s c ∧ Op8 n c := by
  obtain ⟨fuel, hf⟩ := h
  exact putCells hf
theorem intCells {H : Type} {enc : TypeId × Value → H} {W : World} {base fuel : Nat} {spare : Nat → Bool} {held : Bool} {a : Option Addr} {len cap : Nat} {x : DataW H × List MemPlace}
    (h : DataW.trod enc Try.prog W base spare held fuel 22 [.slice a len cap] = some x) : ∀ i, i < len → ∃ x z, a = some x ∧ W.cell? (x.add i) = some (.int .i64 z) := by
  intro i hi
  rcases Deep.open_slice Try.underlying22 h with ⟨hcs, _⟩ | ⟨y, l, c, m, n, D, Pl, hcs, _, hl, _, hm, _, hx⟩
  · simp at hcs; omega
  · simp at hcs
    obtain ⟨rfl, rfl, rfl⟩ := hcs
    have hlm : len ≤ m := by rw [hm]; split <;> omega
    obtain ⟨cs', h1, h2⟩ := hx i (by omega)
    have ce : Try.prog.cellsOf 3 = 1 := by kernel_rfl
    rw [ce] at h1
    obtain ⟨_, hlen, hcell⟩ := World.cells?_some h1
    match cs', hlen with
    | [v0], _ =>
      obtain ⟨A0, e0, _⟩ := DataW.trod_int Try.underlying3 h2
      simp only [List.cons.injEq, and_true] at e0
      subst e0
      have d0 := hcell 0 (by omega)
      have z : (y.add (i * 1)).add 0 = y.add i := by unfold Addr.add; simp
      rw [z] at d0
      exact ⟨y, A0, rfl, d0⟩
theorem intsArg {H : Type} {enc : TypeId × Value → H} {W : World} {base : Nat} {spare : Nat → Bool} {held : Bool} {a : Option Addr} {len cap : Nat} {d : DataW H} {p : List MemPlace}
    (h : DataW.Trod enc Try.prog W base spare held 22 (.slice a len cap) d p) : ∀ i, i < len → ∃ x z, a = some x ∧ W.cell? (x.add i) = some (.int .i64 z) := by
  obtain ⟨fuel, hf⟩ := h
  exact intCells hf

end Go.Proofs.Ytakappaaiknpfaa
