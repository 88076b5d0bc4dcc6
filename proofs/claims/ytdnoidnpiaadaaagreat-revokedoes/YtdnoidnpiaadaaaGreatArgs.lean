/-
  WHAT COMES IN: a list of acts (donjonlaw10's Op, eighteen numbers), a capability, a list of numbers (written by mkargs.py).
-/
import Derived.Test.YtdnoidnpiaadaaaGreatG21
import Derived.Lib.SmallJoins
import Derived.Deep.Slices
import Derived.OpenShut
namespace Go.Proofs.YtdnoidnpiaadaaaGreat
set_option maxRecDepth 10000
open Go.ChangeShapes Go.WideShapes Go.ChangeAt Go.RowKit
set_option linter.unusedVariables false

theorem add_pos (y : Addr) (j : Nat) (h : j ≠ 0) : y.add j = ⟨y.block, y.off + j, none⟩ := by unfold Addr.add; rw [if_neg h]
theorem u64_lo {a : Int} (h : (Lit.int .u64 a).wf = true) : 0 ≤ a := by
  unfold Lit.wf at h
  rw [Bool.and_eq_true, decide_eq_true_eq, decide_eq_true_eq] at h
  have e1 : IntKind.u64.min = 0 := by decide
  rw [e1] at h
  omega

/-- An act's numbers. -/
structure Q where
  k : Int
  a : Int
  a2 : Int
  b : Int
  b2 : Int
  d : Int
  d2 : Int
  c : C
  n : Int
  rt : Int
  bd : Int
  gd : Int
  bt : Int
/-- An act in memory, from an address on. -/
structure El18 (w : World) (y : Addr) (q : Q) : Prop where
  at0 : w.cell? y = some (.int .i64 q.k)
  at1 : w.cell? ⟨y.block, y.off + 1, none⟩ = some (.int .i64 q.a)
  at2 : w.cell? ⟨y.block, y.off + 2, none⟩ = some (.int .i64 q.a2)
  at3 : w.cell? ⟨y.block, y.off + 3, none⟩ = some (.int .i64 q.b)
  at4 : w.cell? ⟨y.block, y.off + 4, none⟩ = some (.int .i64 q.b2)
  at5 : w.cell? ⟨y.block, y.off + 5, none⟩ = some (.int .i64 q.d)
  at6 : w.cell? ⟨y.block, y.off + 6, none⟩ = some (.int .i64 q.d2)
  at7 : w.cell? ⟨y.block, y.off + 7, none⟩ = some (.int .i64 q.c.k)
  at8 : w.cell? ⟨y.block, y.off + 8, none⟩ = some (.int .i64 q.c.o)
  at9 : w.cell? ⟨y.block, y.off + 9, none⟩ = some (.int .i64 q.c.r)
  at10 : w.cell? ⟨y.block, y.off + 10, none⟩ = some (.int .u64 q.c.b)
  at11 : w.cell? ⟨y.block, y.off + 11, none⟩ = some (.int .u64 q.c.g)
  at12 : w.cell? ⟨y.block, y.off + 12, none⟩ = some (.int .i64 q.c.n)
  at13 : w.cell? ⟨y.block, y.off + 13, none⟩ = some (.int .i64 q.n)
  at14 : w.cell? ⟨y.block, y.off + 14, none⟩ = some (.int .i64 q.rt)
  at15 : w.cell? ⟨y.block, y.off + 15, none⟩ = some (.int .u64 q.bd)
  at16 : w.cell? ⟨y.block, y.off + 16, none⟩ = some (.int .u64 q.gd)
  at17 : w.cell? ⟨y.block, y.off + 17, none⟩ = some (.int .i64 q.bt)
/-- Its numbers are numbers of their types. -/
structure Op18 (q : Q) : Prop where
  k : I64 q.k
  a : I64 q.a
  a2 : I64 q.a2
  b : I64 q.b
  b2 : I64 q.b2
  d : I64 q.d
  d2 : I64 q.d2
  n : I64 q.n
  cb : 0 ≤ q.c.b
  cg : 0 ≤ q.c.g
  bd : 0 ≤ q.bd
  gd : 0 ≤ q.gd
theorem El18.kept {w w' : World} {y : Addr} {q : Q} (h : El18 w y q) (g : w.grownBy w' none) : El18 w' y q :=
  ⟨g.cell h.at0 (by simp), g.cell h.at1 (by simp), g.cell h.at2 (by simp), g.cell h.at3 (by simp), g.cell h.at4 (by simp), g.cell h.at5 (by simp), g.cell h.at6 (by simp), g.cell h.at7 (by simp), g.cell h.at8 (by simp), g.cell h.at9 (by simp), g.cell h.at10 (by simp), g.cell h.at11 (by simp), g.cell h.at12 (by simp), g.cell h.at13 (by simp), g.cell h.at14 (by simp), g.cell h.at15 (by simp), g.cell h.at16 (by simp), g.cell h.at17 (by simp)⟩
/-- An act in a block of its own. -/
structure OBox (w : World) (x : Nat) (q : Q) : Prop where
  at0 : w.cell? ⟨x, 0, none⟩ = some (.int .i64 q.k)
  at1 : w.cell? ⟨x, 1, none⟩ = some (.int .i64 q.a)
  at2 : w.cell? ⟨x, 2, none⟩ = some (.int .i64 q.a2)
  at3 : w.cell? ⟨x, 3, none⟩ = some (.int .i64 q.b)
  at4 : w.cell? ⟨x, 4, none⟩ = some (.int .i64 q.b2)
  at5 : w.cell? ⟨x, 5, none⟩ = some (.int .i64 q.d)
  at6 : w.cell? ⟨x, 6, none⟩ = some (.int .i64 q.d2)
  at7 : w.cell? ⟨x, 7, none⟩ = some (.int .i64 q.c.k)
  at8 : w.cell? ⟨x, 8, none⟩ = some (.int .i64 q.c.o)
  at9 : w.cell? ⟨x, 9, none⟩ = some (.int .i64 q.c.r)
  at10 : w.cell? ⟨x, 10, none⟩ = some (.int .u64 q.c.b)
  at11 : w.cell? ⟨x, 11, none⟩ = some (.int .u64 q.c.g)
  at12 : w.cell? ⟨x, 12, none⟩ = some (.int .i64 q.c.n)
  at13 : w.cell? ⟨x, 13, none⟩ = some (.int .i64 q.n)
  at14 : w.cell? ⟨x, 14, none⟩ = some (.int .i64 q.rt)
  at15 : w.cell? ⟨x, 15, none⟩ = some (.int .u64 q.bd)
  at16 : w.cell? ⟨x, 16, none⟩ = some (.int .u64 q.gd)
  at17 : w.cell? ⟨x, 17, none⟩ = some (.int .i64 q.bt)
  lt : x < w.heap.size
theorem OBox.kept {w w' : World} {x : Nat} {q : Q} (h : OBox w x q) (g : w.grownBy w' none) : OBox w' x q :=
  ⟨g.cell h.at0 (by simp), g.cell h.at1 (by simp), g.cell h.at2 (by simp), g.cell h.at3 (by simp), g.cell h.at4 (by simp), g.cell h.at5 (by simp), g.cell h.at6 (by simp), g.cell h.at7 (by simp), g.cell h.at8 (by simp), g.cell h.at9 (by simp), g.cell h.at10 (by simp), g.cell h.at11 (by simp), g.cell h.at12 (by simp), g.cell h.at13 (by simp), g.cell h.at14 (by simp), g.cell h.at15 (by simp), g.cell h.at16 (by simp), g.cell h.at17 (by simp), Nat.lt_of_lt_of_le h.lt g.size⟩
theorem Fr.obox {O : Nat → Prop} {w w' : World} {x : Nat} {q : Q} (g : Fr O w w') (h : OBox w x q) (ho : ¬ O x) : OBox w' x q :=
  ⟨g.cell h.at0 ho, g.cell h.at1 ho, g.cell h.at2 ho, g.cell h.at3 ho, g.cell h.at4 ho, g.cell h.at5 ho, g.cell h.at6 ho, g.cell h.at7 ho, g.cell h.at8 ho, g.cell h.at9 ho, g.cell h.at10 ho, g.cell h.at11 ho, g.cell h.at12 ho, g.cell h.at13 ho, g.cell h.at14 ho, g.cell h.at15 ho, g.cell h.at16 ho, g.cell h.at17 ho, Nat.lt_of_lt_of_le h.lt g.size⟩
theorem oboxNew (w : World) (q : Q) : ∃ W, w.alloc (.cells #[.int .i64 q.k, .int .i64 q.a, .int .i64 q.a2, .int .i64 q.b, .int .i64 q.b2, .int .i64 q.d, .int .i64 q.d2, .int .i64 q.c.k, .int .i64 q.c.o, .int .i64 q.c.r, .int .u64 q.c.b, .int .u64 q.c.g, .int .i64 q.c.n, .int .i64 q.n, .int .i64 q.rt, .int .u64 q.bd, .int .u64 q.gd, .int .i64 q.bt] 33) = W ∧ OBox W w.heap.size q ∧ w.grownBy W none :=
  ⟨_, rfl, ⟨by simp, by simp, by simp, by simp, by simp, by simp, by simp, by simp, by simp, by simp, by simp, by simp, by simp, by simp, by simp, by simp, by simp, by simp, by simp⟩, gbAlloc _ _ _⟩
/-- An act that the parts do not have. -/
structure OB (wc : World) (Oc : Nat → Prop) (x : Nat) (q : Q) : Prop where
  ob : OBox wc x q
  no : ¬ Oc x
theorem OB.kept {wc wd : World} {Oc : Nat → Prop} {x : Nat} {q : Q} (h : OB wc Oc x q) (g : wc.grownBy wd none) : OB wd Oc x q := ⟨h.ob.kept g, h.no⟩
theorem OB.call {wc wd : World} {Oc : Nat → Prop} {x : Nat} {q : Q} (h : OB wc Oc x q) (F : Fr Oc wc wd) : OB wd (wide Oc wc wd) x q := ⟨F.obox h.ob h.no, wideNo h.no h.ob.lt⟩

theorem opCells {H : Type} {enc : TypeId × Value → H} {W : World} {base fuel : Nat} {spare : Nat → Bool} {held : Bool} {a : Option Addr} {len cap : Nat} {x : DataW H × List MemPlace}
    (h : DataW.trod enc Tryz.prog W base spare held fuel 22 [.slice a len cap] = some x) : ∀ i, i < len → ∃ x q, a = some x ∧ El18 W (x.add (i * 18)) q ∧ Op18 q := by
  intro i hi
  rcases Deep.open_slice Tryz.underlying22 h with ⟨hcs, _⟩ | ⟨y, l, c, m, n, D, Pl, hcs, _, hl, _, hm, _, hx⟩
  · simp at hcs; omega
  · simp at hcs
    obtain ⟨rfl, rfl, rfl⟩ := hcs
    have hlm : len ≤ m := by rw [hm]; split <;> omega
    obtain ⟨cs', h1, h2⟩ := hx i (by omega)
    have ce : Tryz.prog.cellsOf 33 = 18 := by kernel_rfl
    rw [ce] at h1
    obtain ⟨_, hlen, hcell⟩ := World.cells?_some h1
    obtain ⟨xs, k, hk, hxy, _, hxl, hf⟩ := DataW.trod_struct Tryz.underlying33 h2
    have c1 : Tryz.prog.cellsOf 3 = 1 := by kernel_rfl
    have cu : Tryz.prog.cellsOf 23 = 1 := by kernel_rfl
    have c2 : Tryz.prog.cellsOf 31 = 2 := by kernel_rfl
    have c6 : Tryz.prog.cellsOf 25 = 6 := by kernel_rfl
    match xs, hxl, cs', hlen with
    | [y0, y1, y2, y3, y4, y5, y6, y7, y8, y9], _, [v0, v1, v2, v3, v4, v5, v6, v7, v8, v9, v10, v11, v12, v13, v14, v15, v16, v17], _ =>
      have g0 : DataW.trod enc Tryz.prog W base spare held k 3 [v0] = some y0 := by have := hf 0 _ rfl; simpa [c1, c2, c6, cu] using this
      have g1 : DataW.trod enc Tryz.prog W base spare held k 31 [v1, v2] = some y1 := by have := hf 1 _ rfl; simpa [c1, c2, c6, cu] using this
      have g2 : DataW.trod enc Tryz.prog W base spare held k 31 [v3, v4] = some y2 := by have := hf 2 _ rfl; simpa [c1, c2, c6, cu] using this
      have g3 : DataW.trod enc Tryz.prog W base spare held k 31 [v5, v6] = some y3 := by have := hf 3 _ rfl; simpa [c1, c2, c6, cu] using this
      have g4 : DataW.trod enc Tryz.prog W base spare held k 25 [v7, v8, v9, v10, v11, v12] = some y4 := by have := hf 4 _ rfl; simpa [c1, c2, c6, cu] using this
      have g5 : DataW.trod enc Tryz.prog W base spare held k 3 [v13] = some y5 := by have := hf 5 _ rfl; simpa [c1, c2, c6, cu] using this
      have g6 : DataW.trod enc Tryz.prog W base spare held k 3 [v14] = some y6 := by have := hf 6 _ rfl; simpa [c1, c2, c6, cu] using this
      have g7 : DataW.trod enc Tryz.prog W base spare held k 23 [v15] = some y7 := by have := hf 7 _ rfl; simpa [c1, c2, c6, cu] using this
      have g8 : DataW.trod enc Tryz.prog W base spare held k 23 [v16] = some y8 := by have := hf 8 _ rfl; simpa [c1, c2, c6, cu] using this
      have g9 : DataW.trod enc Tryz.prog W base spare held k 3 [v17] = some y9 := by have := hf 9 _ rfl; simpa [c1, c2, c6, cu] using this
      obtain ⟨xs1, k1, hk1, _, _, hxl1, hf1⟩ := DataW.trod_struct Tryz.underlying31 g1
      obtain ⟨xs2, k2, hk2, _, _, hxl2, hf2⟩ := DataW.trod_struct Tryz.underlying31 g2
      obtain ⟨xs3, k3, hk3, _, _, hxl3, hf3⟩ := DataW.trod_struct Tryz.underlying31 g3
      obtain ⟨xs4, k4, hk4, _, _, hxl4, hf4⟩ := DataW.trod_struct Tryz.underlying25 g4
      match xs1, hxl1, xs2, hxl2, xs3, hxl3, xs4, hxl4 with
      | [p0, p1], _, [p2, p3], _, [p4, p5], _, [q0, q1, q2, q3, q4, q5], _ =>
        have s1 : DataW.trod enc Tryz.prog W base spare held k1 3 [v1] = some p0 := by have := hf1 0 _ rfl; simpa [c1] using this
        have s2 : DataW.trod enc Tryz.prog W base spare held k1 3 [v2] = some p1 := by have := hf1 1 _ rfl; simpa [c1] using this
        have s3 : DataW.trod enc Tryz.prog W base spare held k2 3 [v3] = some p2 := by have := hf2 0 _ rfl; simpa [c1] using this
        have s4 : DataW.trod enc Tryz.prog W base spare held k2 3 [v4] = some p3 := by have := hf2 1 _ rfl; simpa [c1] using this
        have s5 : DataW.trod enc Tryz.prog W base spare held k3 3 [v5] = some p4 := by have := hf3 0 _ rfl; simpa [c1] using this
        have s6 : DataW.trod enc Tryz.prog W base spare held k3 3 [v6] = some p5 := by have := hf3 1 _ rfl; simpa [c1] using this
        have s7 : DataW.trod enc Tryz.prog W base spare held k4 3 [v7] = some q0 := by have := hf4 0 _ rfl; simpa [c1, cu] using this
        have s8 : DataW.trod enc Tryz.prog W base spare held k4 3 [v8] = some q1 := by have := hf4 1 _ rfl; simpa [c1, cu] using this
        have s9 : DataW.trod enc Tryz.prog W base spare held k4 3 [v9] = some q2 := by have := hf4 2 _ rfl; simpa [c1, cu] using this
        have s10 : DataW.trod enc Tryz.prog W base spare held k4 23 [v10] = some q3 := by have := hf4 3 _ rfl; simpa [c1, cu] using this
        have s11 : DataW.trod enc Tryz.prog W base spare held k4 23 [v11] = some q4 := by have := hf4 4 _ rfl; simpa [c1, cu] using this
        have s12 : DataW.trod enc Tryz.prog W base spare held k4 3 [v12] = some q5 := by have := hf4 5 _ rfl; simpa [c1, cu] using this
        obtain ⟨A0, e0, w0⟩ := DataW.trod_int Tryz.underlying3 g0
        obtain ⟨A1, e1, w1⟩ := DataW.trod_int Tryz.underlying3 s1
        obtain ⟨A2, e2, w2⟩ := DataW.trod_int Tryz.underlying3 s2
        obtain ⟨A3, e3, w3⟩ := DataW.trod_int Tryz.underlying3 s3
        obtain ⟨A4, e4, w4⟩ := DataW.trod_int Tryz.underlying3 s4
        obtain ⟨A5, e5, w5⟩ := DataW.trod_int Tryz.underlying3 s5
        obtain ⟨A6, e6, w6⟩ := DataW.trod_int Tryz.underlying3 s6
        obtain ⟨A7, e7, w7⟩ := DataW.trod_int Tryz.underlying3 s7
        obtain ⟨A8, e8, w8⟩ := DataW.trod_int Tryz.underlying3 s8
        obtain ⟨A9, e9, w9⟩ := DataW.trod_int Tryz.underlying3 s9
        obtain ⟨A10, e10, w10⟩ := DataW.trod_int Tryz.underlying23 s10
        obtain ⟨A11, e11, w11⟩ := DataW.trod_int Tryz.underlying23 s11
        obtain ⟨A12, e12, w12⟩ := DataW.trod_int Tryz.underlying3 s12
        obtain ⟨A13, e13, w13⟩ := DataW.trod_int Tryz.underlying3 g5
        obtain ⟨A14, e14, w14⟩ := DataW.trod_int Tryz.underlying3 g6
        obtain ⟨A15, e15, w15⟩ := DataW.trod_int Tryz.underlying23 g7
        obtain ⟨A16, e16, w16⟩ := DataW.trod_int Tryz.underlying23 g8
        obtain ⟨A17, e17, w17⟩ := DataW.trod_int Tryz.underlying3 g9
        simp only [List.cons.injEq, and_true] at e0 e1 e2 e3 e4 e5 e6 e7 e8 e9 e10 e11 e12 e13 e14 e15 e16 e17
        subst e0; subst e1; subst e2; subst e3; subst e4; subst e5; subst e6; subst e7; subst e8; subst e9; subst e10; subst e11; subst e12; subst e13; subst e14; subst e15; subst e16; subst e17
        have d0 := hcell 0 (by omega)
        have d1 := hcell 1 (by omega)
        have d2 := hcell 2 (by omega)
        have d3 := hcell 3 (by omega)
        have d4 := hcell 4 (by omega)
        have d5 := hcell 5 (by omega)
        have d6 := hcell 6 (by omega)
        have d7 := hcell 7 (by omega)
        have d8 := hcell 8 (by omega)
        have d9 := hcell 9 (by omega)
        have d10 := hcell 10 (by omega)
        have d11 := hcell 11 (by omega)
        have d12 := hcell 12 (by omega)
        have d13 := hcell 13 (by omega)
        have d14 := hcell 14 (by omega)
        have d15 := hcell 15 (by omega)
        have d16 := hcell 16 (by omega)
        have d17 := hcell 17 (by omega)
        rw [add_pos _ _ (by decide)] at d1 d2 d3 d4 d5 d6 d7 d8 d9 d10 d11 d12 d13 d14 d15 d16 d17
        have z : (y.add (i * 18)).add 0 = y.add (i * 18) := by unfold Addr.add; simp
        rw [z] at d0
        exact ⟨y, ⟨A0, A1, A2, A3, A4, A5, A6, ⟨A7, A8, A9, A10, A11, A12⟩, A13, A14, A15, A16, A17⟩, rfl, ⟨d0, d1, d2, d3, d4, d5, d6, d7, d8, d9, d10, d11, d12, d13, d14, d15, d16, d17⟩, ⟨w0.2, w1.2, w2.2, w3.2, w4.2, w5.2, w6.2, w13.2, u64_lo w10.2, u64_lo w11.2, u64_lo w15.2, u64_lo w16.2⟩⟩

/-- A list that comes in: each of its elements lies where it lies. -/
theorem opsArg {H : Type} {enc : TypeId × Value → H} {W : World} {base : Nat} {spare : Nat → Bool} {held : Bool} {a : Option Addr} {len cap : Nat} {d : DataW H} {p : List MemPlace}
    (h : DataW.Trod enc Tryz.prog W base spare held 22 (.slice a len cap) d p) : ∀ i, i < len → ∃ x q, a = some x ∧ El18 W (x.add (i * 18)) q ∧ Op18 q := by
  obtain ⟨fuel, hf⟩ := h
  exact opCells hf

theorem capArg {H : Type} {enc : TypeId × Value → H} {W : World} {r : Reach} {b0 base : Nat} {spare : Nat → Bool} {held : Bool} {v : Value} {d : DataW H} {p : List MemPlace}
    (hv : Value.okWide Tryz.prog W r b0 25 v) (h : DataW.Trod enc Tryz.prog W base spare held 25 v d p) : ∃ k o r b g n : Int, v = cv ⟨k, o, r, b, g, n⟩ ∧ I64 o ∧ 0 ≤ b ∧ 0 ≤ g := by
  obtain ⟨cs, rfl, hsz⟩ := okWide_struct Tryz.underlying25 hv
  have ce : Tryz.prog.cellsOf 25 = 6 := by kernel_rfl
  rw [ce] at hsz
  obtain ⟨fuel, hf⟩ := h
  obtain ⟨xs, k, _, _, _, hxl, hf⟩ := DataW.trod_struct Tryz.underlying25 hf
  have c3 : Tryz.prog.cellsOf 3 = 1 := by kernel_rfl
  have c4 : Tryz.prog.cellsOf 23 = 1 := by kernel_rfl
  obtain ⟨l⟩ := cs
  match xs, hxl, l, hsz with
  | [y0, y1, y2, y3, y4, y5], _, [v0, v1, v2, v3, v4, v5], _ =>
    have g0 : DataW.trod enc Tryz.prog W base spare held k 3 [v0] = some y0 := by have := hf 0 _ rfl; simpa [c3, Value.cells] using this
    have g1 : DataW.trod enc Tryz.prog W base spare held k 3 [v1] = some y1 := by have := hf 1 _ rfl; simpa [c3, Value.cells] using this
    have g2 : DataW.trod enc Tryz.prog W base spare held k 3 [v2] = some y2 := by have := hf 2 _ rfl; simpa [c3, Value.cells] using this
    have g3 : DataW.trod enc Tryz.prog W base spare held k 23 [v3] = some y3 := by have := hf 3 _ rfl; simpa [c4, Value.cells] using this
    have g4 : DataW.trod enc Tryz.prog W base spare held k 23 [v4] = some y4 := by have := hf 4 _ rfl; simpa [c4, Value.cells] using this
    have g5 : DataW.trod enc Tryz.prog W base spare held k 3 [v5] = some y5 := by have := hf 5 _ rfl; simpa [c3, Value.cells] using this
    obtain ⟨A0, e0, _⟩ := DataW.trod_int Tryz.underlying3 g0
    obtain ⟨A1, e1, _, f1⟩ := DataW.trod_int Tryz.underlying3 g1
    obtain ⟨A2, e2, _⟩ := DataW.trod_int Tryz.underlying3 g2
    obtain ⟨A3, e3, _, f3⟩ := DataW.trod_int Tryz.underlying23 g3
    obtain ⟨A4, e4, _, f4⟩ := DataW.trod_int Tryz.underlying23 g4
    obtain ⟨A5, e5, _⟩ := DataW.trod_int Tryz.underlying3 g5
    simp only [List.cons.injEq, and_true] at e0 e1 e2 e3 e4 e5
    subst e0 e1 e2 e3 e4 e5
    exact ⟨A0, A1, A2, A3, A4, A5, rfl, f1, u64_lo f3, u64_lo f4⟩


end Go.Proofs.YtdnoidnpiaadaaaGreat
