/-
  WHAT A ROUND OF THE LAW READS: the two pointers and the act.
-/
import Derived.Test.YtdnoidnpiaadaaaGreatH2
import Derived.Test.YtdnoidnpiaadaaaGreatGd
import Derived.Test.YtdnoidnpiaadaaaGreatH1
import Derived.Lib.SmallJoins
import Derived.Deep.Slices
import Derived.OpenShut
import Derived.Deep.MidRow
namespace Go.Proofs.YtdnoidnpiaadaaaGreat
set_option maxRecDepth 10000
open Go.RowKit
set_option linter.unusedVariables false

theorem Bf.obox {P R P' R' : Nat → Prop} {w w' : World} {x : Nat} {q : Q} (h : Bf P R w w' P' R') (X : OBox w x q) (n : Nb w P R x) : OBox w' x q := h.fr.obox X (fun e => e.elim n.np n.nr)

theorem act_ex {w0 w : World} {P R : Nat → Prop} {p s t m q : Nat} {S : St} {f : T9.Fo} (B : Bh w0 w P R p s t m q S f S f) (I : M.Inv S f) (k a a2 b b2 d d2 ck co cr cb cg cn n rt bd gd bt : Int) (o : Op18 ⟨k, a, a2, b, b2, d, d2, ⟨ck, co, cr, cb, cg, cn⟩, n, rt, bd, gd, bt⟩) (hm : m ≤ 1000) (hl : f.len ≤ 59) :
    Calls Tryz.prog 7 #[.pointer (some ⟨p, 0, none⟩), .pointer (some ⟨q, 0, none⟩), .agg #[.int .i64 k, .int .i64 a, .int .i64 a2, .int .i64 b, .int .i64 b2, .int .i64 d, .int .i64 d2, .int .i64 ck, .int .i64 co, .int .i64 cr, .int .u64 cb, .int .u64 cg, .int .i64 cn, .int .i64 n, .int .i64 rt, .int .u64 bd, .int .u64 gd, .int .i64 bt]] w
      fun e w' => ∃ P' R' m' S' f', e = .returned (.bool true) ∧ Bh w0 w' P' R' p s t m' q S' f' S' f' ∧ M.Inv S' f' ∧ f'.len ≤ f.len + 1 ∧ m' ≤ m + 1 ∧ Bf P R w w' P' R' :=
  act_is B I ⟨k, a, a2, b, b2, d, d2, ⟨ck, co, cr, cb, cg, cn⟩, n, rt, bd, gd, bt⟩ o hm hl

end Go.Proofs.YtdnoidnpiaadaaaGreat

-- The act's load, as a law of its own, for a region by plan.
namespace Go.Proofs.YtdnoidnpiaadaaaGreat
set_option maxRecDepth 10000
open Go.RowKit
end Go.Proofs.YtdnoidnpiaadaaaGreat

/-
  AN ACT OF donjonlaw11: donjonlaw10's eighteen cells and one more (written by mkop9.py).
-/
namespace Go.Proofs.YtdnoidnpiaadaaaGreat
set_option maxRecDepth 10000
open Go.ChangeShapes Go.WideShapes Go.ChangeAt Go.RowKit
set_option linter.unusedVariables false

theorem opCells9 {H : Type} {enc : TypeId × Value → H} {W : World} {base fuel : Nat} {spare : Nat → Bool} {held : Bool} {a : Option Addr} {len cap : Nat} {x : DataW H × List MemPlace}
    (h : DataW.trod enc Tryz.prog W base spare held fuel 62 [.slice a len cap] = some x) : ∀ i, i < len → ∃ x q st, a = some x ∧ El18 W (x.add (i * 19)) q ∧ W.cell? ⟨(x.add (i * 19)).block, (x.add (i * 19)).off + 18, none⟩ = some (.int .i64 st) ∧ Op18 q ∧ I64 st := by
  intro i hi
  rcases Deep.open_slice Tryz.underlying62 h with ⟨hcs, _⟩ | ⟨y, l, c, m, n, D, Pl, hcs, _, hl, _, hm, _, hx⟩
  · simp at hcs; omega
  · simp at hcs
    obtain ⟨rfl, rfl, rfl⟩ := hcs
    have hlm : len ≤ m := by rw [hm]; split <;> omega
    obtain ⟨cs', h1, h2⟩ := hx i (by omega)
    have ce : Tryz.prog.cellsOf 64 = 19 := by kernel_rfl
    have ce' : Tryz.prog.cellsOf 33 = 18 := by kernel_rfl
    rw [ce] at h1
    obtain ⟨_, hlen, hcell⟩ := World.cells?_some h1
    obtain ⟨xs0, k0, hk0, _, _, hxl0, hf0⟩ := DataW.trod_struct Tryz.underlying64 h2
    have c1 : Tryz.prog.cellsOf 3 = 1 := by kernel_rfl
    have cu : Tryz.prog.cellsOf 23 = 1 := by kernel_rfl
    have c2 : Tryz.prog.cellsOf 31 = 2 := by kernel_rfl
    have c6 : Tryz.prog.cellsOf 25 = 6 := by kernel_rfl
    match xs0, hxl0, cs', hlen with
    | [Y0, Y1], _, [v0, v1, v2, v3, v4, v5, v6, v7, v8, v9, v10, v11, v12, v13, v14, v15, v16, v17, v18], _ =>
    have G0 : DataW.trod enc Tryz.prog W base spare held k0 33 [v0, v1, v2, v3, v4, v5, v6, v7, v8, v9, v10, v11, v12, v13, v14, v15, v16, v17] = some Y0 := by have := hf0 0 _ rfl; simpa [ce'] using this
    have G1 : DataW.trod enc Tryz.prog W base spare held k0 3 [v18] = some Y1 := by have := hf0 1 _ rfl; simpa [c1] using this
    obtain ⟨xs, k, hk, hxy, _, hxl, hf⟩ := DataW.trod_struct Tryz.underlying33 G0
    match xs, hxl with
    | [y0, y1, y2, y3, y4, y5, y6, y7, y8, y9], _ =>
      have g0 : DataW.trod enc Tryz.prog W base spare held k 3 [v0] = some y0 := by have := hf 0 _ rfl; simpa [c1, c2, c6, cu] using this
      have g1 : DataW.trod enc Tryz.prog W base spare held k 31 [v1, v2] = some y1 := by have := hf 1 _ rfl; simpa [c1, c2, c6, cu] using this
      have g2 : DataW.trod enc Tryz.prog W base spare held k 31 [v3, v4] = some y2 := by have := hf 2 _ rfl; simpa [c1, c2, c6, cu] using this
      have g3 : DataW.trod enc Tryz.prog W base spare held k 31 [v5, v6] = some y3 := by have := hf 3 _ rfl; simpa [c1, c2, c6, cu] using this
      have g4 : DataW.trod enc Tryz.prog W base spare held k 25 [v7, v8, v9, v10, v11, v12] = some y4 := by have := hf 4 _ rfl; simpa [c1, c2, c6, cu] using this
      have g5 : DataW.trod enc Tryz.prog W base spare held k 3 [v13] = some y5 := by have := hf 5 _ rfl; simpa [c1, c2, c6, cu] using this
      have g6 : DataW.trod enc Tryz.prog W base spare held k 3 [v14] = some y6 := by have := hf 6 _ rfl; simpa [c1, c2, c6, cu] using this
      have g7 : DataW.trod enc Tryz.prog W base spare held k 23 [v15] = some y7 := by have := hf 7 _ rfl; simpa [c1, c2, c6, cu] using this
      have g8 : DataW.trod enc Tryz.prog W base spare held k 23 [v16] = some y8 := by have := hf 8 _ rfl; simpa [c1, c2, c6, cu] using this
      have g9 : DataW.trod enc Tryz.prog W base spare held k 3 [v17] = some y9 := by have := hf 9 _ rfl; simpa [c1, c2, c6, cu] using this
      obtain ⟨xs1, k1, hk1, _, _, hxl1, hf1⟩ := DataW.trod_struct Tryz.underlying31 g1
      obtain ⟨xs2, k2, hk2, _, _, hxl2, hf2⟩ := DataW.trod_struct Tryz.underlying31 g2
      obtain ⟨xs3, k3, hk3, _, _, hxl3, hf3⟩ := DataW.trod_struct Tryz.underlying31 g3
      obtain ⟨xs4, k4, hk4, _, _, hxl4, hf4⟩ := DataW.trod_struct Tryz.underlying25 g4
      match xs1, hxl1, xs2, hxl2, xs3, hxl3, xs4, hxl4 with
      | [p0, p1], _, [p2, p3], _, [p4, p5], _, [q0, q1, q2, q3, q4, q5], _ =>
        have s1 : DataW.trod enc Tryz.prog W base spare held k1 3 [v1] = some p0 := by have := hf1 0 _ rfl; simpa [c1] using this
        have s2 : DataW.trod enc Tryz.prog W base spare held k1 3 [v2] = some p1 := by have := hf1 1 _ rfl; simpa [c1] using this
        have s3 : DataW.trod enc Tryz.prog W base spare held k2 3 [v3] = some p2 := by have := hf2 0 _ rfl; simpa [c1] using this
        have s4 : DataW.trod enc Tryz.prog W base spare held k2 3 [v4] = some p3 := by have := hf2 1 _ rfl; simpa [c1] using this
        have s5 : DataW.trod enc Tryz.prog W base spare held k3 3 [v5] = some p4 := by have := hf3 0 _ rfl; simpa [c1] using this
        have s6 : DataW.trod enc Tryz.prog W base spare held k3 3 [v6] = some p5 := by have := hf3 1 _ rfl; simpa [c1] using this
        have s7 : DataW.trod enc Tryz.prog W base spare held k4 3 [v7] = some q0 := by have := hf4 0 _ rfl; simpa [c1, cu] using this
        have s8 : DataW.trod enc Tryz.prog W base spare held k4 3 [v8] = some q1 := by have := hf4 1 _ rfl; simpa [c1, cu] using this
        have s9 : DataW.trod enc Tryz.prog W base spare held k4 3 [v9] = some q2 := by have := hf4 2 _ rfl; simpa [c1, cu] using this
        have s10 : DataW.trod enc Tryz.prog W base spare held k4 23 [v10] = some q3 := by have := hf4 3 _ rfl; simpa [c1, cu] using this
        have s11 : DataW.trod enc Tryz.prog W base spare held k4 23 [v11] = some q4 := by have := hf4 4 _ rfl; simpa [c1, cu] using this
        have s12 : DataW.trod enc Tryz.prog W base spare held k4 3 [v12] = some q5 := by have := hf4 5 _ rfl; simpa [c1, cu] using this
        obtain ⟨A0, e0, w0⟩ := DataW.trod_int Tryz.underlying3 g0
        obtain ⟨A1, e1, w1⟩ := DataW.trod_int Tryz.underlying3 s1
        obtain ⟨A2, e2, w2⟩ := DataW.trod_int Tryz.underlying3 s2
        obtain ⟨A3, e3, w3⟩ := DataW.trod_int Tryz.underlying3 s3
        obtain ⟨A4, e4, w4⟩ := DataW.trod_int Tryz.underlying3 s4
        obtain ⟨A5, e5, w5⟩ := DataW.trod_int Tryz.underlying3 s5
        obtain ⟨A6, e6, w6⟩ := DataW.trod_int Tryz.underlying3 s6
        obtain ⟨A7, e7, w7⟩ := DataW.trod_int Tryz.underlying3 s7
        obtain ⟨A8, e8, w8⟩ := DataW.trod_int Tryz.underlying3 s8
        obtain ⟨A9, e9, w9⟩ := DataW.trod_int Tryz.underlying3 s9
        obtain ⟨A10, e10, w10⟩ := DataW.trod_int Tryz.underlying23 s10
        obtain ⟨A11, e11, w11⟩ := DataW.trod_int Tryz.underlying23 s11
        obtain ⟨A12, e12, w12⟩ := DataW.trod_int Tryz.underlying3 s12
        obtain ⟨A13, e13, w13⟩ := DataW.trod_int Tryz.underlying3 g5
        obtain ⟨A14, e14, w14⟩ := DataW.trod_int Tryz.underlying3 g6
        obtain ⟨A15, e15, w15⟩ := DataW.trod_int Tryz.underlying23 g7
        obtain ⟨A16, e16, w16⟩ := DataW.trod_int Tryz.underlying23 g8
        obtain ⟨A17, e17, w17⟩ := DataW.trod_int Tryz.underlying3 g9
        obtain ⟨A18, e18, w18⟩ := DataW.trod_int Tryz.underlying3 G1
        simp only [List.cons.injEq, and_true] at e0 e1 e2 e3 e4 e5 e6 e7 e8 e9 e10 e11 e12 e13 e14 e15 e16 e17 e18
        subst e0; subst e1; subst e2; subst e3; subst e4; subst e5; subst e6; subst e7; subst e8; subst e9; subst e10; subst e11; subst e12; subst e13; subst e14; subst e15; subst e16; subst e17; subst e18
        have d0 := hcell 0 (by omega)
        have d1 := hcell 1 (by omega)
        have d2 := hcell 2 (by omega)
        have d3 := hcell 3 (by omega)
        have d4 := hcell 4 (by omega)
        have d5 := hcell 5 (by omega)
        have d6 := hcell 6 (by omega)
        have d7 := hcell 7 (by omega)
        have d8 := hcell 8 (by omega)
        have d9 := hcell 9 (by omega)
        have d10 := hcell 10 (by omega)
        have d11 := hcell 11 (by omega)
        have d12 := hcell 12 (by omega)
        have d13 := hcell 13 (by omega)
        have d14 := hcell 14 (by omega)
        have d15 := hcell 15 (by omega)
        have d16 := hcell 16 (by omega)
        have d17 := hcell 17 (by omega)
        have d18 := hcell 18 (by omega)
        rw [add_pos _ _ (by decide)] at d1 d2 d3 d4 d5 d6 d7 d8 d9 d10 d11 d12 d13 d14 d15 d16 d17 d18
        have z : (y.add (i * 19)).add 0 = y.add (i * 19) := by unfold Addr.add; simp
        rw [z] at d0
        exact ⟨y, ⟨A0, A1, A2, A3, A4, A5, A6, ⟨A7, A8, A9, A10, A11, A12⟩, A13, A14, A15, A16, A17⟩, A18, rfl, ⟨d0, d1, d2, d3, d4, d5, d6, d7, d8, d9, d10, d11, d12, d13, d14, d15, d16, d17⟩, d18, ⟨w0.2, w1.2, w2.2, w3.2, w4.2, w5.2, w6.2, w13.2, u64_lo w10.2, u64_lo w11.2, u64_lo w15.2, u64_lo w16.2⟩, w18.2⟩

/-- A list that comes in: each of its elements lies where it lies. -/
theorem opsArg9 {H : Type} {enc : TypeId × Value → H} {W : World} {base : Nat} {spare : Nat → Bool} {held : Bool} {a : Option Addr} {len cap : Nat} {d : DataW H} {p : List MemPlace}
    (h : DataW.Trod enc Tryz.prog W base spare held 62 (.slice a len cap) d p) : ∀ i, i < len → ∃ x q st, a = some x ∧ El18 W (x.add (i * 19)) q ∧ W.cell? ⟨(x.add (i * 19)).block, (x.add (i * 19)).off + 18, none⟩ = some (.int .i64 st) ∧ Op18 q ∧ I64 st := by
  obtain ⟨fuel, hf⟩ := h
  exact opCells9 hf

def qcs9 (q : Q) (st : Int) : List Value := [.int .i64 q.k, .int .i64 q.a, .int .i64 q.a2, .int .i64 q.b, .int .i64 q.b2, .int .i64 q.d, .int .i64 q.d2, .int .i64 q.c.k, .int .i64 q.c.o, .int .i64 q.c.r, .int .u64 q.c.b, .int .u64 q.c.g, .int .i64 q.c.n, .int .i64 q.n, .int .i64 q.rt, .int .u64 q.bd, .int .u64 q.gd, .int .i64 q.bt, .int .i64 st]
theorem qcs9_len (q : Q) (st : Int) : (qcs9 q st).length = 19 := rfl
theorem qcs9_lo (q : Q) (st : Int) {j : Nat} (h : j < 18) : (qcs9 q st)[j]? = (qcs q)[j]? := by
  have e : qcs9 q st = qcs q ++ [.int .i64 st] := rfl
  rw [e, List.getElem?_append_left (by rw [qcs_len]; exact h)]
/-- An act in memory, from an address on. -/
structure El19 (w : World) (y : Addr) (q : Q) (st : Int) : Prop where
  el : El18 w y q
  st : w.cell? ⟨y.block, y.off + 18, none⟩ = some (.int .i64 st)
theorem El19.kept {w w' : World} {y : Addr} {q : Q} {st : Int} (h : El19 w y q st) (g : w.grownBy w' none) : El19 w' y q st := ⟨h.el.kept g, g.cell h.st (by simp)⟩
theorem El19.all {w : World} {y : Addr} {q : Q} {st : Int} (h : El19 w y q st) : ∀ j v, (qcs9 q st)[j]? = some v → w.cell? (y.add j) = some v := by
  intro j v hv
  by_cases hj : j < 18
  · rw [qcs9_lo q st hj] at hv
    exact h.el.all j v hv
  · have hj2 : j < 19 := by have := (List.getElem?_eq_some_iff.1 hv).1; rw [qcs9_len] at this; exact this
    obtain rfl : j = 18 := by omega
    rw [add_pos _ _ (by decide)]
    cases hv
    exact h.st
theorem run_load_op9 {w : World} {y : Addr} {q : Q} {st : Int} (h : El19 w y q st) : (Instr.loadAt 64 (.pointer (some y))).run Tryz.prog w = .ok (.agg (qcs9 q st).toArray) w := by
  have hl : (loadCells y (qcs9 q st).length).run Tryz.prog w = .ok (qcs9 q st).toArray w := run_loadCells_list (P := Tryz.prog) w y (qcs9 q st) h.all
  have hi : (Tryz.prog.info? 64).map (·.size) = some 19 := by kernel_rfl
  cases hq : Tryz.prog.info? 64 with
  | none => simp [hq] at hi
  | some i =>
    have hs : i.size = (qcs9 q st).length := by rw [qcs9_len]; simpa [hq] using hi
    have hagg : (isAgg 64).run Tryz.prog w = .ok true w := by
      unfold isAgg
      rw [Sem.run_bind, run_underlying Tryz.underlying64 w]
      rfl
    simp only [Instr.loadAt, Instr.sureAddr, Sem.run_bind, Sem.run_pure, Result.andThen_ok]
    simp [loadVar, Sem.run_bind, hagg, sizeOf, typeInfo, hq, hs, hl]
theorem wpList_load_op9 {w : World} {ops : Array Oper} {rest : List Oper} {o : Oper} {a : Act} {Q' : Exit → Act → World → Prop} (hg : o.guard = none) (x : Operand) (ho : o.op = .load 64 x)
    (y : Addr) (q : Q) (st : Int) (hx : a.eval x = .pointer (some y)) (hl : El19 w y q st)
    (h : wpList Tryz.prog ops Q' rest (a.put o.dst (.agg (qcs9 q st).toArray)) w) : wpList Tryz.prog ops Q' (o :: rest) a w :=
  wpList_plain hg fun K' hK' => by
    unfold Oper.wp execOp
    simp only [ho, hx, Sem.run_bind, run_load_op9 hl, Result.andThen_ok, Sem.run_pure]
    exact hK' _ _ h
theorem qcs9_one (q : Q) (st : Int) : ∀ v ∈ qcs9 q st, v.oneCell' = true := by
  intro v hv
  have e : qcs9 q st = qcs q ++ [.int .i64 st] := rfl
  rw [e, List.mem_append] at hv
  rcases hv with hv | hv
  · exact qcs_one q v hv
  · rw [List.mem_singleton] at hv; subst hv; rfl
/-- An act in a block of its own. -/
structure OBox9 (w : World) (x : Nat) (q : Q) (st : Int) : Prop where
  ob : OBox w x q
  st : w.cell? ⟨x, 18, none⟩ = some (.int .i64 st)
theorem OBox9.kept {w w' : World} {x : Nat} {q : Q} {st : Int} (h : OBox9 w x q st) (g : w.grownBy w' none) : OBox9 w' x q st := ⟨h.ob.kept g, g.cell h.st (by simp)⟩
theorem Fr.obox9 {O : Nat → Prop} {w w' : World} {x : Nat} {q : Q} {st : Int} (g : Fr O w w') (h : OBox9 w x q st) (ho : ¬ O x) : OBox9 w' x q st := ⟨g.obox h.ob ho, g.cell h.st ho⟩
theorem OBox9.el {w : World} {x : Nat} {q : Q} {st : Int} (h : OBox9 w x q st) : El18 w ⟨x, 0, none⟩ q :=
  ⟨h.ob.at0, h.ob.at1, h.ob.at2, h.ob.at3, h.ob.at4, h.ob.at5, h.ob.at6, h.ob.at7, h.ob.at8, h.ob.at9, h.ob.at10, h.ob.at11, h.ob.at12, h.ob.at13, h.ob.at14, h.ob.at15, h.ob.at16, h.ob.at17⟩
theorem wpList_store_op9 {w : World} {ops : Array Oper} {rest : List Oper} {o : Oper} {a : Act} {Q' : Exit → Act → World → Prop} (hgd : o.guard = none) (x y : Operand) (ho : o.op = .store 64 x y)
    (b : Nat) (q : Q) (st : Int) (hx : a.eval x = .pointer (some ⟨b, 0, none⟩)) (hy : a.eval y = .agg (qcs9 q st).toArray) (ht : w.there b 0 19) (hb : b < w.heap.size)
    (h : ∀ W, OBox9 W b q st → w.grownBy W (some b) → wpList Tryz.prog ops Q' rest (a.put o.dst undef) W) : wpList Tryz.prog ops Q' (o :: rest) a w := by
  refine wpList_store_mid hgd 64 x y ho b 0 (qcs9 q st).toArray hx hy ht (by kernel_rfl) (all_oneCell_toArray (qcs9_one q st)) ?_
  have G := gbSetCells b (qcs9 q st) 0 w
  have R := World.rangeAt_setCells_same w b 0 (qcs9 q st) ht
  refine h _ ⟨⟨R 0 _ rfl, R 1 _ rfl, R 2 _ rfl, R 3 _ rfl, R 4 _ rfl, R 5 _ rfl, R 6 _ rfl, R 7 _ rfl, R 8 _ rfl, R 9 _ rfl, R 10 _ rfl, R 11 _ rfl, R 12 _ rfl, R 13 _ rfl, R 14 _ rfl, R 15 _ rfl, R 16 _ rfl, R 17 _ rfl, Nat.lt_of_lt_of_le hb G.size⟩, R 18 _ rfl⟩ G
theorem opZero9 (w : World) : (w.alloc (.cells #[.int .i64 0, .int .i64 0, .int .i64 0, .int .i64 0, .int .i64 0, .int .i64 0, .int .i64 0, .int .i64 0, .int .i64 0, .int .i64 0, .int .u64 0, .int .u64 0, .int .i64 0, .int .i64 0, .int .i64 0, .int .u64 0, .int .u64 0, .int .i64 0, .int .i64 0] 64)).there w.heap.size 0 19 ∧ w.heap.size < (w.alloc (.cells #[.int .i64 0, .int .i64 0, .int .i64 0, .int .i64 0, .int .i64 0, .int .i64 0, .int .i64 0, .int .i64 0, .int .i64 0, .int .i64 0, .int .u64 0, .int .u64 0, .int .i64 0, .int .i64 0, .int .i64 0, .int .u64 0, .int .u64 0, .int .i64 0, .int .i64 0] 64)).heap.size := by
  refine ⟨fun j hj => ?_, by simp⟩
  have hj' : j = 0 ∨ j = 1 ∨ j = 2 ∨ j = 3 ∨ j = 4 ∨ j = 5 ∨ j = 6 ∨ j = 7 ∨ j = 8 ∨ j = 9 ∨ j = 10 ∨ j = 11 ∨ j = 12 ∨ j = 13 ∨ j = 14 ∨ j = 15 ∨ j = 16 ∨ j = 17 ∨ j = 18 := by omega
  rcases hj' with rfl | rfl | rfl | rfl | rfl | rfl | rfl | rfl | rfl | rfl | rfl | rfl | rfl | rfl | rfl | rfl | rfl | rfl | rfl <;> exact ⟨by simp, by simp⟩
end Go.Proofs.YtdnoidnpiaadaaaGreat
