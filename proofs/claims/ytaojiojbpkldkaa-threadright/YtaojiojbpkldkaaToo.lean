/-
  THE DOCUMENT'S THREAD as what comes in: by value; To: the program's thread of it; what may be done with right threads.
-/
import Derived.Test.YtaojiojbpkldkaaArgs
namespace Go.Proofs.Ytaojiojbpkldkaa
set_option maxRecDepth 10000
open Go.ChangeShapes Go.WideShapes Go.ChangeAt Go.RowKit
set_option linter.unusedVariables false

theorem regsCells {H : Type} {enc : TypeId × Value → H} {W : World} {base fuel : Nat} {spare : Nat → Bool} {held : Bool} {l : List Value} {x : DataW H × List MemPlace} (hsz : l.length = 8)
    (hf : DataW.trod enc Try.prog W base spare held fuel 26 l = some x) : ∃ f : Nat → Int, l = rl f := by
  obtain ⟨xs, k, _, _, _, hxl, hf⟩ := DataW.trod_array Try.underlying26 hf
  have c4 : Try.prog.cellsOf 25 = 1 := by kernel_rfl
  match xs, hxl, l, hsz with
  | [y0, y1, y2, y3, y4, y5, y6, y7], _, [v0, v1, v2, v3, v4, v5, v6, v7], _ =>
    have g0 : DataW.trod enc Try.prog W base spare held k 25 [v0] = some y0 := by have := hf 0 (by decide); simpa [c4, Value.cells] using this
    have g1 : DataW.trod enc Try.prog W base spare held k 25 [v1] = some y1 := by have := hf 1 (by decide); simpa [c4, Value.cells] using this
    have g2 : DataW.trod enc Try.prog W base spare held k 25 [v2] = some y2 := by have := hf 2 (by decide); simpa [c4, Value.cells] using this
    have g3 : DataW.trod enc Try.prog W base spare held k 25 [v3] = some y3 := by have := hf 3 (by decide); simpa [c4, Value.cells] using this
    have g4 : DataW.trod enc Try.prog W base spare held k 25 [v4] = some y4 := by have := hf 4 (by decide); simpa [c4, Value.cells] using this
    have g5 : DataW.trod enc Try.prog W base spare held k 25 [v5] = some y5 := by have := hf 5 (by decide); simpa [c4, Value.cells] using this
    have g6 : DataW.trod enc Try.prog W base spare held k 25 [v6] = some y6 := by have := hf 6 (by decide); simpa [c4, Value.cells] using this
    have g7 : DataW.trod enc Try.prog W base spare held k 25 [v7] = some y7 := by have := hf 7 (by decide); simpa [c4, Value.cells] using this
    obtain ⟨A0, e0, _⟩ := DataW.trod_int Try.underlying25 g0
    obtain ⟨A1, e1, _⟩ := DataW.trod_int Try.underlying25 g1
    obtain ⟨A2, e2, _⟩ := DataW.trod_int Try.underlying25 g2
    obtain ⟨A3, e3, _⟩ := DataW.trod_int Try.underlying25 g3
    obtain ⟨A4, e4, _⟩ := DataW.trod_int Try.underlying25 g4
    obtain ⟨A5, e5, _⟩ := DataW.trod_int Try.underlying25 g5
    obtain ⟨A6, e6, _⟩ := DataW.trod_int Try.underlying25 g6
    obtain ⟨A7, e7, _⟩ := DataW.trod_int Try.underlying25 g7
    simp only [List.cons.injEq, and_true] at e0 e1 e2 e3 e4 e5 e6 e7
    subst e0 e1 e2 e3 e4 e5 e6 e7
    exact ⟨fun i => [A0, A1, A2, A3, A4, A5, A6, A7].getD i 0, rfl⟩
theorem threadArg {H : Type} {enc : TypeId × Value → H} {W : World} {r : Reach} {b0 base : Nat} {spare : Nat → Bool} {held : Bool} {v : Value} {d : DataW H} {p : List MemPlace}
    (hv : Value.okWide Try.prog W r b0 43 v) (h : DataW.Trod enc Try.prog W base spare held 43 v d p) : ∃ t : T, v = .agg (tc t) ∧ t.b < 18446744073709551616 := by
  obtain ⟨cs, rfl, hsz⟩ := okWide_struct Try.underlying43 hv
  have ce : Try.prog.cellsOf 43 = 16 := by kernel_rfl
  rw [ce] at hsz
  obtain ⟨fuel, hf⟩ := h
  obtain ⟨l⟩ := cs
  obtain ⟨xs, k, _, _, _, hxl, hf⟩ := DataW.trod_struct Try.underlying43 hf
  have c3 : Try.prog.cellsOf 3 = 1 := by kernel_rfl
  have c4 : Try.prog.cellsOf 25 = 1 := by kernel_rfl
  have c5 : Try.prog.cellsOf 4 = 1 := by kernel_rfl
  have c6 : Try.prog.cellsOf 26 = 8 := by kernel_rfl
  match xs, hxl, l, hsz with
  | [y0, y1, y2, y3, y4, y5, y6, y7, y8], _, [v0, v1, v2, v3, v4, v5, v6, v7, u0, u1, u2, u3, u4, u5, u6, u7], _ =>
    have g0 : DataW.trod enc Try.prog W base spare held k 3 [v0] = some y0 := by have := hf 0 _ rfl; simpa [c3, Value.cells] using this
    have g1 : DataW.trod enc Try.prog W base spare held k 3 [v1] = some y1 := by have := hf 1 _ rfl; simpa [c3, Value.cells] using this
    have g2 : DataW.trod enc Try.prog W base spare held k 25 [v2] = some y2 := by have := hf 2 _ rfl; simpa [c4, Value.cells] using this
    have g3 : DataW.trod enc Try.prog W base spare held k 4 [v3] = some y3 := by have := hf 3 _ rfl; simpa [c5, Value.cells] using this
    have g4 : DataW.trod enc Try.prog W base spare held k 3 [v4] = some y4 := by have := hf 4 _ rfl; simpa [c3, Value.cells] using this
    have g5 : DataW.trod enc Try.prog W base spare held k 3 [v5] = some y5 := by have := hf 5 _ rfl; simpa [c3, Value.cells] using this
    have g6 : DataW.trod enc Try.prog W base spare held k 3 [v6] = some y6 := by have := hf 6 _ rfl; simpa [c3, Value.cells] using this
    have g7 : DataW.trod enc Try.prog W base spare held k 3 [v7] = some y7 := by have := hf 7 _ rfl; simpa [c3, Value.cells] using this
    have g8 : DataW.trod enc Try.prog W base spare held k 26 [u0, u1, u2, u3, u4, u5, u6, u7] = some y8 := by have := hf 8 _ rfl; simpa [c6, Value.cells] using this
    obtain ⟨A0, e0, _⟩ := DataW.trod_int Try.underlying3 g0
    obtain ⟨A1, e1, _⟩ := DataW.trod_int Try.underlying3 g1
    obtain ⟨A2, e2, _, f2⟩ := DataW.trod_int Try.underlying25 g2
    obtain ⟨A3, e3, _⟩ := DataW.trod_bool Try.underlying4 g3
    obtain ⟨A4, e4, _⟩ := DataW.trod_int Try.underlying3 g4
    obtain ⟨A5, e5, _⟩ := DataW.trod_int Try.underlying3 g5
    obtain ⟨A6, e6, _⟩ := DataW.trod_int Try.underlying3 g6
    obtain ⟨A7, e7, _⟩ := DataW.trod_int Try.underlying3 g7
    obtain ⟨f, e8⟩ := regsCells rfl g8
    simp only [List.cons.injEq, and_true] at e0 e1 e2 e3 e4 e5 e6 e7
    unfold rl at e8
    simp only [List.cons.injEq, and_true] at e8
    obtain ⟨i0, i1, i2, i3, i4, i5, i6, i7⟩ := e8
    subst e0 e1 e2 e3 e4 e5 e6 e7 i0 i1 i2 i3 i4 i5 i6 i7
    have u := u64_wf f2
    obtain ⟨Z, rfl⟩ : ∃ Z : Nat, A2 = Z := ⟨A2.toNat, by omega⟩
    exact ⟨⟨A0, A1, Z, A3, A4, A5, A6, A7, f⟩, rfl, by show Z < _; omega⟩

/-- A block that is a thread of the document's. -/
def DB (w : World) (x : Nat) (t : T) : Prop := w.heap[x]? = some (.cells (tc t) 43 (0, 0))
theorem DB.lt {w : World} {x : Nat} {t : T} (h : DB w x t) : x < w.heap.size := (Array.getElem?_eq_some_iff.1 h).1
theorem DB.keep {w w' : World} {x : Nat} {t : T} {r : Option Nat} (h : DB w x t) (g : w.grownBy w' r) (hr : some x ≠ r) : DB w' x t := (g.block x h.lt hr).trans h
theorem DB.kept {w w' : World} {x : Nat} {t : T} (h : DB w x t) (g : w.grownBy w' none) : DB w' x t := h.keep g (by simp)
theorem DB.cell {w : World} {x : Nat} {t : T} (h : DB w x t) (i : Nat) : w.cell? ⟨x, i, none⟩ = (tl t)[i]? := by
  rw [cell_of_row w x i _ _ _ h]; unfold tc; simp
theorem sizeD : (Try.prog.info? 43).map (·.size) = some 16 := by kernel_rfl
theorem sizeQ : (Try.prog.info? 26).map (·.size) = some 8 := by kernel_rfl
theorem DB.var {w : World} {x : Nat} {t : T} (h : DB w x t) : (loadVar 43 ⟨x, 0, none⟩).run Try.prog w = .ok (.agg (tc t)) w :=
  run_loadVar_row w x _ _ (tc t) _ _ h Try.underlying43 rfl (by rw [sizeD, tc_size])
theorem DB.load {w : World} {x : Nat} {t : T} (h : DB w x t) : (Instr.loadAt 43 (.pointer (some ⟨x, 0, none⟩))).run Try.prog w = .ok (.agg (tc t)) w := by
  simp only [Instr.loadAt, Instr.sureAddr, Sem.run_bind, Sem.run_pure, Result.andThen_ok, h.var]
theorem DB.regs {w : World} {x : Nat} {t : T} (h : DB w x t) : w.rangeAt x 8 (rl t.f) := fun j v hv => by
  rw [h.cell]
  have hj : j < 8 := by
    have := (List.getElem?_eq_some_iff.1 hv).1
    exact this
  have e : j = 0 ∨ j = 1 ∨ j = 2 ∨ j = 3 ∨ j = 4 ∨ j = 5 ∨ j = 6 ∨ j = 7 := by omega
  rcases e with rfl | rfl | rfl | rfl | rfl | rfl | rfl | rfl <;> exact hv
section
variable {w : World} {ops : Array Oper} {rest : List Oper} {o : Oper} {a : Act} {Q : Exit → Act → World → Prop}
theorem wpList_boxD (hg : o.guard = none) (z : Operand) (ho : o.op = .box 43 z) {t : T} (hx : a.eval z = .agg (tc t))
    (h : ∀ W x, DB W x t → w.grownBy W none → w.heap.size ≤ x → wpList Try.prog ops Q rest (a.put o.dst (.pointer (some ⟨x, 0, none⟩))) W) : wpList Try.prog ops Q (o :: rest) a w :=
  wpList_plain hg fun K' hK' => by
    have e : (newRow 43 (tc t)).run Try.prog w = .ok ⟨w.heap.size, 0, none⟩ (w.alloc (.cells (tc t) 43)) := by simp [newRow, go_sem]
    unfold Oper.wp execOp
    simp only [ho, hx, Instr.box, newVar, Value.cells, Sem.run_bind, e, Result.andThen_ok, Sem.run_pure]
    exact hK' _ _ (h _ _ (heap_alloc_new w _) (gbAlloc _ _ _) (Nat.le_refl _))
theorem wpList_loadD (hg : o.guard = none) (z : Operand) (ho : o.op = .load 43 z) {x : Nat} {t : T} (hx : a.eval z = .pointer (some ⟨x, 0, none⟩)) (B : DB w x t)
    (h : wpList Try.prog ops Q rest (a.put o.dst (.agg (tc t))) w) : wpList Try.prog ops Q (o :: rest) a w :=
  wpList_plain hg fun K' hK' => by
    unfold Oper.wp execOp
    simp only [ho, hx, Sem.run_bind, B.load, Result.andThen_ok, Sem.run_pure]
    exact hK' _ _ h
theorem wpList_loadQ (hg : o.guard = none) (z : Operand) (ho : o.op = .load 26 z) {x : Nat} {t : T} (hx : a.eval z = .pointer (some ⟨x, 8, none⟩)) (B : DB w x t)
    (h : wpList Try.prog ops Q rest (a.put o.dst (.agg (rc t.f))) w) : wpList Try.prog ops Q (o :: rest) a w :=
  wpList_plain hg fun K' hK' => by
    unfold Oper.wp execOp
    have e := run_loadAt_mid w x 8 26 (rl t.f) _ B.regs Try.underlying26 rfl (by rw [sizeQ]; rfl)
    simp only [ho, hx, Sem.run_bind, e, Result.andThen_ok, Sem.run_pure]
    exact hK' _ _ h
theorem run_nilR (w : World) : (Instr.build 27 #[]).run Try.prog w = .ok (.agg (rc nil8)) w := run_build w _ _ _ (by kernel_rfl)
theorem wpList_nilR (hg : o.guard = none) (ho : o.op = .build 27 #[])
    (h : wpList Try.prog ops Q rest (a.put o.dst (.agg (rc nil8))) w) : wpList Try.prog ops Q (o :: rest) a w :=
  wpList_plain hg fun K' hK' => by
    unfold Oper.wp execOp
    simp only [ho, Sem.run_bind, List.map_toArray, List.map_nil, run_nilR, Result.andThen_ok, Sem.run_pure]
    exact hK' _ _ h
theorem wpList_buildL (hg : o.guard = none) (parts : List (Nat × Operand)) (ho : o.op = .build 29 parts.toArray) (ps : List (Nat × Value)) (he : (parts.map fun (i, x) => (i, a.eval x)) = ps) (t : T) (hb : Try.prog.built 29 ps = some (tc t))
    (h : wpList Try.prog ops Q rest (a.put o.dst (.agg (tc t))) w) : wpList Try.prog ops Q (o :: rest) a w :=
  wpList_buildT hg parts.toArray ho ps (by rw [List.map_toArray]; exact he) t hb h
theorem run_fieldS (w : World) (u : T) : (Instr.field 29 (.agg (tc u)) 0).run Try.prog w = .ok (.int .i64 u.s) w := by kernel_rfl
theorem wpList_fieldS (hw : Region.wanted o (yielded ops a.tmps) = true) (z : Operand) (ho : o.op = .field 29 z 0) {u : T} (hx : a.eval z = .agg (tc u))
    (h : wpList Try.prog ops Q rest (a.put o.dst (.int .i64 u.s)) w) : wpList Try.prog ops Q (o :: rest) a w :=
  BigFrame.wpList_want hw fun K' hK' => by
    unfold Oper.wp execOp
    simp only [ho, hx, Sem.run_bind, run_fieldS, Result.andThen_ok, Sem.run_pure]
    exact hK' _ _ h
end

set_option maxHeartbeats 1000000 in
theorem to_is (t : T) (w : World) :
    Calls Try.prog 15 #[.agg (tc t)] w fun e w' => e = .returned (.agg (tc t)) ∧ w.grownBy w' none := by
  go_enter Try.func15, Try.ntmps15
  go_upto_region 1 with (first | (refine wpList_boxD rfl _ rfl rfl ?_; intro W1 x B g1 l1) | (refine wpList_allocT rfl rfl ?_; intro W2 y C g2 l2))
  have ly : w.heap.size ≤ y := Nat.le_trans g1.size l2
  have G := gbTrans g1 g2
  replace B := B.kept g2
  clear g1 g2 l2
  have c0 : W2.cell? ⟨x, 0, none⟩ = some (.int .i64 t.s) := B.cell 0
  have c1 : W2.cell? ⟨x, 1, none⟩ = some (.int .i64 t.o) := B.cell 1
  have c2 : W2.cell? ⟨x, 2, none⟩ = some (.int .u64 (t.b : Int)) := B.cell 2
  have c3 : W2.cell? ⟨x, 3, none⟩ = some (.bool t.c) := B.cell 3
  have c4 : W2.cell? ⟨x, 4, none⟩ = some (.int .i64 t.r) := B.cell 4
  have c5 : W2.cell? ⟨x, 5, none⟩ = some (.int .i64 t.l) := B.cell 5
  have c6 : W2.cell? ⟨x, 6, none⟩ = some (.int .i64 t.d) := B.cell 6
  have c7 : W2.cell? ⟨x, 7, none⟩ = some (.int .i64 t.p) := B.cell 7
  go_wp2_with (first | (refine wpList_loadQ rfl _ rfl rfl B ?_) | (refine wpList_buildL rfl [(0, .tmp 4), (1, .tmp 6), (2, .tmp 8), (3, .tmp 10), (4, .tmp 12), (5, .tmp 14), (6, .tmp 16), (7, .tmp 18), (8, .tmp 20)] rfl [(0, .int .i64 t.s), (1, .int .i64 t.o), (2, .int .u64 (t.b : Int)), (3, .bool t.c), (4, .int .i64 t.r), (5, .int .i64 t.l), (6, .int .i64 t.d), (7, .int .i64 t.p), (8, .agg (rc t.f))] rfl t (by kernel_rfl) ?_) | (refine wpList_storeT rfl _ _ rfl rfl rfl C ?_; intro W9 C9 g9))
  exact bodyPost_ret (results_T Try.results15 rfl C9) rfl ⟨rfl, gbNew (gbTrans (gbAny G _) g9) ly⟩

/-! ### What may be done with right threads -/
theorem st_no {t : T} (R : Right t) (h : t.s ≠ 0) : M.st t = (T0, 8) := by
  unfold M.st
  rw [if_pos R.ck, if_neg h]
theorem st_yes {t : T} (R : Right t) (h : t.s = 0) : M.st t = ({ t with s := 1 }, 0) := by
  unfold M.st
  rw [if_pos R.ck, if_pos h]
theorem bl_no {t : T} (R : Right t) (h : t.s ≠ 1) (s o : Int) (b : Nat) (c : Bool) : M.bl t s o b c = (T0, 8) := by
  unfold M.bl
  rw [if_pos R.ck, if_neg h]
theorem wk_no {t : T} (R : Right t) (h : t.s = 0 ∨ t.s = 1) (f : Nat → Int) : M.wk t f = (T0, 8) := by
  have e : M.cw t = 8 := by unfold M.cw; rw [if_pos R.ck, if_pos h]
  unfold M.wk
  rw [e, if_neg (by decide)]
theorem cw_yes {t : T} (R : Right t) (h0 : t.s ≠ 0) (h1 : t.s ≠ 1) : M.cw t = 0 := by
  unfold M.cw
  rw [if_pos R.ck, if_neg (by simp [h0, h1])]
theorem Right.waits {t : T} (R : Right t) : Right { t with s := 3, o := 3, b := 0, c := false } :=
  ⟨by show (0 : Int) ≤ 3; decide, by show (3 : Int) ≤ 5; decide, fun h => by simp at h, fun _ => ⟨rfl, rfl⟩, by show (0 : Int) ≤ 3; decide, by show (3 : Int) < 64; decide, by show 0 < _; decide, R.rr, R.l0, R.l1, R.d0, R.d1, R.p0, R.p1⟩
theorem bl_yes {t : T} (R : Right t) (h : t.s = 1) : M.bl t 3 3 0 false = ({ t with s := 3, o := 3, b := 0, c := false }, 0) := by
  have e := cw_yes R.waits (by simp) (by simp)
  unfold M.bl
  rw [if_pos R.ck, if_pos h, if_pos e]
theorem Right.stop {t : T} (R : Right t) : Right (M.sp t) :=
  ⟨by show (0 : Int) ≤ 0; decide, by show (0 : Int) ≤ 5; decide, fun _ => rfl, fun _ => ⟨rfl, rfl⟩, by show (0 : Int) ≤ 0; decide, by show (0 : Int) < 64; decide, by show 0 < _; decide, R.rr, R.l0, R.l1, R.d0, R.d1, R.p0, R.p1⟩
end Go.Proofs.Ytaojiojbpkldkaa
