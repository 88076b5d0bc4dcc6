/-
  WHAT COMES IN: a list of acts; a list of numbers. What comes of right threads, call by call.
-/
import Derived.Test.YtaojiojbpkldkaaToo
import Derived.Deep.RegionHeld3
namespace Go.Proofs.Ytaojiojbpkldkaa
set_option maxRecDepth 10000
open Go.ChangeShapes Go.WideShapes Go.ChangeAt Go.RowKit
set_option linter.unusedVariables false

theorem add_pos (y : Addr) (j : Nat) (h : j ≠ 0) : y.add j = ⟨y.block, y.off + j, none⟩ := by unfold Addr.add; rw [if_neg h]
/-- An act in memory, from an address on. -/
structure El7 (w : World) (y : Addr) (q : A) : Prop where
  at0 : w.cell? y = some (.int .i64 q.s)
  at1 : w.cell? ⟨y.block, y.off + 1, none⟩ = some (.int .i64 q.o)
  at2 : w.cell? ⟨y.block, y.off + 2, none⟩ = some (.int .u64 (q.b : Int))
  at3 : w.cell? ⟨y.block, y.off + 3, none⟩ = some (.bool q.c)
  at4 : w.cell? ⟨y.block, y.off + 4, none⟩ = some (.int .i64 q.r)
theorem El7.kept {w w' : World} {y : Addr} {q : A} (h : El7 w y q) (g : w.grownBy w' none) : El7 w' y q :=
  ⟨g.cell h.at0 (by simp), g.cell h.at1 (by simp), g.cell h.at2 (by simp), g.cell h.at3 (by simp), g.cell h.at4 (by simp)⟩
theorem opCells {H : Type} {enc : TypeId × Value → H} {W : World} {base fuel : Nat} {spare : Nat → Bool} {held : Bool} {a : Option Addr} {len cap : Nat} {x : DataW H × List MemPlace}
    (h : DataW.trod enc Try.prog W base spare held fuel 22 [.slice a len cap] = some x) : ∀ i, i < len → ∃ x q, a = some x ∧ El7 W (x.add (i * 7)) q ∧ q.b < 18446744073709551616 := by
  intro i hi
  rcases Deep.open_slice Try.underlying22 h with ⟨hcs, _⟩ | ⟨y, l, c, m, n, D, Pl, hcs, _, hl, _, hm, _, hx⟩
  · simp at hcs; omega
  · simp at hcs
    obtain ⟨rfl, rfl, rfl⟩ := hcs
    have hlm : len ≤ m := by rw [hm]; split <;> omega
    obtain ⟨cs', h1, h2⟩ := hx i (by omega)
    have ce : Try.prog.cellsOf 37 = 7 := by kernel_rfl
    rw [ce] at h1
    obtain ⟨_, hlen, hcell⟩ := World.cells?_some h1
    obtain ⟨q, rfl, hb⟩ := actCells hlen h2
    have d0 := hcell 0 (by omega)
    have d1 := hcell 1 (by omega)
    have d2 := hcell 2 (by omega)
    have d3 := hcell 3 (by omega)
    have d4 := hcell 4 (by omega)
    rw [add_pos _ _ (by decide)] at d1 d2 d3 d4
    have z : (y.add (i * 7)).add 0 = y.add (i * 7) := by unfold Addr.add; simp
    rw [z] at d0
    exact ⟨y, q, rfl, ⟨d0, d1, d2, d3, d4⟩, hb⟩
theorem opsArg {H : Type} {enc : TypeId × Value → H} {W : World} {base : Nat} {spare : Nat → Bool} {held : Bool} {a : Option Addr} {len cap : Nat} {d : DataW H} {p : List MemPlace}
    (h : DataW.Trod enc Try.prog W base spare held 22 (.slice a len cap) d p) : ∀ i, i < len → ∃ x q, a = some x ∧ El7 W (x.add (i * 7)) q ∧ q.b < 18446744073709551616 := by
  obtain ⟨fuel, hf⟩ := h
  exact opCells hf
theorem intCells {H : Type} {enc : TypeId × Value → H} {W : World} {base fuel : Nat} {spare : Nat → Bool} {held : Bool} {a : Option Addr} {len cap : Nat} {x : DataW H × List MemPlace}
    (h : DataW.trod enc Try.prog W base spare held fuel 23 [.slice a len cap] = some x) : ∀ i, i < len → ∃ (x : Addr) (z : Int), a = some x ∧ W.cell? (x.add i) = some (.int .i64 z) := by
  intro i hi
  rcases Deep.open_slice Try.underlying23 h with ⟨hcs, _⟩ | ⟨y, l, c, m, n, D, Pl, hcs, _, hl, _, hm, _, hx⟩
  · simp at hcs; omega
  · simp at hcs
    obtain ⟨rfl, rfl, rfl⟩ := hcs
    have hlm : len ≤ m := by rw [hm]; split <;> omega
    obtain ⟨cs', h1, h2⟩ := hx i (by omega)
    have ce : Try.prog.cellsOf 3 = 1 := by kernel_rfl
    rw [ce] at h1
    obtain ⟨_, hlen, hcell⟩ := World.cells?_some h1
    match cs', hlen with
    | [v0], _ =>
      obtain ⟨A0, e0, _, w0⟩ := DataW.trod_int Try.underlying3 h2
      simp only [List.cons.injEq, and_true] at e0
      subst e0
      have d0 := hcell 0 (by omega)
      have z : (y.add (i * 1)).add 0 = y.add i := by unfold Addr.add; simp
      rw [z] at d0
      exact ⟨y, A0, rfl, d0⟩
theorem intsArg {H : Type} {enc : TypeId × Value → H} {W : World} {base : Nat} {spare : Nat → Bool} {held : Bool} {a : Option Addr} {len cap : Nat} {d : DataW H} {p : List MemPlace}
    (h : DataW.Trod enc Try.prog W base spare held 23 (.slice a len cap) d p) : ∀ i, i < len → ∃ (x : Addr) (z : Int), a = some x ∧ W.cell? (x.add i) = some (.int .i64 z) := by
  obtain ⟨fuel, hf⟩ := h
  exact intCells hf

/-! ### In regions that draw -/
/-- The operation that stands there. -/
def OpAt (l : List Oper) (n : Nat) (o : Oper) : Prop := l[n]? = some o
theorem OpAt.head {o : Oper} {l : List Oper} : OpAt (o :: l) 0 o := rfl
theorem OpAt.tail {o a : Oper} {l : List Oper} {n : Nat} (h : OpAt l n o) : OpAt (a :: l) (n + 1) o := by
  unfold OpAt at *
  rw [List.getElem?_cons_succ]
  exact h
theorem OpAt.arr {l : List Oper} {n : Nat} {o : Oper} (h : OpAt l n o) : l.toArray[n]? = some o := by
  unfold OpAt at h
  rw [List.getElem?_toArray]
  exact h
theorem exec_loadT {w : World} {o : Oper} {a : Act} {zz : Operand} {z : Nat} {t : T} (ho : o.op = .load 29 zz) (hx : a.eval zz = .pointer (some ⟨z, 0, none⟩)) (h : TB w z t) : (execOp a.eval o).run Try.prog w = .ok (.value (.agg (tc t))) w := by
  unfold execOp
  simp only [ho, hx, Sem.run_bind, h.load, Result.andThen_ok, Sem.run_pure]
theorem wp_storeT {o : Oper} {a : Act} {w : World} {K : Act → World → Prop} {Q : Exit → Act → World → Prop} (z v : Operand) (ho : o.op = .store 29 z v) {x : Nat} {t u : T} (hx : a.eval z = .pointer (some ⟨x, 0, none⟩)) (hv : a.eval v = .agg (tc u)) (B : TB w x t)
    (h : ∀ W, TB W x u → w.grownBy W (some x) → K (a.put o.dst undef) W) : o.wp Try.prog a w K Q :=
  wp_store_row 29 z v ho x (tc u) hx hv 29 (tc t) B (by rw [sizeT, tc_size]) rfl (tc_one u)
    (h _ (setRow_heap w x _ _ _ _ B) ⟨rfl, rfl, rfl, by simp, fun k _ hk => setRow_other w x k _ (fun e => hk (by rw [e]))⟩)

/-! ### What comes of right threads -/
/-- An answer without an error is right, and has the level, the domain and the place that it had; with one it is none. -/
def Fine (t u : T) (v : Int) : Prop := (v = 0 ∧ Right u ∧ u.l = t.l ∧ u.d = t.d ∧ u.p = t.p) ∨ ((v != 0) = true ∧ u = T0)
theorem Right.at1 {t : T} (R : Right t) (h : t.o = 0) (hb : t.b = 0 ∧ t.c = false) : Right { t with s := 1 } :=
  ⟨by show (0 : Int) ≤ 1; decide, by show (1 : Int) ≤ 5; decide, fun _ => h, fun _ => hb, R.o0, R.o1, R.b1, R.rr, R.l0, R.l1, R.d0, R.d1, R.p0, R.p1⟩
theorem fine_st {t : T} (R : Right t) : ∃ u v, M.st t = (u, v) ∧ Fine t u v := by
  by_cases c : t.s = 0
  · obtain ⟨h1, h2⟩ := R.no2 (.inl c)
    exact ⟨_, _, st_yes R c, .inl ⟨rfl, R.at1 h1 h2, rfl, rfl, rfl⟩⟩
  · exact ⟨_, _, st_no R c, .inr ⟨rfl, rfl⟩⟩
theorem fine_sp {t : T} (R : Right t) : Fine t (M.sp t) 0 := .inl ⟨rfl, R.stop, rfl, rfl, rfl⟩
theorem fine_bl {t : T} (R : Right t) (s o : Int) (b : Nat) (c : Bool) : ∃ u v, M.bl t s o b c = (u, v) ∧ Fine t u v := by
  by_cases h1 : t.s = 1
  · rcases bl_ways t s o b c R h1 with ⟨v, hv, h⟩ | ⟨h, hc⟩
    · exact ⟨_, _, h, .inr ⟨hv, rfl⟩⟩
    · exact ⟨_, _, h, .inl ⟨rfl, (cw_right hc).1, rfl, rfl, rfl⟩⟩
  · exact ⟨_, _, bl_no R h1 _ _ _ _, .inr ⟨rfl, rfl⟩⟩
theorem Right.woken {t : T} (R : Right t) (f : Nat → Int) : Right ⟨1, 0, 0, false, t.r, t.l, t.d, t.p, f⟩ :=
  ⟨by show (0 : Int) ≤ 1; decide, by show (1 : Int) ≤ 5; decide, fun _ => rfl, fun _ => ⟨rfl, rfl⟩, by show (0 : Int) ≤ 0; decide, by show (0 : Int) < 64; decide, by show 0 < _; decide, R.rr, R.l0, R.l1, R.d0, R.d1, R.p0, R.p1⟩
theorem fine_wk {t : T} (R : Right t) (f : Nat → Int) : ∃ u v, M.wk t f = (u, v) ∧ Fine t u v := by
  by_cases c0 : t.s = 0
  · exact ⟨_, _, wk_no R (.inl c0) f, .inr ⟨rfl, rfl⟩⟩
  by_cases c1 : t.s = 1
  · exact ⟨_, _, wk_no R (.inr c1) f, .inr ⟨rfl, rfl⟩⟩
  · exact ⟨_, _, wk_yes f (cw_yes R c0 c1), .inl ⟨rfl, R.woken f, rfl, rfl, rfl⟩⟩
theorem fine_ak {t : T} (R : Right t) (r : Int) : ∃ u v, M.ak t r = (u, v) ∧ Fine t u v := by
  unfold M.ak
  rw [if_pos R.ck]
  by_cases c : M.clr r = true
  · rw [if_pos c]
    by_cases h : r = -1 ∨ t.r = -1
    · rw [if_pos h]; exact ⟨_, _, rfl, .inl ⟨rfl, R.ask c, rfl, rfl, rfl⟩⟩
    · rw [if_neg h]; exact ⟨_, _, rfl, .inr ⟨rfl, rfl⟩⟩
  · rw [if_neg c]; exact ⟨_, _, rfl, .inr ⟨rfl, rfl⟩⟩
theorem tn77 (L D : Nat) (hL : L < 8) (hD : D < 4) : Right { tn L D with p := 77 } :=
  have R := tn_right L D hL hD
  ⟨R.s0, R.s5, R.on, R.bg, R.o0, R.o1, R.b1, R.rr, R.l0, R.l1, R.d0, R.d1, by show (0 : Int) ≤ 77; decide, by show (77 : Int) < 4096; decide⟩
end Go.Proofs.Ytaojiojbpkldkaa
