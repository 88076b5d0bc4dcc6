/-
  AN EFFECT THAT IS STORED in a region that draws its order.
-/
import Derived.Test.YteekgfdffofnaaaEqs
namespace Go.Proofs.Yteekgfdffofnaaa
set_option maxRecDepth 10000
open Go.RowKit
set_option linter.unusedVariables false

theorem run_storeE (v : World) (b : Nat) (t : TypeId) (e u : E) (h : Rw v b t (ec e)) : (storeCells ⟨b, 0, none⟩ (ec u).toList).run Try.prog v = .ok () (v.setRow b (ec u)) := by
  have k := run_storeCells_from (P := Try.prog) b t (ec u).toList 0 (ec e) v h (by rfl) (fun x hx => by
    have := ec_one u
    rw [Array.all_eq_true'] at this
    exact this x (by simpa using hx))
  simpa using k
theorem gbSetRow {w w1 : World} (h : w.grownBy w1 none) (b : Nat) (c : Array Value) (hb : w.heap.size ≤ b) : w.grownBy (w1.setRow b c) none :=
  gbNew (g := b) (gbTrans (gbAny h _) ⟨rfl, rfl, rfl, by simp, fun k _ hk => setRow_other w1 b k c (fun e => hk (by rw [e]))⟩) hb
theorem Rw.setRow {w : World} {x : Nat} {t : TypeId} {c : Array Value} (h : Rw w x t c) (d : Array Value) : Rw (w.setRow x d) x t d := setRow_heap w x _ _ _ _ h
/-- An effect that was made. -/
theorem madeE (v : World) : Rw (v.alloc (.cells #[.int .u64 0, .int .u64 0, .int .u64 0, .int .u64 0, .int .u64 0, .int .u64 0, .int .u64 0, .int .u64 0, .int .i64 0, .int .i64 0, .int .u64 0, .int .i64 0, .int .u64 0] 41)) v.heap.size 41 (ec E0) := Rw.made v (ec E0) _
/-- In the three orders: made behind the calls, or ahead of one of them. -/
theorem outAlloc (W3 v : World) (u : E) (G : W3.grownBy v none) : ∃ w9, (v.alloc (.cells #[.int .u64 0, .int .u64 0, .int .u64 0, .int .u64 0, .int .u64 0, .int .u64 0, .int .u64 0, .int .u64 0, .int .i64 0, .int .i64 0, .int .u64 0, .int .i64 0, .int .u64 0] 41)).setRow v.heap.size (ec u) = w9 ∧ Rw w9 v.heap.size 41 (ec u) ∧ W3.grownBy w9 none :=
  ⟨_, rfl, (madeE v).setRow _, gbSetRow (gbAllocN G _) _ _ G.size⟩
theorem outRow (W3 v : World) (b : Nat) (u : E) (X : Rw v b 41 (ec E0)) (G : W3.grownBy v none) (hb : W3.heap.size ≤ b) : ∃ w9, v.setRow b (ec u) = w9 ∧ Rw w9 b 41 (ec u) ∧ W3.grownBy w9 none :=
  ⟨_, rfl, X.setRow _, gbSetRow G _ _ hb⟩
/-- A thing that is loaded in a region whose calls only make memory. -/
theorem wpQuiet_loadM {ops : Array Oper} {C : World → Prop} {Q : Act → Prop} {a : Act} {o : Oper} {rest : List Oper} (hw : Region.wanted o (yielded ops a.tmps) = true) {s : TypeId} (z : Operand) (ho : o.op = .load s z) {x p k : Nat} {t : TypeId} {c : Array Value} (d : Array Value) (hx : a.eval z = .pointer (some ⟨x, p, none⟩)) (B : ∀ w, C w → Rw w x t c) (T : Tk s k) (hd : d.size = k) (hl : ∀ j v, d[j]? = some v → c[p + j]? = some v)
    (h : wpQuiet Try.prog ops C Q rest (a.put o.dst (.agg d))) : wpQuiet Try.prog ops C Q (o :: rest) a :=
  BigFrame.wpQuiet_want hw fun K hK => ⟨.agg d, fun w hC => by
    unfold Oper.quietAt execOp
    simp only [ho, hx, Sem.run_bind, (B w hC).load T p d hd hl, Result.andThen_ok, Sem.run_pure]
    exact ⟨rfl, rfl⟩, hK _ h⟩
theorem wpQuiet_loadW {ops : Array Oper} {C : World → Prop} {Q : Act → Prop} {a : Act} {o : Oper} {rest : List Oper} (hw : Region.wanted o (yielded ops a.tmps) = true) {t : TypeId} (z : Operand) (ho : o.op = .load t z) {x k : Nat} {c : Array Value} (hx : a.eval z = .pointer (some ⟨x, 0, none⟩)) (B : ∀ w, C w → Rw w x t c) (T : Tk t k) (hc : c.size = k)
    (h : wpQuiet Try.prog ops C Q rest (a.put o.dst (.agg c))) : wpQuiet Try.prog ops C Q (o :: rest) a :=
  wpQuiet_loadM hw z ho c hx B T hc self0 h
theorem Rw.gr {w : World} {x : Nat} {t : TypeId} {c : Array Value} (B : Rw w x t c) : ∀ w', (∃ y : Gr w, w' = y.w) → Rw w' x t c := fun w' ⟨y, e⟩ => e ▸ B.kept y.g
theorem madeED (v : World) : Rw (v.alloc (.cells #[.int .u64 0, .int .u64 0, .int .u64 0, .int .u64 0, .int .u64 0, .int .u64 0, .int .u64 0, .int .u64 0, .int .i64 0, .int .i64 0, .int .u64 0, .int .i64 0, .int .u64 0] 41)).drew v.heap.size 41 (ec E0) := (madeE v).kept (gbDrew (gbRefl _ _))
end Go.Proofs.Yteekgfdffofnaaa
