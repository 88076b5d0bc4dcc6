/-
  AN ACT AS ONE VALUE: loads and stores of eighteen cells by laws of their own (written by mkopq.py).
-/
import Derived.Test.YtpfjcfgbecoccaaIdx
import Derived.Deep.MidRow
namespace Go.Proofs.Ytpfjcfgbecoccaa
set_option maxRecDepth 10000
open Go.RowKit
set_option linter.unusedVariables false

def qcs (q : Q) : List Value := [.int .i64 q.k, .int .i64 q.a, .int .i64 q.a2, .int .i64 q.b, .int .i64 q.b2, .int .i64 q.d, .int .i64 q.d2, .int .i64 q.c.k, .int .i64 q.c.o, .int .i64 q.c.r, .int .u64 q.c.b, .int .u64 q.c.g, .int .i64 q.c.n, .int .i64 q.n, .int .i64 q.rt, .int .u64 q.bd, .int .u64 q.gd, .int .i64 q.bt]
theorem qcs_len (q : Q) : (qcs q).length = 18 := rfl
theorem El18.all {w : World} {y : Addr} {q : Q} (h : El18 w y q) : ∀ j v, (qcs q)[j]? = some v → w.cell? (y.add j) = some v := by
  intro j v hv
  have hj : j < 18 := by have := (List.getElem?_eq_some_iff.1 hv).1; rw [qcs_len] at this; exact this
  have z : y.add 0 = y := by unfold Addr.add; simp
  match j, hj with
  | 0, _ => rw [z]; cases hv; exact h.at0
  | 1, _ => rw [add_pos _ _ (by decide)]; cases hv; exact h.at1
  | 2, _ => rw [add_pos _ _ (by decide)]; cases hv; exact h.at2
  | 3, _ => rw [add_pos _ _ (by decide)]; cases hv; exact h.at3
  | 4, _ => rw [add_pos _ _ (by decide)]; cases hv; exact h.at4
  | 5, _ => rw [add_pos _ _ (by decide)]; cases hv; exact h.at5
  | 6, _ => rw [add_pos _ _ (by decide)]; cases hv; exact h.at6
  | 7, _ => rw [add_pos _ _ (by decide)]; cases hv; exact h.at7
  | 8, _ => rw [add_pos _ _ (by decide)]; cases hv; exact h.at8
  | 9, _ => rw [add_pos _ _ (by decide)]; cases hv; exact h.at9
  | 10, _ => rw [add_pos _ _ (by decide)]; cases hv; exact h.at10
  | 11, _ => rw [add_pos _ _ (by decide)]; cases hv; exact h.at11
  | 12, _ => rw [add_pos _ _ (by decide)]; cases hv; exact h.at12
  | 13, _ => rw [add_pos _ _ (by decide)]; cases hv; exact h.at13
  | 14, _ => rw [add_pos _ _ (by decide)]; cases hv; exact h.at14
  | 15, _ => rw [add_pos _ _ (by decide)]; cases hv; exact h.at15
  | 16, _ => rw [add_pos _ _ (by decide)]; cases hv; exact h.at16
  | 17, _ => rw [add_pos _ _ (by decide)]; cases hv; exact h.at17
theorem run_load_op {w : World} {y : Addr} {q : Q} (h : El18 w y q) : (Instr.loadAt 62 (.pointer (some y))).run Try.prog w = .ok (.agg (qcs q).toArray) w := by
  have hl : (loadCells y (qcs q).length).run Try.prog w = .ok (qcs q).toArray w := run_loadCells_list (P := Try.prog) w y (qcs q) h.all
  have hi : (Try.prog.info? 62).map (·.size) = some 18 := by kernel_rfl
  cases hq : Try.prog.info? 62 with
  | none => simp [hq] at hi
  | some i =>
    have hs : i.size = (qcs q).length := by rw [qcs_len]; simpa [hq] using hi
    have hagg : (isAgg 62).run Try.prog w = .ok true w := by
      unfold isAgg
      rw [Sem.run_bind, run_underlying Try.underlying62 w]
      rfl
    simp only [Instr.loadAt, Instr.sureAddr, Sem.run_bind, Sem.run_pure, Result.andThen_ok]
    simp [loadVar, Sem.run_bind, hagg, sizeOf, typeInfo, hq, hs, hl]
theorem wpList_load_op {w : World} {ops : Array Oper} {rest : List Oper} {o : Oper} {a : Act} {Q' : Exit → Act → World → Prop} (hg : o.guard = none) (x : Operand) (ho : o.op = .load 62 x)
    (y : Addr) (q : Q) (hx : a.eval x = .pointer (some y)) (hl : El18 w y q)
    (h : wpList Try.prog ops Q' rest (a.put o.dst (.agg (qcs q).toArray)) w) : wpList Try.prog ops Q' (o :: rest) a w :=
  wpList_plain hg fun K' hK' => by
    unfold Oper.wp execOp
    simp only [ho, hx, Sem.run_bind, run_load_op hl, Result.andThen_ok, Sem.run_pure]
    exact hK' _ _ h
theorem gbSetCells (b : Nat) : ∀ (vs : List Value) (o : Nat) (w : World), w.grownBy (w.setCells b o vs) (some b)
  | [], _, w => gbRefl w _
  | v :: vs, o, w => by rw [World.setCells]; exact gbTrans (gbSetCell _ _ _ _) (gbSetCells b vs (o + 1) _)
theorem qcs_one (q : Q) : ∀ v ∈ qcs q, v.oneCell' = true := by
  intro v hv
  unfold qcs at hv
  simp only [List.mem_cons, List.not_mem_nil, or_false] at hv
  rcases hv with rfl | rfl | rfl | rfl | rfl | rfl | rfl | rfl | rfl | rfl | rfl | rfl | rfl | rfl | rfl | rfl | rfl | rfl <;> rfl
theorem wpList_store_op {w : World} {ops : Array Oper} {rest : List Oper} {o : Oper} {a : Act} {Q' : Exit → Act → World → Prop} (hgd : o.guard = none) (x y : Operand) (ho : o.op = .store 62 x y)
    (b : Nat) (q : Q) (hx : a.eval x = .pointer (some ⟨b, 0, none⟩)) (hy : a.eval y = .agg (qcs q).toArray) (ht : w.there b 0 18) (hb : b < w.heap.size)
    (h : ∀ W, OBox W b q → w.grownBy W (some b) → wpList Try.prog ops Q' rest (a.put o.dst undef) W) : wpList Try.prog ops Q' (o :: rest) a w := by
  refine wpList_store_mid hgd 62 x y ho b 0 (qcs q).toArray hx hy ht (by kernel_rfl) (all_oneCell_toArray (qcs_one q)) ?_
  have G := gbSetCells b (qcs q) 0 w
  have R := World.rangeAt_setCells_same w b 0 (qcs q) ht
  refine h _ ⟨R 0 _ rfl, R 1 _ rfl, R 2 _ rfl, R 3 _ rfl, R 4 _ rfl, R 5 _ rfl, R 6 _ rfl, R 7 _ rfl, R 8 _ rfl, R 9 _ rfl, R 10 _ rfl, R 11 _ rfl, R 12 _ rfl, R 13 _ rfl, R 14 _ rfl, R 15 _ rfl, R 16 _ rfl, R 17 _ rfl, Nat.lt_of_lt_of_le hb G.size⟩ G
theorem opZero (w : World) : (w.alloc (.cells #[.int .i64 0, .int .i64 0, .int .i64 0, .int .i64 0, .int .i64 0, .int .i64 0, .int .i64 0, .int .i64 0, .int .i64 0, .int .i64 0, .int .u64 0, .int .u64 0, .int .i64 0, .int .i64 0, .int .i64 0, .int .u64 0, .int .u64 0, .int .i64 0] 62)).there w.heap.size 0 18 ∧ w.heap.size < (w.alloc (.cells #[.int .i64 0, .int .i64 0, .int .i64 0, .int .i64 0, .int .i64 0, .int .i64 0, .int .i64 0, .int .i64 0, .int .i64 0, .int .i64 0, .int .u64 0, .int .u64 0, .int .i64 0, .int .i64 0, .int .i64 0, .int .u64 0, .int .u64 0, .int .i64 0] 62)).heap.size := by
  refine ⟨fun j hj => ?_, by simp⟩
  have hj' : j = 0 ∨ j = 1 ∨ j = 2 ∨ j = 3 ∨ j = 4 ∨ j = 5 ∨ j = 6 ∨ j = 7 ∨ j = 8 ∨ j = 9 ∨ j = 10 ∨ j = 11 ∨ j = 12 ∨ j = 13 ∨ j = 14 ∨ j = 15 ∨ j = 16 ∨ j = 17 := by omega
  rcases hj' with rfl | rfl | rfl | rfl | rfl | rfl | rfl | rfl | rfl | rfl | rfl | rfl | rfl | rfl | rfl | rfl | rfl | rfl <;> exact ⟨by simp, by simp⟩
end Go.Proofs.Ytpfjcfgbecoccaa
