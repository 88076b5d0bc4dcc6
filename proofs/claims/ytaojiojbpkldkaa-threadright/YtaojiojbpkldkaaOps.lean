/-
  THREADS AS VALUES: registers in memory; one field stored; threads held against one another; what comes in and goes out of a call. Speaks of no function of the program.
-/
import Derived.Test.YtaojiojbpkldkaaBase
namespace Go.Proofs.Ytaojiojbpkldkaa
set_option maxRecDepth 10000
open Go.RowKit
set_option linter.unusedVariables false

/-! ### Held against one another -/
theorem eqStep {w : World} {d : Nat} {xs ys : Array Value} {fld : Field} {fs : List Field} {va vb : Value} {b : Bool} (hn : fld.name ≠ "_") (ha : (part fld.type xs fld.offset).run Try.prog w = .ok va w) (hb : (part fld.type ys fld.offset).run Try.prog w = .ok vb w)
    (he : (Op.equalIn d fld.type va vb).run Try.prog w = .ok b w) : (Op.eqFields d xs ys (fld :: fs)).run Try.prog w = if b then (Op.eqFields d xs ys fs).run Try.prog w else .ok false w := by
  rw [Op.eqFields]
  simp only [hn, ne_eq, not_false_eq_true, if_true, Sem.run_bind, ha, hb, he, Result.andThen_ok]
  cases b <;> simp
theorem part_int (w : World) (xs : Array Value) (i : Nat) (v : Value) (h : xs[i]? = some v) : (part 3 xs i).run Try.prog w = .ok v w := by
  have h1 : (isAgg 3).run Try.prog w = .ok false w := by kernel_rfl
  simp [part, Sem.run_bind, h1, h]
theorem part_u64 (w : World) (xs : Array Value) (i : Nat) (v : Value) (h : xs[i]? = some v) : (part 25 xs i).run Try.prog w = .ok v w := by
  have h1 : (isAgg 25).run Try.prog w = .ok false w := by kernel_rfl
  simp [part, Sem.run_bind, h1, h]
theorem part_bool (w : World) (xs : Array Value) (i : Nat) (v : Value) (h : xs[i]? = some v) : (part 4 xs i).run Try.prog w = .ok v w := by
  have h1 : (isAgg 4).run Try.prog w = .ok false w := by kernel_rfl
  simp [part, Sem.run_bind, h1, h]
theorem part_regs (w : World) (t : T) : (part 27 (tc t) 8).run Try.prog w = .ok (.agg (rc t.f)) w := by
  have h1 : (isAgg 27).run Try.prog w = .ok true w := by kernel_rfl
  have h2 : (sizeOf 27).run Try.prog w = .ok 8 w := by kernel_rfl
  have h3 : (tc t).extract 8 (8 + 8) = rc t.f := by simp [tc, tl, rc, rl]
  simp only [part, Sem.run_bind, h1, h2, h3, Result.andThen_ok, if_true, Sem.run_pure]
theorem eqItems_regs (w : World) (f : Nat → Int) (m : Nat) : ∀ l : List Nat, (∀ i ∈ l, i < 8) → (Op.eqItems (m + 2) 25 1 (rc f) (rc f) l).run Try.prog w = .ok true w
  | [], _ => by simp [Op.eqItems]
  | i :: l, h => by
    have hi := h i (by simp)
    have ih := eqItems_regs w f m l (fun j hj => h j (by simp [hj]))
    have hp : (part 25 (rc f) (i * 1)).run Try.prog w = .ok (.int .u64 (f i)) w := part_u64 w _ _ _ (by
      have hj : i = 0 ∨ i = 1 ∨ i = 2 ∨ i = 3 ∨ i = 4 ∨ i = 5 ∨ i = 6 ∨ i = 7 := by omega
      rcases hj with rfl | rfl | rfl | rfl | rfl | rfl | rfl | rfl <;> simp [rc, rl])
    simp only [Op.eqItems, Sem.run_bind, hp, Result.andThen_ok]
    simp [go_sem, Try.underlying25, ih]
theorem run_equal_regs (w : World) (f : Nat → Int) : (Op.equalIn 9999 27 (.agg (rc f)) (.agg (rc f))).run Try.prog w = .ok true w := by
  have hc : Try.prog.cellsOf 25 = 1 := by kernel_rfl
  obtain ⟨i, hi⟩ : ∃ i, Try.prog.info? 25 = some i := Option.isSome_iff_exists.1 (by kernel_rfl)
  rw [run_equalIn_array w 9998 _ _ Try.underlying27 hi, hc, eqItems_regs w f 9996 _ (by simp)]
theorem eq_int (w : World) (a b : Int) : (Op.equalIn 9999 3 (.int .i64 a) (.int .i64 b)).run Try.prog w = .ok (a == b) w := by
  simp [go_sem, Try.underlying3]
theorem eq_nat (w : World) (a b : Nat) : (Op.equalIn 9999 25 (.int .u64 (a : Int)) (.int .u64 (b : Int))).run Try.prog w = .ok (a == b) w := by
  have : ((a : Int) == (b : Int)) = (a == b) := by rw [Bool.eq_iff_iff]; simp only [beq_iff_eq]; omega
  simp [go_sem, Try.underlying25, this]
theorem eq_bool (w : World) (a b : Bool) : (Op.equalIn 9999 4 (.bool a) (.bool b)).run Try.prog w = .ok (a == b) w := by
  simp [go_sem, Try.underlying4]

theorem ifs {α : Type} {b : Bool} {x y z : α} (h : b = true → x = y) : (if b then x else z) = if b then y else z := by
  cases b
  · rfl
  · exact h rfl
/-- Whether two threads that are on one level, in one domain and at one place, with the same registers, are one. -/
theorem run_equal_T (w : World) (t : T) (o' : Int) (b' : Nat) (c' : Bool) : (Op.equalIn 10000 29 (.agg (tc t)) (.agg (tc ⟨t.s, o', b', c', t.r, t.l, t.d, t.p, t.f⟩))).run Try.prog w = .ok (t.o == o' && t.b == b' && t.c == c') w := by
  rw [run_equalIn_agg w 9999 29 _ _ (by kernel_rfl) (by kernel_rfl)]
  simp only [Program.fieldsOf, Try.underlying29]
  refine Eq.trans (b := if t.s == t.s then (if t.o == o' then (if t.b == b' then (if t.c == c' then (if t.r == t.r then (if t.l == t.l then (if t.d == t.d then (if t.p == t.p then (if true then .ok true w else .ok false w) else .ok false w) else .ok false w) else .ok false w) else .ok false w) else .ok false w) else .ok false w) else .ok false w) else .ok false w) ?_ ?_
  · refine (eqStep (fld := ⟨_, _, 0, _, _, _, _⟩) (by decide) (part_int w _ 0 _ rfl) (part_int w _ 0 _ rfl) (eq_int w _ _)).trans (ifs fun _ => ?_)
    refine (eqStep (fld := ⟨_, _, 1, _, _, _, _⟩) (by decide) (part_int w _ 1 _ rfl) (part_int w _ 1 _ rfl) (eq_int w _ _)).trans (ifs fun _ => ?_)
    refine (eqStep (fld := ⟨_, _, 2, _, _, _, _⟩) (by decide) (part_u64 w _ 2 _ rfl) (part_u64 w _ 2 _ rfl) (eq_nat w _ _)).trans (ifs fun _ => ?_)
    refine (eqStep (fld := ⟨_, _, 3, _, _, _, _⟩) (by decide) (part_bool w _ 3 _ rfl) (part_bool w _ 3 _ rfl) (eq_bool w _ _)).trans (ifs fun _ => ?_)
    refine (eqStep (fld := ⟨_, _, 4, _, _, _, _⟩) (by decide) (part_int w _ 4 _ rfl) (part_int w _ 4 _ rfl) (eq_int w _ _)).trans (ifs fun _ => ?_)
    refine (eqStep (fld := ⟨_, _, 5, _, _, _, _⟩) (by decide) (part_int w _ 5 _ rfl) (part_int w _ 5 _ rfl) (eq_int w _ _)).trans (ifs fun _ => ?_)
    refine (eqStep (fld := ⟨_, _, 6, _, _, _, _⟩) (by decide) (part_int w _ 6 _ rfl) (part_int w _ 6 _ rfl) (eq_int w _ _)).trans (ifs fun _ => ?_)
    refine (eqStep (fld := ⟨_, _, 7, _, _, _, _⟩) (by decide) (part_int w _ 7 _ rfl) (part_int w _ 7 _ rfl) (eq_int w _ _)).trans (ifs fun _ => ?_)
    refine (eqStep (by decide) (part_regs w _) (part_regs w _) (run_equal_regs w _)).trans (ifs fun _ => ?_)
    simp [Op.eqFields]
  · cases h1 : (t.o == o') <;> cases h2 : (t.b == b') <;> cases h3 : (t.c == c') <;> simp
theorem run_neq_T (w : World) (t : T) (o' : Int) (b' : Nat) (c' : Bool) : (binOp .neq 29 (.agg (tc t)) (.agg (tc ⟨t.s, o', b', c', t.r, t.l, t.d, t.p, t.f⟩))).run Try.prog w = .ok (.bool (!(t.o == o' && t.b == b' && t.c == c'))) w := by
  rw [run_neq_struct, run_equal_T]; rfl
theorem run_neq_same (w : World) (t : T) : (binOp .neq 29 (.agg (tc t)) (.agg (tc t))).run Try.prog w = .ok (.bool false) w := by
  have h := run_neq_T w t t.o t.b t.c
  simpa using h
theorem run_eql_same (w : World) (t : T) : (binOp .eql 29 (.agg (tc t)) (.agg (tc t))).run Try.prog w = .ok (.bool true) w := by
  have h := run_equal_T w t t.o t.b t.c
  rw [run_eql_struct, h]
  simp
theorem eqGuardT : Try.prog.eqGuardType Try.prog.depth 29 = false := by kernel_rfl

/-! ### Registers, in memory -/
/-- A block that is eight registers. -/
def RB (w : World) (x : Nat) (f : Nat → Int) : Prop := w.heap[x]? = some (.cells (rc f) 27 (0, 0))
theorem RB.lt {w : World} {x : Nat} {f : Nat → Int} (h : RB w x f) : x < w.heap.size := (Array.getElem?_eq_some_iff.1 h).1
theorem RB.keep {w w' : World} {x : Nat} {f : Nat → Int} {r : Option Nat} (h : RB w x f) (g : w.grownBy w' r) (hr : some x ≠ r) : RB w' x f := (g.block x h.lt hr).trans h
theorem RB.kept {w w' : World} {x : Nat} {f : Nat → Int} (h : RB w x f) (g : w.grownBy w' none) : RB w' x f := h.keep g (by simp)
theorem RB.aside {w w' : World} {x y : Nat} {f : Nat → Int} (h : RB w x f) (g : w.grownBy w' (some y)) (hy : x ≠ y) : RB w' x f := h.keep g (by simp; exact hy)
theorem RB.var {w : World} {x : Nat} {f : Nat → Int} (h : RB w x f) : (loadVar 27 ⟨x, 0, none⟩).run Try.prog w = .ok (.agg (rc f)) w :=
  run_loadVar_row w x _ _ (rc f) _ _ h Try.underlying27 rfl (by rw [sizeR, rc_size])
theorem RB.load {w : World} {x : Nat} {f : Nat → Int} (h : RB w x f) : (Instr.loadAt 27 (.pointer (some ⟨x, 0, none⟩))).run Try.prog w = .ok (.agg (rc f)) w := by
  simp only [Instr.loadAt, Instr.sureAddr, Sem.run_bind, Sem.run_pure, Result.andThen_ok, h.var]
theorem RB.made (w : World) (f : Nat → Int) : RB (w.alloc (.cells (rc f) 27)) w.heap.size f := heap_alloc_new w _
theorem gbSetCells (b : Nat) : ∀ (vs : List Value) (o : Nat) (w : World), w.grownBy (w.setCells b o vs) (some b)
  | [], _, w => gbRefl w _
  | v :: vs, o, w => by rw [World.setCells]; exact gbTrans (gbSetCell _ _ _ _) (gbSetCells b vs (o + 1) _)
/-- One register is written. -/
def upd (f : Nat → Int) (i : Nat) (v : Int) : Nat → Int := fun j => if j = i then v else f j
theorem rc_upd (f : Nat → Int) (i : Nat) (v : Int) (h : i < 8) : (rc f).setIfInBounds i (.int .u64 v) = rc (upd f i v) := by
  have hj : i = 0 ∨ i = 1 ∨ i = 2 ∨ i = 3 ∨ i = 4 ∨ i = 5 ∨ i = 6 ∨ i = 7 := by omega
  rcases hj with rfl | rfl | rfl | rfl | rfl | rfl | rfl | rfl <;> rfl
theorem RB.set {w : World} {x : Nat} {f : Nat → Int} (h : RB w x f) (i : Nat) (v : Int) (hi : i < 8) : RB (w.setCell ⟨x, i, none⟩ (.int .u64 v)) x (upd f i v) := by
  unfold RB
  rw [heap_setCell_same w x i _ _ _ h, rc_upd f i v hi]
theorem RB.cell {w : World} {x : Nat} {f : Nat → Int} (h : RB w x f) (i : Nat) (hi : i < 8) : w.cell? ⟨x, i, none⟩ = some (.int .u64 (f i)) := by
  rw [cell_of_row w x i _ _ _ h]
  have hj : i = 0 ∨ i = 1 ∨ i = 2 ∨ i = 3 ∨ i = 4 ∨ i = 5 ∨ i = 6 ∨ i = 7 := by omega
  rcases hj with rfl | rfl | rfl | rfl | rfl | rfl | rfl | rfl <;> rfl
theorem RB.fr {w : World} {x : Nat} {f : Nat → Int} (h : RB w x f) (i : Nat) : w.frozen? ⟨x, i, none⟩ = false := frozen_of_row w x i _ _ h

/-! ### One field stored -/
theorem TB.set {w : World} {x : Nat} {t u : T} (h : TB w x t) (i : Nat) (v : Value) (e : (tc t).setIfInBounds i v = tc u) : TB (w.setCell ⟨x, i, none⟩ v) x u := by
  unfold TB
  rw [heap_setCell_same w x i _ _ _ h, e]
theorem TB.set0 {w : World} {x : Nat} {t : T} (h : TB w x t) (v : Int) : ∃ W, w.setCell ⟨x, 0, none⟩ (.int .i64 v) = W ∧ TB W x { t with s := v } ∧ w.grownBy W (some x) := ⟨_, rfl, h.set 0 _ rfl, gbSetCell _ _ _ _⟩
theorem TB.set1 {w : World} {x : Nat} {t : T} (h : TB w x t) (v : Int) : ∃ W, w.setCell ⟨x, 1, none⟩ (.int .i64 v) = W ∧ TB W x { t with o := v } ∧ w.grownBy W (some x) := ⟨_, rfl, h.set 1 _ rfl, gbSetCell _ _ _ _⟩
theorem TB.set4 {w : World} {x : Nat} {t : T} (h : TB w x t) (v : Int) : ∃ W, w.setCell ⟨x, 4, none⟩ (.int .i64 v) = W ∧ TB W x { t with r := v } ∧ w.grownBy W (some x) := ⟨_, rfl, h.set 4 _ rfl, gbSetCell _ _ _ _⟩
theorem TB.set7 {w : World} {x : Nat} {t : T} (h : TB w x t) (v : Int) : ∃ W, w.setCell ⟨x, 7, none⟩ (.int .i64 v) = W ∧ TB W x { t with p := v } ∧ w.grownBy W (some x) := ⟨_, rfl, h.set 7 _ rfl, gbSetCell _ _ _ _⟩
theorem TB.set23 {w : World} {x : Nat} {t : T} (h : TB w x t) (b : Nat) (c : Bool) : ∃ W, (w.setCell ⟨x, 2, none⟩ (.int .u64 (b : Int))).setCell ⟨x, 3, none⟩ (.bool c) = W ∧ TB W x { t with b := b, c := c } ∧ w.grownBy W (some x) :=
  ⟨_, rfl, TB.set (t := { t with b := b }) (h.set 2 _ rfl) 3 _ rfl, gbTrans (gbSetCell _ _ _ _) (gbSetCell _ _ _ _)⟩
theorem TB.set23z {w : World} {x : Nat} {t : T} (h : TB w x t) : ∃ W, (w.setCell ⟨x, 2, none⟩ (.int .u64 0)).setCell ⟨x, 3, none⟩ (.bool false) = W ∧ TB W x { t with b := 0, c := false } ∧ w.grownBy W (some x) := h.set23 0 false
theorem TB.set0123 {w : World} {x : Nat} {t : T} (h : TB w x t) (s o : Int) (b : Nat) (c : Bool) : ∃ W, (((w.setCell ⟨x, 0, none⟩ (.int .i64 s)).setCell ⟨x, 1, none⟩ (.int .i64 o)).setCell ⟨x, 2, none⟩ (.int .u64 (b : Int))).setCell ⟨x, 3, none⟩ (.bool c) = W ∧ TB W x { t with s := s, o := o, b := b, c := c } ∧ w.grownBy W (some x) :=
  ⟨_, rfl, TB.set (t := { t with s := s, o := o, b := b }) (TB.set (t := { t with s := s, o := o }) (TB.set (t := { t with s := s }) (h.set 0 _ rfl) 1 _ rfl) 2 _ rfl) 3 _ rfl, gbTrans (gbTrans (gbTrans (gbSetCell _ _ _ _) (gbSetCell _ _ _ _)) (gbSetCell _ _ _ _)) (gbSetCell _ _ _ _)⟩
/-- The registers are written, all eight. -/
theorem TB.setF {w : World} {x : Nat} {t : T} (h : TB w x t) (f : Nat → Int) : TB (w.setCells x 8 (rl f)) x { t with f := f } := by
  have a0 : TB (w.setCell ⟨x, 8, none⟩ (.int .u64 (f 0))) x { t with f := upd t.f 0 (f 0) } := h.set 8 _ rfl
  have a1 := TB.set (u := { t with f := upd (upd t.f 0 (f 0)) 1 (f 1) }) a0 9 (.int .u64 (f 1)) rfl
  have a2 := TB.set (u := { t with f := upd (upd (upd t.f 0 (f 0)) 1 (f 1)) 2 (f 2) }) a1 10 (.int .u64 (f 2)) rfl
  have a3 := TB.set (u := { t with f := upd (upd (upd (upd t.f 0 (f 0)) 1 (f 1)) 2 (f 2)) 3 (f 3) }) a2 11 (.int .u64 (f 3)) rfl
  have a4 := TB.set (u := { t with f := upd (upd (upd (upd (upd t.f 0 (f 0)) 1 (f 1)) 2 (f 2)) 3 (f 3)) 4 (f 4) }) a3 12 (.int .u64 (f 4)) rfl
  have a5 := TB.set (u := { t with f := upd (upd (upd (upd (upd (upd t.f 0 (f 0)) 1 (f 1)) 2 (f 2)) 3 (f 3)) 4 (f 4)) 5 (f 5) }) a4 13 (.int .u64 (f 5)) rfl
  have a6 := TB.set (u := { t with f := upd (upd (upd (upd (upd (upd (upd t.f 0 (f 0)) 1 (f 1)) 2 (f 2)) 3 (f 3)) 4 (f 4)) 5 (f 5)) 6 (f 6) }) a5 14 (.int .u64 (f 6)) rfl
  exact TB.set (u := { t with f := f }) a6 15 (.int .u64 (f 7)) rfl

/-! ### At the operations -/
section
variable {w : World} {ops : Array Oper} {rest : List Oper} {o : Oper} {a : Act} {Q : Exit → Act → World → Prop}
theorem wpList_loadR (hg : o.guard = none) (z : Operand) (ho : o.op = .load 27 z) {x : Nat} {f : Nat → Int} (hx : a.eval z = .pointer (some ⟨x, 0, none⟩)) (B : RB w x f)
    (h : wpList Try.prog ops Q rest (a.put o.dst (.agg (rc f))) w) : wpList Try.prog ops Q (o :: rest) a w :=
  wpList_plain hg fun K' hK' => by
    unfold Oper.wp execOp
    simp only [ho, hx, Sem.run_bind, B.load, Result.andThen_ok, Sem.run_pure]
    exact hK' _ _ h
theorem wpList_boxR (hg : o.guard = none) (z : Operand) (ho : o.op = .box 27 z) {f : Nat → Int} (hx : a.eval z = .agg (rc f))
    (h : ∀ W x, RB W x f → w.grownBy W none → w.heap.size ≤ x → wpList Try.prog ops Q rest (a.put o.dst (.pointer (some ⟨x, 0, none⟩))) W) : wpList Try.prog ops Q (o :: rest) a w :=
  wpList_plain hg fun K' hK' => by
    have e : (newRow 27 (rc f)).run Try.prog w = .ok ⟨w.heap.size, 0, none⟩ (w.alloc (.cells (rc f) 27)) := by simp [newRow, go_sem]
    unfold Oper.wp execOp
    simp only [ho, hx, Instr.box, newVar, Value.cells, Sem.run_bind, e, Result.andThen_ok, Sem.run_pure]
    exact hK' _ _ (h _ _ (RB.made w f) (gbAlloc _ _ _) (Nat.le_refl _))
theorem TB.there {x : Nat} {t : T} (B : TB w x t) : w.there x 8 8 := fun j hj => by
  have e : 8 + j = 8 ∨ 8 + j = 9 ∨ 8 + j = 10 ∨ 8 + j = 11 ∨ 8 + j = 12 ∨ 8 + j = 13 ∨ 8 + j = 14 ∨ 8 + j = 15 := by omega
  refine ⟨?_, B.fr _⟩
  rw [B.cell]
  rcases e with e | e | e | e | e | e | e | e <;> rw [e] <;> rfl
theorem run_storeF {w : World} {x : Nat} {t : T} (B : TB w x t) (f : Nat → Int) : (Instr.storeAt 27 (.pointer (some ⟨x, 8, none⟩)) (.agg (rc f))).run Try.prog w = .ok () (w.setCells x 8 (rl f)) :=
  run_storeAt_mid w x 8 _ (rc f) B.there (by rw [sizeR, rc_size]) (rc_one f)
theorem wpList_storeF (hg : o.guard = none) (z v : Operand) (ho : o.op = .store 27 z v) {x : Nat} {t : T} {f : Nat → Int} (hx : a.eval z = .pointer (some ⟨x, 8, none⟩)) (hv : a.eval v = .agg (rc f)) (B : TB w x t)
    (h : ∀ W, TB W x { t with f := f } → w.grownBy W (some x) → wpList Try.prog ops Q rest (a.put o.dst undef) W) : wpList Try.prog ops Q (o :: rest) a w :=
  wpList_plain hg fun K' hK' => by
    unfold Oper.wp execOp
    simp only [ho, hx, hv, Sem.run_bind, run_storeF B f, Result.andThen_ok, Sem.run_pure]
    exact hK' _ _ (h _ (B.setF f) (gbSetCells _ _ _ _))
theorem wpList_nilT (hg : o.guard = none) (ho : o.op = .build 29 #[])
    (h : wpList Try.prog ops Q rest (a.put o.dst (.agg (tc T0))) w) : wpList Try.prog ops Q (o :: rest) a w :=
  wpList_plain hg fun K' hK' => by
    unfold Oper.wp execOp
    simp only [ho, Sem.run_bind, List.map_toArray, List.map_nil, run_nilT, Result.andThen_ok, Sem.run_pure]
    exact hK' _ _ h
theorem wpList_buildT (hg : o.guard = none) (parts : Array (Nat × Operand)) (ho : o.op = .build 29 parts) (ps : List (Nat × Value)) (he : (parts.map fun (i, x) => (i, a.eval x)).toList = ps) (t : T) (hb : Try.prog.built 29 ps = some (tc t))
    (h : wpList Try.prog ops Q rest (a.put o.dst (.agg (tc t))) w) : wpList Try.prog ops Q (o :: rest) a w :=
  wpList_build hg _ parts ho (by rw [he, hb]; rfl) (by rw [he, hb]; exact h)
theorem wpList_buildR (hg : o.guard = none) (parts : Array (Nat × Operand)) (ho : o.op = .build 27 parts) (ps : List (Nat × Value)) (he : (parts.map fun (i, x) => (i, a.eval x)).toList = ps) (f : Nat → Int) (hb : Try.prog.built 27 ps = some (rc f))
    (h : wpList Try.prog ops Q rest (a.put o.dst (.agg (rc f))) w) : wpList Try.prog ops Q (o :: rest) a w :=
  wpList_build hg _ parts ho (by rw [he, hb]; rfl) (by rw [he, hb]; exact h)
end

/-! ### Results -/
theorem results_T {fn : Func} {p : Tmp} (h : fn.results = #[.cell p 29]) {tmps : Array Value} {w : World} {x : Nat} {t : T} (hp : tmps.getD p undef = .pointer (some ⟨x, 0, none⟩)) (B : TB w x t) : (results fn tmps).run Try.prog w = .ok (.agg (tc t)) w :=
  results_cell_row h tmps w x _ (tc t) _ _ hp B Try.underlying29 rfl (by rw [sizeT, tc_size])
theorem results_Te {fn : Func} {p q : Tmp} (h : fn.results = #[.cell p 29, .tmp q]) {tmps : Array Value} {w : World} {x : Nat} {t : T} {v : Value} (hp : tmps.getD p undef = .pointer (some ⟨x, 0, none⟩)) (hq : tmps.getD q undef = v) (B : TB w x t) : (results fn tmps).run Try.prog w = .ok (.tuple #[.agg (tc t), v]) w := by
  have hp' : tmps[p]?.getD undef = .pointer (some ⟨x, 0, none⟩) := by simpa using hp
  have hq' : tmps[q]?.getD undef = v := by simpa using hq
  simp [results, h, hp', hq', asAddr, B.var]
end Go.Proofs.Ytaojiojbpkldkaa
