/-
  WORLDS THAT ONLY GROW: frames, regions whose operations read and whose callees only make memory (one walk of the lexical order serves every order). Speaks of no function of the program.
-/
import Derived.WalkKit
import Derived.WalkSpells
import Derived.WalkLawsBesides
import Derived.Deep.OwnRows
import Derived.Deep.Draws
import Derived.Deep.QuietTactic
import Derived.BigQuiet
import Derived.Laws.StructEq
import Derived.Deep.MidRow
import Derived.Deep.Cut
import Derived.Test.YtaojiojbpkldkaaRows
namespace Go.Proofs.Ytaojiojbpkldkaa
set_option maxRecDepth 10000
open Go.RowKit
set_option linter.unusedVariables false

theorem hideIt {p : Prop} (h : p) : Hid p := h
theorem ret_bool {a b : Bool} (h : a = b) : Ending.returned (.bool a) = .returned (.bool b) := by rw [h]
theorem ret_int {k : IntKind} {a b : Int} (h : a = b) : Ending.returned (.int k a) = .returned (.int k b) := by rw [h]
theorem ret_int2 {k l : IntKind} {a b : Int} {c : Int} (h : a = b) : Ending.returned (.tuple #[.int k a, .int l c]) = .returned (.tuple #[.int k b, .int l c]) := by rw [h]

/-! ### Worlds -/
theorem gbRefl (w : World) (r : Option Nat) : w.grownBy w r := ⟨rfl, rfl, rfl, Nat.le_refl _, fun _ _ _ => rfl⟩
theorem gbTrans {a b c : World} {r : Option Nat} (h : a.grownBy b r) (k : b.grownBy c r) : a.grownBy c r :=
  ⟨k.os.trans h.os, k.tape.trans h.tape, k.output.trans h.output, Nat.le_trans h.size k.size, fun i hi hr => (k.block i (Nat.lt_of_lt_of_le hi h.size) hr).trans (h.block i hi hr)⟩
theorem gbAny {a b : World} (h : a.grownBy b none) (r : Option Nat) : a.grownBy b r :=
  ⟨h.os, h.tape, h.output, h.size, fun i hi _ => h.block i hi (by simp)⟩
theorem gbDrewN (w : World) (q : Nat) (r : Option Nat) : w.grownBy (w.drewN q) r := ⟨rfl, rfl, rfl, Nat.le_refl _, fun _ _ _ => rfl⟩
theorem gbSetCell (w : World) (b i : Nat) (v : Value) : w.grownBy (w.setCell ⟨b, i, none⟩ v) (some b) :=
  ⟨rfl, rfl, rfl, by simp [World.setCell], fun k _ hk => Below.heap_setCell _ _ _ _ (fun e => hk (by rw [e]))⟩
theorem gbAlloc (w : World) (o : Obj) (r : Option Nat) : w.grownBy (w.alloc o) r :=
  ⟨rfl, rfl, rfl, by simp, fun k hk _ => by unfold World.alloc; rw [Array.getElem?_push, if_neg (Nat.ne_of_lt hk)]⟩
/-- What was written is a block that was not there: seen from before, nothing was written. -/
theorem gbNew {a b : World} {g : Nat} (h : a.grownBy b (some g)) (hg : a.heap.size ≤ g) : a.grownBy b none :=
  ⟨h.os, h.tape, h.output, h.size, fun i hi _ => h.block i hi (fun e => by simp at e; omega)⟩
theorem gbBelow {B : Nat} {w0 a b : World} {r : Option Nat} (h : Below B w0 a) (g : a.grownBy b r) (hB : B ≤ w0.heap.size) (hr : ∀ k, r = some k → B ≤ k) : Below B w0 b :=
  h.grown g (Nat.le_trans hB h.size) hr
theorem gbEnd {w w' : World} (g : w.grownBy w' none) : Below w.heap.size w w' :=
  gbBelow (Below.refl _ _) g (Nat.le_refl _) (by simp)
theorem gbSetNew {w w1 : World} (h : w.grownBy w1 none) (b i : Nat) (v : Value) (hb : w.heap.size ≤ b) : w.grownBy (w1.setCell ⟨b, i, none⟩ v) none :=
  gbNew (gbTrans (gbAny h _) (gbSetCell _ _ _ _)) hb
theorem gbDrew {w w1 : World} (h : w.grownBy w1 none) : w.grownBy w1.drew none := gbTrans h (gbDrewN _ 1 none)
theorem gbAllocN {w w1 : World} (h : w.grownBy w1 none) (o : Obj) : w.grownBy (w1.alloc o) none := gbTrans h (gbAlloc _ _ _)
theorem gbFrozen {w w' : World} {b i : Nat} {r : Option Nat} (g : w.grownBy w' r) (hb : b < w.heap.size) (hr : some b ≠ r) : w'.frozen? ⟨b, i, none⟩ = w.frozen? ⟨b, i, none⟩ := by
  unfold World.frozen?
  rw [g.block b hb hr]


/-! ### Threads, in memory -/
/-- A thread: what it is at, what it is on, its badge, whether it calls; who waits for an answer of it, its level, its domain, where it is in its code; its registers. -/
structure T where
  s : Int
  o : Int
  b : Nat
  c : Bool
  r : Int
  l : Int
  d : Int
  p : Int
  f : Nat → Int

/-- A thread's sixteen cells. -/
def tl (t : T) : List Value := [.int .i64 t.s, .int .i64 t.o, .int .u64 (t.b : Int), .bool t.c, .int .i64 t.r, .int .i64 t.l, .int .i64 t.d, .int .i64 t.p, .int .u64 (t.f 0), .int .u64 (t.f 1), .int .u64 (t.f 2), .int .u64 (t.f 3), .int .u64 (t.f 4), .int .u64 (t.f 5), .int .u64 (t.f 6), .int .u64 (t.f 7)]
def tc (t : T) : Array Value := (tl t).toArray
/-- Eight registers. -/
def rl (f : Nat → Int) : List Value := [.int .u64 (f 0), .int .u64 (f 1), .int .u64 (f 2), .int .u64 (f 3), .int .u64 (f 4), .int .u64 (f 5), .int .u64 (f 6), .int .u64 (f 7)]
def rc (f : Nat → Int) : Array Value := (rl f).toArray
/-- No register is anything. -/
def nil8 : Nat → Int := fun _ => 0
/-- The thread that is none. -/
def T0 : T := ⟨0, 0, 0, false, 0, 0, 0, 0, nil8⟩

/-- A block that is a thread. -/
def TB (w : World) (x : Nat) (t : T) : Prop := w.heap[x]? = some (.cells (tc t) 29 (0, 0))
theorem TB.lt {w : World} {x : Nat} {t : T} (h : TB w x t) : x < w.heap.size := (Array.getElem?_eq_some_iff.1 h).1
theorem TB.keep {w w' : World} {x : Nat} {t : T} {r : Option Nat} (h : TB w x t) (g : w.grownBy w' r) (hr : some x ≠ r) : TB w' x t := (g.block x h.lt hr).trans h
theorem TB.kept {w w' : World} {x : Nat} {t : T} (h : TB w x t) (g : w.grownBy w' none) : TB w' x t := h.keep g (by simp)
theorem TB.aside {w w' : World} {x y : Nat} {t : T} (h : TB w x t) (g : w.grownBy w' (some y)) (hy : x ≠ y) : TB w' x t := h.keep g (by simp; exact hy)
theorem TB.cell {w : World} {x : Nat} {t : T} (h : TB w x t) (i : Nat) : w.cell? ⟨x, i, none⟩ = (tl t)[i]? := by
  rw [cell_of_row w x i _ _ _ h]; unfold tc; simp
theorem TB.fr {w : World} {x : Nat} {t : T} (h : TB w x t) (i : Nat) : w.frozen? ⟨x, i, none⟩ = false := frozen_of_row w x i _ _ h

theorem apartT {w : World} {x y : Nat} {t : T} (B : TB w x t) (h : w.heap.size ≤ y) : x ≠ y := by
  have := B.lt
  omega

/-- The first eight cells, and the first register. -/
structure T8 (w : World) (x : Nat) (t : T) : Prop where
  at0 : w.cell? ⟨x, 0, none⟩ = some (.int .i64 t.s)
  at1 : w.cell? ⟨x, 1, none⟩ = some (.int .i64 t.o)
  at2 : w.cell? ⟨x, 2, none⟩ = some (.int .u64 (t.b : Int))
  at3 : w.cell? ⟨x, 3, none⟩ = some (.bool t.c)
  at4 : w.cell? ⟨x, 4, none⟩ = some (.int .i64 t.r)
  at5 : w.cell? ⟨x, 5, none⟩ = some (.int .i64 t.l)
  at6 : w.cell? ⟨x, 6, none⟩ = some (.int .i64 t.d)
  at7 : w.cell? ⟨x, 7, none⟩ = some (.int .i64 t.p)
  at8 : w.cell? ⟨x, 8, none⟩ = some (.int .u64 (t.f 0))
theorem TB.eight {w : World} {x : Nat} {t : T} (h : TB w x t) : T8 w x t :=
  ⟨h.cell 0, h.cell 1, h.cell 2, h.cell 3, h.cell 4, h.cell 5, h.cell 6, h.cell 7, h.cell 8⟩

theorem tc_size (t : T) : (tc t).size = 16 := rfl
theorem rc_size (f : Nat → Int) : (rc f).size = 8 := rfl
theorem tc_one (t : T) : (tc t).all (·.oneCell') = true := by
  refine all_oneCell_toArray fun v hv => ?_
  unfold tl at hv
  simp only [List.mem_cons, List.not_mem_nil, or_false] at hv
  rcases hv with rfl | rfl | rfl | rfl | rfl | rfl | rfl | rfl | rfl | rfl | rfl | rfl | rfl | rfl | rfl | rfl <;> rfl
theorem rc_one (f : Nat → Int) : (rc f).all (·.oneCell') = true := by
  refine all_oneCell_toArray fun v hv => ?_
  unfold rl at hv
  simp only [List.mem_cons, List.not_mem_nil, or_false] at hv
  rcases hv with rfl | rfl | rfl | rfl | rfl | rfl | rfl | rfl <;> rfl
theorem sizeT : (Try.prog.info? 29).map (·.size) = some 16 := by kernel_rfl
theorem sizeR : (Try.prog.info? 27).map (·.size) = some 8 := by kernel_rfl

/-! ### Loaded, stored, made -/
theorem TB.var {w : World} {x : Nat} {t : T} (h : TB w x t) : (loadVar 29 ⟨x, 0, none⟩).run Try.prog w = .ok (.agg (tc t)) w :=
  run_loadVar_row w x _ _ (tc t) _ _ h Try.underlying29 rfl (by rw [sizeT, tc_size])
theorem TB.load {w : World} {x : Nat} {t : T} (h : TB w x t) : (Instr.loadAt 29 (.pointer (some ⟨x, 0, none⟩))).run Try.prog w = .ok (.agg (tc t)) w := by
  simp only [Instr.loadAt, Instr.sureAddr, Sem.run_bind, Sem.run_pure, Result.andThen_ok, h.var]
section
variable {w : World} {ops : Array Oper} {rest : List Oper} {o : Oper} {a : Act} {Q : Exit → Act → World → Prop}
theorem wpList_loadT (hg : o.guard = none) (z : Operand) (ho : o.op = .load 29 z) {x : Nat} {t : T} (hx : a.eval z = .pointer (some ⟨x, 0, none⟩)) (B : TB w x t)
    (h : wpList Try.prog ops Q rest (a.put o.dst (.agg (tc t))) w) : wpList Try.prog ops Q (o :: rest) a w :=
  wpList_plain hg fun K' hK' => by
    unfold Oper.wp execOp
    simp only [ho, hx, Sem.run_bind, B.load, Result.andThen_ok, Sem.run_pure]
    exact hK' _ _ h
theorem wpList_storeT (hg : o.guard = none) (z v : Operand) (ho : o.op = .store 29 z v) {x : Nat} {t u : T} (hx : a.eval z = .pointer (some ⟨x, 0, none⟩)) (hv : a.eval v = .agg (tc u)) (B : TB w x t)
    (h : ∀ W, TB W x u → w.grownBy W (some x) → wpList Try.prog ops Q rest (a.put o.dst undef) W) : wpList Try.prog ops Q (o :: rest) a w :=
  wpList_store_row hg 29 z v ho x (tc u) hx hv 29 (tc t) B (by rw [sizeT, tc_size]) rfl (tc_one u)
    (h _ (setRow_heap w x _ _ _ _ B) ⟨rfl, rfl, rfl, by simp, fun k _ hk => setRow_other w x k _ (fun e => hk (by rw [e]))⟩)
theorem TB.made (w : World) (t : T) : TB (w.alloc (.cells (tc t) 29)) w.heap.size t := heap_alloc_new w _
theorem wpList_boxT (hg : o.guard = none) (z : Operand) (ho : o.op = .box 29 z) {t : T} (hx : a.eval z = .agg (tc t))
    (h : ∀ W x, TB W x t → w.grownBy W none → w.heap.size ≤ x → wpList Try.prog ops Q rest (a.put o.dst (.pointer (some ⟨x, 0, none⟩))) W) : wpList Try.prog ops Q (o :: rest) a w :=
  wpList_plain hg fun K' hK' => by
    have e : (newRow 29 (tc t)).run Try.prog w = .ok ⟨w.heap.size, 0, none⟩ (w.alloc (.cells (tc t) 29)) := by simp [newRow, go_sem]
    unfold Oper.wp execOp
    simp only [ho, hx, Instr.box, newVar, Value.cells, Sem.run_bind, e, Result.andThen_ok, Sem.run_pure]
    exact hK' _ _ (h _ _ (TB.made w t) (gbAlloc _ _ _) (Nat.le_refl _))
theorem run_zeroT (w : World) : (zeroValue 29).run Try.prog w = .ok (.agg (tc T0)) w := by kernel_rfl
theorem wpList_allocT (hg : o.guard = none) (ho : o.op = .alloc 29)
    (h : ∀ W x, TB W x T0 → w.grownBy W none → w.heap.size ≤ x → wpList Try.prog ops Q rest (a.put o.dst (.pointer (some ⟨x, 0, none⟩))) W) : wpList Try.prog ops Q (o :: rest) a w :=
  wpList_plain hg fun K' hK' => by
    have e : (newRow 29 (tc T0)).run Try.prog w = .ok ⟨w.heap.size, 0, none⟩ (w.alloc (.cells (tc T0) 29)) := by simp [newRow, go_sem]
    unfold Oper.wp execOp
    simp only [ho, Instr.alloc, newVar, Value.cells, Sem.run_bind, run_zeroT, e, Result.andThen_ok, Sem.run_pure]
    exact hK' _ _ (h _ _ (TB.made w T0) (gbAlloc _ _ _) (Nat.le_refl _))
end
theorem run_nilT (w : World) : (Instr.build 29 #[]).run Try.prog w = .ok (.agg (tc T0)) w := run_build w _ _ _ (by kernel_rfl)

/-! ### Regions that read, with calls that make memory -/
/-- A world that W has grown into. -/
structure Gr (W : World) where
  w : World
  g : W.grownBy w none
theorem grNE (W : World) : Nonempty (Gr W) := ⟨⟨W, gbRefl W none⟩⟩

theorem wp_region_grown {P : Program} {id : Nat} {Q : Exit → Act → World → Prop} {a : Act} {w : World} {l : List Oper} (hm : P.follows .mixedOrders = true) (hB : Region.lexB .any l.toArray = true)
    (h : Nonempty (Gr w) → wpQuiet P l.toArray (fun w' => ∃ x : Gr w, w' = x.w) (fun a' => ∀ w', (∃ x : Gr w, w' = x.w) → Q .normal a' w') l a) : (Code.region id l.toArray true).wp P Q a w :=
  wp_region_quiet (C := fun w' => ∃ x : Gr w, w' = x.w) hm hB ⟨⟨_, gbDrewN w 1 none⟩, rfl⟩ (by simpa using h (grNE w))

theorem callsGr {P : Program} {f : FuncId} {args : Array Value} {w : World} {x : Gr w} {v : Value} (h : Calls P f args x.w fun e w' => e = .returned v ∧ x.w.grownBy w' none) :
    Calls P f args x.w fun e w'' => e = .returned v ∧ ∃ y : Gr w, w'' = y.w :=
  h.mono fun _ w1 ⟨he, hg⟩ => ⟨he, ⟨w1, gbTrans x.g hg⟩, rfl⟩


end Go.Proofs.Ytaojiojbpkldkaa
