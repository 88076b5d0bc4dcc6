/-
  WORLDS THAT ONLY GROW: frames, regions whose operations read and whose callees only make memory (one walk of the lexical order serves every order). Speaks of no function of the program.
-/
import Derived.WalkKit
import Derived.WalkSpells
import Derived.WalkLawsBesides
import Derived.Deep.OwnRows
import Derived.Deep.Draws
import Derived.Deep.QuietTactic
import Derived.BigQuiet
import Derived.Laws.StructEq
import Derived.Deep.MidRow
import Derived.Deep.Cut
import Derived.Test.YteekgfdffofnaaaRows
import Derived.Test.YteekgfdffofnaaaMath
namespace Go.Proofs.Yteekgfdffofnaaa
set_option maxRecDepth 10000
open Go.RowKit
set_option linter.unusedVariables false

theorem hideIt {p : Prop} (h : p) : Hid p := h
theorem ret_bool {a b : Bool} (h : a = b) : Ending.returned (.bool a) = .returned (.bool b) := by rw [h]
theorem ret_int {k : IntKind} {a b : Int} (h : a = b) : Ending.returned (.int k a) = .returned (.int k b) := by rw [h]
theorem ret_int2 {k l : IntKind} {a b : Int} {c : Int} (h : a = b) : Ending.returned (.tuple #[.int k a, .int l c]) = .returned (.tuple #[.int k b, .int l c]) := by rw [h]

/-! ### Worlds -/
theorem gbRefl (w : World) (r : Option Nat) : w.grownBy w r := ⟨rfl, rfl, rfl, Nat.le_refl _, fun _ _ _ => rfl⟩
theorem gbTrans {a b c : World} {r : Option Nat} (h : a.grownBy b r) (k : b.grownBy c r) : a.grownBy c r :=
  ⟨k.os.trans h.os, k.tape.trans h.tape, k.output.trans h.output, Nat.le_trans h.size k.size, fun i hi hr => (k.block i (Nat.lt_of_lt_of_le hi h.size) hr).trans (h.block i hi hr)⟩
theorem gbAny {a b : World} (h : a.grownBy b none) (r : Option Nat) : a.grownBy b r :=
  ⟨h.os, h.tape, h.output, h.size, fun i hi _ => h.block i hi (by simp)⟩
theorem gbDrewN (w : World) (q : Nat) (r : Option Nat) : w.grownBy (w.drewN q) r := ⟨rfl, rfl, rfl, Nat.le_refl _, fun _ _ _ => rfl⟩
theorem gbSetCell (w : World) (b i : Nat) (v : Value) : w.grownBy (w.setCell ⟨b, i, none⟩ v) (some b) :=
  ⟨rfl, rfl, rfl, by simp [World.setCell], fun k _ hk => Below.heap_setCell _ _ _ _ (fun e => hk (by rw [e]))⟩
theorem gbAlloc (w : World) (o : Obj) (r : Option Nat) : w.grownBy (w.alloc o) r :=
  ⟨rfl, rfl, rfl, by simp, fun k hk _ => by unfold World.alloc; rw [Array.getElem?_push, if_neg (Nat.ne_of_lt hk)]⟩
/-- What was written is a block that was not there: seen from before, nothing was written. -/
theorem gbNew {a b : World} {g : Nat} (h : a.grownBy b (some g)) (hg : a.heap.size ≤ g) : a.grownBy b none :=
  ⟨h.os, h.tape, h.output, h.size, fun i hi _ => h.block i hi (fun e => by simp at e; omega)⟩
theorem gbBelow {B : Nat} {w0 a b : World} {r : Option Nat} (h : Below B w0 a) (g : a.grownBy b r) (hB : B ≤ w0.heap.size) (hr : ∀ k, r = some k → B ≤ k) : Below B w0 b :=
  h.grown g (Nat.le_trans hB h.size) hr
theorem gbEnd {w w' : World} (g : w.grownBy w' none) : Below w.heap.size w w' :=
  gbBelow (Below.refl _ _) g (Nat.le_refl _) (by simp)
theorem gbSetNew {w w1 : World} (h : w.grownBy w1 none) (b i : Nat) (v : Value) (hb : w.heap.size ≤ b) : w.grownBy (w1.setCell ⟨b, i, none⟩ v) none :=
  gbNew (gbTrans (gbAny h _) (gbSetCell _ _ _ _)) hb
theorem gbDrew {w w1 : World} (h : w.grownBy w1 none) : w.grownBy w1.drew none := gbTrans h (gbDrewN _ 1 none)
theorem gbAllocN {w w1 : World} (h : w.grownBy w1 none) (o : Obj) : w.grownBy (w1.alloc o) none := gbTrans h (gbAlloc _ _ _)
theorem gbFrozen {w w' : World} {b i : Nat} {r : Option Nat} (g : w.grownBy w' r) (hb : b < w.heap.size) (hr : some b ≠ r) : w'.frozen? ⟨b, i, none⟩ = w.frozen? ⟨b, i, none⟩ := by
  unfold World.frozen?
  rw [g.block b hb hr]


/-! ### Rows of cells -/
/-- A block that is the cells c of a thing of type t. -/
def Rw (w : World) (x : Nat) (t : TypeId) (c : Array Value) : Prop := w.heap[x]? = some (.cells c t (0, 0))
theorem Rw.lt {w : World} {x : Nat} {t : TypeId} {c : Array Value} (h : Rw w x t c) : x < w.heap.size := (Array.getElem?_eq_some_iff.1 h).1
theorem Rw.keep {w w' : World} {x : Nat} {t : TypeId} {c : Array Value} {r : Option Nat} (h : Rw w x t c) (g : w.grownBy w' r) (hr : some x ≠ r) : Rw w' x t c := (g.block x h.lt hr).trans h
theorem Rw.kept {w w' : World} {x : Nat} {t : TypeId} {c : Array Value} (h : Rw w x t c) (g : w.grownBy w' none) : Rw w' x t c := h.keep g (by simp)
theorem Rw.aside {w w' : World} {x y : Nat} {t : TypeId} {c : Array Value} (h : Rw w x t c) (g : w.grownBy w' (some y)) (hy : x ≠ y) : Rw w' x t c := h.keep g (by simp; exact hy)
theorem Rw.cell {w : World} {x : Nat} {t : TypeId} {c : Array Value} (h : Rw w x t c) (i : Nat) : w.cell? ⟨x, i, none⟩ = c[i]? := cell_of_row w x i _ _ _ h
theorem Rw.fr {w : World} {x : Nat} {t : TypeId} {c : Array Value} (h : Rw w x t c) (i : Nat) : w.frozen? ⟨x, i, none⟩ = false := frozen_of_row w x i _ _ h
theorem Rw.apart {w : World} {x y : Nat} {t : TypeId} {c : Array Value} (B : Rw w x t c) (h : w.heap.size ≤ y) : x ≠ y := by
  have := B.lt
  omega
theorem Rw.made (w : World) (c : Array Value) (t : TypeId) : Rw (w.alloc (.cells c t)) w.heap.size t c := heap_alloc_new w _
theorem Rw.set {w : World} {x : Nat} {t : TypeId} {c d : Array Value} (h : Rw w x t c) (i : Nat) (v : Value) (e : c.setIfInBounds i v = d) : Rw (w.setCell ⟨x, i, none⟩ v) x t d := by
  unfold Rw
  rw [heap_setCell_same w x i _ _ _ h, e]
/-- A thing was made and stored into: seen from before nothing was written. -/
theorem gbMade {w w1 V W : World} {x : Nat} (G : w.grownBy w1 none) (k : w1.grownBy V none) (l : w1.heap.size ≤ x) (h : V.grownBy W (some x)) : w.grownBy W none :=
  gbNew (gbTrans (gbAny (gbTrans G k) _) h) (Nat.le_trans G.size l)
theorem Rw.past {w1 V W : World} {x y : Nat} {t : TypeId} {c : Array Value} (B : Rw w1 y t c) (k : w1.grownBy V none) (l : w1.heap.size ≤ x) (h : V.grownBy W (some x)) : Rw W y t c :=
  (B.kept k).aside h (B.apart l)

/-! ### Instructions, registers, effects -/
/-- An instruction. -/
structure I where
  o : Int
  a : Int
  b : Int
  m : Int
/-- An instruction as a value. -/
abbrev iv (i : I) : Value := .agg #[.int .i64 i.o, .int .i64 i.a, .int .i64 i.b, .int .i64 i.m]
abbrev I.zero : I := ⟨0, 0, 0, 0⟩
/-- Eight registers. -/
def rl (f : Nat → Int) : List Value := [.int .u64 (f 0), .int .u64 (f 1), .int .u64 (f 2), .int .u64 (f 3), .int .u64 (f 4), .int .u64 (f 5), .int .u64 (f 6), .int .u64 (f 7)]
def rc (f : Nat → Int) : Array Value := (rl f).toArray
/-- No register is anything. -/
def nil8 : Nat → Int := fun _ => 0
/-- One register is written. -/
def upd (f : Nat → Int) (i : Nat) (v : Int) : Nat → Int := fun j => if j = i then v else f j
/-- What comes of an instruction: the registers, where it goes on, what it asks for, where, into which register, what. -/
structure E where
  f : Nat → Int
  p : Int
  k : Int
  t : Int
  r : Int
  v : Int
def el (e : E) : List Value := [.int .u64 (e.f 0), .int .u64 (e.f 1), .int .u64 (e.f 2), .int .u64 (e.f 3), .int .u64 (e.f 4), .int .u64 (e.f 5), .int .u64 (e.f 6), .int .u64 (e.f 7), .int .i64 e.p, .int .i64 e.k, .int .u64 e.t, .int .i64 e.r, .int .u64 e.v]
def ec (e : E) : Array Value := (el e).toArray
def E0 : E := ⟨nil8, 0, 0, 0, 0, 0⟩

abbrev ic (i : I) : Array Value := #[.int .i64 i.o, .int .i64 i.a, .int .i64 i.b, .int .i64 i.m]
/-- An instruction's cells, one by one. -/
structure I4 (w : World) (x : Nat) (i : I) : Prop where
  at0 : w.cell? ⟨x, 0, none⟩ = some (.int .i64 i.o)
  at1 : w.cell? ⟨x, 1, none⟩ = some (.int .i64 i.a)
  at2 : w.cell? ⟨x, 2, none⟩ = some (.int .i64 i.b)
  at3 : w.cell? ⟨x, 3, none⟩ = some (.int .i64 i.m)
theorem Rw.four {w : World} {x : Nat} {t : TypeId} {i : I} (h : Rw w x t (ic i)) : I4 w x i := ⟨h.cell 0, h.cell 1, h.cell 2, h.cell 3⟩
theorem ic_one (i : I) : (ic i).all (·.oneCell') = true := by
  refine all_oneCell_toArray (cs := [.int .i64 i.o, .int .i64 i.a, .int .i64 i.b, .int .i64 i.m]) fun v hv => ?_
  simp only [List.mem_cons, List.not_mem_nil, or_false] at hv
  rcases hv with rfl | rfl | rfl | rfl <;> rfl

theorem rc_size (f : Nat → Int) : (rc f).size = 8 := rfl
theorem ec_size (e : E) : (ec e).size = 13 := rfl
theorem rc_one (f : Nat → Int) : (rc f).all (·.oneCell') = true := by
  refine all_oneCell_toArray fun v hv => ?_
  unfold rl at hv
  simp only [List.mem_cons, List.not_mem_nil, or_false] at hv
  rcases hv with rfl | rfl | rfl | rfl | rfl | rfl | rfl | rfl <;> rfl
theorem ec_one (e : E) : (ec e).all (·.oneCell') = true := by
  refine all_oneCell_toArray fun v hv => ?_
  unfold el at hv
  simp only [List.mem_cons, List.not_mem_nil, or_false] at hv
  rcases hv with rfl | rfl | rfl | rfl | rfl | rfl | rfl | rfl | rfl | rfl | rfl | rfl | rfl <;> rfl
theorem rc_upd (f : Nat → Int) (i : Nat) (v : Int) (h : i < 8) : (rc f).setIfInBounds i (.int .u64 v) = rc (upd f i v) := by
  have hj : i = 0 ∨ i = 1 ∨ i = 2 ∨ i = 3 ∨ i = 4 ∨ i = 5 ∨ i = 6 ∨ i = 7 := by omega
  rcases hj with rfl | rfl | rfl | rfl | rfl | rfl | rfl | rfl <;> rfl
theorem rc_at (f : Nat → Int) (i : Nat) (h : i < 8) : (rc f)[i]? = some (.int .u64 (f i)) := by
  have hj : i = 0 ∨ i = 1 ∨ i = 2 ∨ i = 3 ∨ i = 4 ∨ i = 5 ∨ i = 6 ∨ i = 7 := by omega
  rcases hj with rfl | rfl | rfl | rfl | rfl | rfl | rfl | rfl <;> rfl
theorem ec_upd (e : E) (i : Nat) (v : Int) (h : i < 8) : (ec e).setIfInBounds i (.int .u64 v) = ec { e with f := upd e.f i v } := by
  have hj : i = 0 ∨ i = 1 ∨ i = 2 ∨ i = 3 ∨ i = 4 ∨ i = 5 ∨ i = 6 ∨ i = 7 := by omega
  rcases hj with rfl | rfl | rfl | rfl | rfl | rfl | rfl | rfl <;> rfl
theorem ec_at (e : E) (i : Nat) (h : i < 8) : (ec e)[i]? = some (.int .u64 (e.f i)) := by
  have hj : i = 0 ∨ i = 1 ∨ i = 2 ∨ i = 3 ∨ i = 4 ∨ i = 5 ∨ i = 6 ∨ i = 7 := by omega
  rcases hj with rfl | rfl | rfl | rfl | rfl | rfl | rfl | rfl <;> rfl

/-! ### Loaded, stored, made: whatever the type -/
/-- A type of k cells, a struct or an array. -/
structure Tk (t : TypeId) (k : Nat) : Prop where
  sz : (Try.prog.info? t).map (·.size) = some k
  un : ∃ d, Try.prog.underlying t = some d ∧ d.isRow = true
theorem tkI : Tk 28 4 := ⟨by kernel_rfl, _, Try.underlying28, rfl⟩
theorem tkR : Tk 39 8 := ⟨by kernel_rfl, _, Try.underlying39, rfl⟩
theorem tkE : Tk 41 13 := ⟨by kernel_rfl, _, Try.underlying41, rfl⟩
theorem Rw.range {w : World} {x : Nat} {t : TypeId} {c : Array Value} (h : Rw w x t c) (o : Nat) (l : List Value) (hl : ∀ j v, l[j]? = some v → c[o + j]? = some v) : w.rangeAt x o l := fun j v hv => by
  rw [h.cell, hl j v hv]
theorem Rw.var {w : World} {x : Nat} {t : TypeId} {c : Array Value} (h : Rw w x t c) {s : TypeId} {k : Nat} (T : Tk s k) (o : Nat) (d : Array Value) (hd : d.size = k) (hl : ∀ j v, d[j]? = some v → c[o + j]? = some v) : (loadVar s ⟨x, o, none⟩).run Try.prog w = .ok (.agg d) w := by
  obtain ⟨D, h1, h2⟩ := T.un
  have e := run_loadVar_mid w x o s d.toList D (h.range o d.toList (fun j v hv => hl j v (by simpa using hv))) h1 h2 (by rw [T.sz, ← hd]; simp)
  simpa using e
theorem Rw.load {w : World} {x : Nat} {t : TypeId} {c : Array Value} (h : Rw w x t c) {s : TypeId} {k : Nat} (T : Tk s k) (o : Nat) (d : Array Value) (hd : d.size = k) (hl : ∀ j v, d[j]? = some v → c[o + j]? = some v) : (Instr.loadAt s (.pointer (some ⟨x, o, none⟩))).run Try.prog w = .ok (.agg d) w := by
  simp only [Instr.loadAt, Instr.sureAddr, Sem.run_bind, Sem.run_pure, Result.andThen_ok, h.var T o d hd hl]
theorem self0 {c : Array Value} : ∀ j v, c[j]? = some v → c[0 + j]? = some v := fun j v h => by rw [Nat.zero_add]; exact h
section
variable {w : World} {ops : Array Oper} {rest : List Oper} {o : Oper} {a : Act} {Q : Exit → Act → World → Prop}
theorem wpList_loadM (hw : Region.wanted o (yielded ops a.tmps) = true) {s : TypeId} (z : Operand) (ho : o.op = .load s z) {x p k : Nat} {t : TypeId} {c : Array Value} (d : Array Value) (hx : a.eval z = .pointer (some ⟨x, p, none⟩)) (B : Rw w x t c) (T : Tk s k) (hd : d.size = k) (hl : ∀ j v, d[j]? = some v → c[p + j]? = some v)
    (h : wpList Try.prog ops Q rest (a.put o.dst (.agg d)) w) : wpList Try.prog ops Q (o :: rest) a w :=
  BigFrame.wpList_want hw fun K' hK' => by
    unfold Oper.wp execOp
    simp only [ho, hx, Sem.run_bind, B.load T p d hd hl, Result.andThen_ok, Sem.run_pure]
    exact hK' _ _ h
theorem wpList_loadW (hw : Region.wanted o (yielded ops a.tmps) = true) {t : TypeId} (z : Operand) (ho : o.op = .load t z) {x k : Nat} {c : Array Value} (hx : a.eval z = .pointer (some ⟨x, 0, none⟩)) (B : Rw w x t c) (T : Tk t k) (hc : c.size = k)
    (h : wpList Try.prog ops Q rest (a.put o.dst (.agg c)) w) : wpList Try.prog ops Q (o :: rest) a w :=
  wpList_loadM hw z ho c hx B T hc self0 h
theorem wpList_storeW (hg : o.guard = none) {t : TypeId} (z v : Operand) (ho : o.op = .store t z v) {x k : Nat} {c d : Array Value} (hx : a.eval z = .pointer (some ⟨x, 0, none⟩)) (hv : a.eval v = .agg d) {t' : TypeId} (B : Rw w x t' c) (T : Tk t k) (hc : c.size = k) (hd : d.size = k) (h1 : d.all (·.oneCell') = true)
    (h : ∀ W, Rw W x t' d → w.grownBy W (some x) → wpList Try.prog ops Q rest (a.put o.dst undef) W) : wpList Try.prog ops Q (o :: rest) a w :=
  wpList_store_row hg t z v ho x d hx hv t' c B (by rw [T.sz, hd]) (by rw [hc, hd]) h1
    (h _ (setRow_heap w x _ _ _ _ B) ⟨rfl, rfl, rfl, by simp, fun k _ hk => setRow_other w x k _ (fun e => hk (by rw [e]))⟩)
theorem wpList_boxW (hg : o.guard = none) {t : TypeId} (z : Operand) (ho : o.op = .box t z) {c : Array Value} (hx : a.eval z = .agg c)
    (h : ∀ W x, Rw W x t c → w.grownBy W none → w.heap.size ≤ x → wpList Try.prog ops Q rest (a.put o.dst (.pointer (some ⟨x, 0, none⟩))) W) : wpList Try.prog ops Q (o :: rest) a w :=
  wpList_plain hg fun K' hK' => by
    have e : (newRow t c).run Try.prog w = .ok ⟨w.heap.size, 0, none⟩ (w.alloc (.cells c t)) := by simp [newRow, go_sem]
    unfold Oper.wp execOp
    simp only [ho, hx, Instr.box, newVar, Value.cells, Sem.run_bind, e, Result.andThen_ok, Sem.run_pure]
    exact hK' _ _ (h _ _ (Rw.made w c t) (gbAlloc _ _ _) (Nat.le_refl _))
theorem wpList_allocW (hg : o.guard = none) {t : TypeId} (ho : o.op = .alloc t) {c : Array Value} (hz : ∀ w, (zeroValue t).run Try.prog w = .ok (.agg c) w)
    (h : ∀ W x, Rw W x t c → w.grownBy W none → w.heap.size ≤ x → wpList Try.prog ops Q rest (a.put o.dst (.pointer (some ⟨x, 0, none⟩))) W) : wpList Try.prog ops Q (o :: rest) a w :=
  wpList_plain hg fun K' hK' => by
    have e : (newRow t c).run Try.prog w = .ok ⟨w.heap.size, 0, none⟩ (w.alloc (.cells c t)) := by simp [newRow, go_sem]
    unfold Oper.wp execOp
    simp only [ho, Instr.alloc, newVar, Value.cells, Sem.run_bind, hz, e, Result.andThen_ok, Sem.run_pure]
    exact hK' _ _ (h _ _ (Rw.made w c t) (gbAlloc _ _ _) (Nat.le_refl _))
theorem wpList_buildW (hg : o.guard = none) {t : TypeId} (parts : List (Nat × Operand)) (ho : o.op = .build t parts.toArray) (ps : List (Nat × Value)) (he : (parts.map fun (i, x) => (i, a.eval x)) = ps) (c : Array Value) (hb : Try.prog.built t ps = some c)
    (h : wpList Try.prog ops Q rest (a.put o.dst (.agg c)) w) : wpList Try.prog ops Q (o :: rest) a w :=
  wpList_build hg _ parts.toArray ho (by rw [List.map_toArray, he, hb]; rfl) (by rw [List.map_toArray, he, hb]; exact h)
theorem zI (w : World) : (zeroValue 28).run Try.prog w = .ok (.agg (ic I.zero)) w := by kernel_rfl
theorem zE (w : World) : (zeroValue 41).run Try.prog w = .ok (.agg (ec E0)) w := by kernel_rfl
theorem zR (w : World) : (zeroValue 39).run Try.prog w = .ok (.agg (rc nil8)) w := by kernel_rfl
end

/-! ### Results -/
theorem results_W {fn : Func} {p : Tmp} {t : TypeId} (h : fn.results = #[.cell p t]) {tmps : Array Value} {w : World} {x k : Nat} {c : Array Value} (hp : tmps.getD p undef = .pointer (some ⟨x, 0, none⟩)) (B : Rw w x t c) (T : Tk t k) (hc : c.size = k) : (results fn tmps).run Try.prog w = .ok (.agg c) w := by
  have hp' : tmps[p]?.getD undef = .pointer (some ⟨x, 0, none⟩) := by simpa using hp
  simp [results, h, hp', asAddr, B.var T 0 c hc self0]
theorem results_We {fn : Func} {p q : Tmp} {t : TypeId} (h : fn.results = #[.cell p t, .tmp q]) {tmps : Array Value} {w : World} {x k : Nat} {c : Array Value} {v : Value} (hp : tmps.getD p undef = .pointer (some ⟨x, 0, none⟩)) (hq : tmps.getD q undef = v) (B : Rw w x t c) (T : Tk t k) (hc : c.size = k) : (results fn tmps).run Try.prog w = .ok (.tuple #[.agg c, v]) w := by
  have hp' : tmps[p]?.getD undef = .pointer (some ⟨x, 0, none⟩) := by simpa using hp
  have hq' : tmps[q]?.getD undef = v := by simpa using hq
  simp [results, h, hp', hq', asAddr, B.var T 0 c hc self0]

/-! ### Regions that read, with calls that make memory -/
/-- A world that W has grown into. -/
structure Gr (W : World) where
  w : World
  g : W.grownBy w none
theorem grNE (W : World) : Nonempty (Gr W) := ⟨⟨W, gbRefl W none⟩⟩

theorem wp_region_grown {P : Program} {id : Nat} {Q : Exit → Act → World → Prop} {a : Act} {w : World} {l : List Oper} (hm : P.follows .mixedOrders = true) (hB : Region.lexB .any l.toArray = true)
    (h : Nonempty (Gr w) → wpQuiet P l.toArray (fun w' => ∃ x : Gr w, w' = x.w) (fun a' => ∀ w', (∃ x : Gr w, w' = x.w) → Q .normal a' w') l a) : (Code.region id l.toArray true).wp P Q a w :=
  wp_region_quiet (C := fun w' => ∃ x : Gr w, w' = x.w) hm hB ⟨⟨_, gbDrewN w 1 none⟩, rfl⟩ (by simpa using h (grNE w))

theorem callsGr {P : Program} {f : FuncId} {args : Array Value} {w : World} {x : Gr w} {v : Value} (h : Calls P f args x.w fun e w' => e = .returned v ∧ x.w.grownBy w' none) :
    Calls P f args x.w fun e w'' => e = .returned v ∧ ∃ y : Gr w, w'' = y.w :=
  h.mono fun _ w1 ⟨he, hg⟩ => ⟨he, ⟨w1, gbTrans x.g hg⟩, rfl⟩


end Go.Proofs.Yteekgfdffofnaaa
