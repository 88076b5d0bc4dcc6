/-
  WORLDS THAT ONLY GROW: frames, boxes of six cells and of four, regions whose operations read and whose callees only make memory (one walk of the lexical order serves every order). Speaks of no function of the program.
-/
import Derived.WalkKit
import Derived.WalkSpells
import Derived.WalkLawsBesides
import Derived.Deep.OwnRows
import Derived.Deep.Draws
import Derived.Deep.QuietTactic
import Derived.BigQuiet
import Derived.Laws.StructEq
import Derived.Test.YtpfjcfgbecoccaaRows
import Derived.Test.YtpfjcfgbecoccaaMath
namespace Go.Proofs.Ytpfjcfgbecoccaa
open Go.RowKit

theorem hideIt {p : Prop} (h : p) : Hid p := h
theorem ret_bool {a b : Bool} (h : a = b) : Ending.returned (.bool a) = .returned (.bool b) := by rw [h]
theorem ret_int {k : IntKind} {a b : Int} (h : a = b) : Ending.returned (.int k a) = .returned (.int k b) := by rw [h]
theorem ret_int2 {k l : IntKind} {a b : Int} {c : Int} (h : a = b) : Ending.returned (.tuple #[.int k a, .int l c]) = .returned (.tuple #[.int k b, .int l c]) := by rw [h]

/-! ### Worlds -/
theorem gbRefl (w : World) (r : Option Nat) : w.grownBy w r := ⟨rfl, rfl, rfl, Nat.le_refl _, fun _ _ _ => rfl⟩
theorem gbTrans {a b c : World} {r : Option Nat} (h : a.grownBy b r) (k : b.grownBy c r) : a.grownBy c r :=
  ⟨k.os.trans h.os, k.tape.trans h.tape, k.output.trans h.output, Nat.le_trans h.size k.size, fun i hi hr => (k.block i (Nat.lt_of_lt_of_le hi h.size) hr).trans (h.block i hi hr)⟩
theorem gbAny {a b : World} (h : a.grownBy b none) (r : Option Nat) : a.grownBy b r :=
  ⟨h.os, h.tape, h.output, h.size, fun i hi _ => h.block i hi (by simp)⟩
theorem gbDrewN (w : World) (q : Nat) (r : Option Nat) : w.grownBy (w.drewN q) r := ⟨rfl, rfl, rfl, Nat.le_refl _, fun _ _ _ => rfl⟩
theorem gbSetCell (w : World) (b i : Nat) (v : Value) : w.grownBy (w.setCell ⟨b, i, none⟩ v) (some b) :=
  ⟨rfl, rfl, rfl, by simp [World.setCell], fun k _ hk => Below.heap_setCell _ _ _ _ (fun e => hk (by rw [e]))⟩
theorem gbAlloc (w : World) (o : Obj) (r : Option Nat) : w.grownBy (w.alloc o) r :=
  ⟨rfl, rfl, rfl, by simp, fun k hk _ => by unfold World.alloc; rw [Array.getElem?_push, if_neg (Nat.ne_of_lt hk)]⟩
/-- What was written is a block that was not there: seen from before, nothing was written. -/
theorem gbNew {a b : World} {g : Nat} (h : a.grownBy b (some g)) (hg : a.heap.size ≤ g) : a.grownBy b none :=
  ⟨h.os, h.tape, h.output, h.size, fun i hi _ => h.block i hi (fun e => by simp at e; omega)⟩
theorem gbBelow {B : Nat} {w0 a b : World} {r : Option Nat} (h : Below B w0 a) (g : a.grownBy b r) (hB : B ≤ w0.heap.size) (hr : ∀ k, r = some k → B ≤ k) : Below B w0 b :=
  h.grown g (Nat.le_trans hB h.size) hr
theorem gbEnd {w w' : World} (g : w.grownBy w' none) : Below w.heap.size w w' :=
  gbBelow (Below.refl _ _) g (Nat.le_refl _) (by simp)
theorem gbSetNew {w w1 : World} (h : w.grownBy w1 none) (b i : Nat) (v : Value) (hb : w.heap.size ≤ b) : w.grownBy (w1.setCell ⟨b, i, none⟩ v) none :=
  gbNew (gbTrans (gbAny h _) (gbSetCell _ _ _ _)) hb
theorem gbDrew {w w1 : World} (h : w.grownBy w1 none) : w.grownBy w1.drew none := gbTrans h (gbDrewN _ 1 none)
theorem gbAllocN {w w1 : World} (h : w.grownBy w1 none) (o : Obj) : w.grownBy (w1.alloc o) none := gbTrans h (gbAlloc _ _ _)
theorem gbFrozen {w w' : World} {b i : Nat} {r : Option Nat} (g : w.grownBy w' r) (hb : b < w.heap.size) (hr : some b ≠ r) : w'.frozen? ⟨b, i, none⟩ = w.frozen? ⟨b, i, none⟩ := by
  unfold World.frozen?
  rw [g.block b hb hr]

/-! ### Capabilities, in memory -/
/-- A capability. -/
structure C where
  k : Int
  o : Int
  r : Int
  b : Int
  g : Int
  n : Int

/-- A capability as a value. -/
abbrev cv (c : C) : Value := .agg #[.int .i64 c.k, .int .i64 c.o, .int .i64 c.r, .int .u64 c.b, .int .u64 c.g, .int .i64 c.n]
abbrev C.zero : C := ⟨0, 0, 0, 0, 0, 0⟩

/-- A block of six cells, a capability's fields. -/
structure Box (w : World) (x : Nat) (c : C) : Prop where
  at0 : w.cell? ⟨x, 0, none⟩ = some (.int .i64 c.k)
  at1 : w.cell? ⟨x, 1, none⟩ = some (.int .i64 c.o)
  at2 : w.cell? ⟨x, 2, none⟩ = some (.int .i64 c.r)
  at3 : w.cell? ⟨x, 3, none⟩ = some (.int .u64 c.b)
  at4 : w.cell? ⟨x, 4, none⟩ = some (.int .u64 c.g)
  at5 : w.cell? ⟨x, 5, none⟩ = some (.int .i64 c.n)
  lt : x < w.heap.size
  fr : ∀ i, w.frozen? ⟨x, i, none⟩ = false

theorem Box.keep {w w' : World} {x : Nat} {c : C} {r : Option Nat} (h : Box w x c) (g : w.grownBy w' r) (hr : some x ≠ r) : Box w' x c :=
  ⟨g.cell h.at0 hr, g.cell h.at1 hr, g.cell h.at2 hr, g.cell h.at3 hr, g.cell h.at4 hr, g.cell h.at5 hr, Nat.lt_of_lt_of_le h.lt g.size, fun i => (gbFrozen g h.lt hr).trans (h.fr i)⟩
theorem Box.kept {w w' : World} {x : Nat} {c : C} (h : Box w x c) (g : w.grownBy w' none) : Box w' x c := h.keep g (by simp)
theorem Box.made (w : World) (c : C) : Box (w.alloc (.cells #[.int .i64 c.k, .int .i64 c.o, .int .i64 c.r, .int .u64 c.b, .int .u64 c.g, .int .i64 c.n] 36)) w.heap.size c :=
  ⟨by simp, by simp, by simp, by simp, by simp, by simp, by simp, fun i => by simp⟩

/-- A block of four cells: what is asked for. -/
structure ABox (w : World) (x : Nat) (r b g n : Int) : Prop where
  at0 : w.cell? ⟨x, 0, none⟩ = some (.int .i64 r)
  at1 : w.cell? ⟨x, 1, none⟩ = some (.int .u64 b)
  at2 : w.cell? ⟨x, 2, none⟩ = some (.int .u64 g)
  at3 : w.cell? ⟨x, 3, none⟩ = some (.int .i64 n)
  lt : x < w.heap.size

theorem ABox.keep {w w' : World} {x : Nat} {a b g n : Int} {r : Option Nat} (h : ABox w x a b g n) (k : w.grownBy w' r) (hr : some x ≠ r) : ABox w' x a b g n :=
  ⟨k.cell h.at0 hr, k.cell h.at1 hr, k.cell h.at2 hr, k.cell h.at3 hr, Nat.lt_of_lt_of_le h.lt k.size⟩
theorem ABox.kept {w w' : World} {x : Nat} {a b g n : Int} (h : ABox w x a b g n) (k : w.grownBy w' none) : ABox w' x a b g n := h.keep k (by simp)

/-! ### Regions that read, with calls that make memory -/
/-- A world that W has grown into. -/
structure Gr (W : World) where
  w : World
  g : W.grownBy w none
theorem grNE (W : World) : Nonempty (Gr W) := ⟨⟨W, gbRefl W none⟩⟩

theorem wp_region_grown {P : Program} {id : Nat} {Q : Exit → Act → World → Prop} {a : Act} {w : World} {l : List Oper} (hm : P.follows .mixedOrders = true) (hB : Region.lexB .any l.toArray = true)
    (h : Nonempty (Gr w) → wpQuiet P l.toArray (fun w' => ∃ x : Gr w, w' = x.w) (fun a' => ∀ w', (∃ x : Gr w, w' = x.w) → Q .normal a' w') l a) : (Code.region id l.toArray true).wp P Q a w :=
  wp_region_quiet (C := fun w' => ∃ x : Gr w, w' = x.w) hm hB ⟨⟨_, gbDrewN w 1 none⟩, rfl⟩ (by simpa using h (grNE w))

theorem callsGr {P : Program} {f : FuncId} {args : Array Value} {w : World} {x : Gr w} {v : Value} (h : Calls P f args x.w fun e w' => e = .returned v ∧ x.w.grownBy w' none) :
    Calls P f args x.w fun e w'' => e = .returned v ∧ ∃ y : Gr w, w'' = y.w :=
  h.mono fun _ w1 ⟨he, hg⟩ => ⟨he, ⟨w1, gbTrans x.g hg⟩, rfl⟩

/-- All cells of a box, in every world that this one grows into. -/
theorem Box.all {w : World} {x : Nat} {c : C} (h : Box w x c) :
    (∀ y : Gr w, y.w.cell? ⟨x, 0, none⟩ = some (.int .i64 c.k)) ∧ (∀ y : Gr w, y.w.cell? ⟨x, 1, none⟩ = some (.int .i64 c.o)) ∧ (∀ y : Gr w, y.w.cell? ⟨x, 2, none⟩ = some (.int .i64 c.r)) ∧
    (∀ y : Gr w, y.w.cell? ⟨x, 3, none⟩ = some (.int .u64 c.b)) ∧ (∀ y : Gr w, y.w.cell? ⟨x, 4, none⟩ = some (.int .u64 c.g)) ∧ (∀ y : Gr w, y.w.cell? ⟨x, 5, none⟩ = some (.int .i64 c.n)) :=
  ⟨fun y => (h.kept y.g).at0, fun y => (h.kept y.g).at1, fun y => (h.kept y.g).at2, fun y => (h.kept y.g).at3, fun y => (h.kept y.g).at4, fun y => (h.kept y.g).at5⟩

/-! ### Two capabilities held against one another -/
/-- Whether two capabilities are the same. -/
def M.eq (c d : C) : Bool := c.k == d.k && c.o == d.o && c.r == d.r && c.b == d.b && c.g == d.g && c.n == d.n

theorem M.eq_iff {c d : C} : M.eq c d = true ↔ c = d := by
  obtain ⟨k, o, r, b, g, n⟩ := c
  obtain ⟨k', o', r', b', g', n'⟩ := d
  simp [M.eq, and_assoc]
theorem M.eq_refl (c : C) : M.eq c c = true := M.eq_iff.2 rfl

theorem run_equal_cap (w : World) (a0 a1 a2 a3 a4 a5 b0 b1 b2 b3 b4 b5 : Int) : (Op.equalIn 10000 36 (.agg #[.int .i64 a0, .int .i64 a1, .int .i64 a2, .int .u64 a3, .int .u64 a4, .int .i64 a5]) (.agg #[.int .i64 b0, .int .i64 b1, .int .i64 b2, .int .u64 b3, .int .u64 b4, .int .i64 b5])).run Try.prog w = .ok (M.eq ⟨a0, a1, a2, a3, a4, a5⟩ ⟨b0, b1, b2, b3, b4, b5⟩) w := by
  rw [run_equalIn_agg w 9999 36 _ _ (by kernel_rfl) (by kernel_rfl)]
  simp only [go_sem, Program.fieldsOf, Try.underlying36]
  by_cases h0 : a0 = b0
  · by_cases h1 : a1 = b1
    · by_cases h2 : a2 = b2
      · by_cases h3 : a3 = b3
        · by_cases h4 : a4 = b4
          · by_cases h5 : a5 = b5
            all_goals simp [M.eq, go_sem, Try.underlying3, Try.underlying28, h0, h1, h2, h3, h4, h5]
          · simp [M.eq, go_sem, Try.underlying3, Try.underlying28, h0, h1, h2, h3, h4]
        · simp [M.eq, go_sem, Try.underlying3, Try.underlying28, h0, h1, h2, h3]
      · simp [M.eq, go_sem, Try.underlying3, Try.underlying28, h0, h1, h2]
    · simp [M.eq, go_sem, Try.underlying3, Try.underlying28, h0, h1]
  · simp [M.eq, go_sem, Try.underlying3, Try.underlying28, h0]

theorem run_eql_cap (w : World) (a0 a1 a2 a3 a4 a5 b0 b1 b2 b3 b4 b5 : Int) : (binOp .eql 36 (.agg #[.int .i64 a0, .int .i64 a1, .int .i64 a2, .int .u64 a3, .int .u64 a4, .int .i64 a5]) (.agg #[.int .i64 b0, .int .i64 b1, .int .i64 b2, .int .u64 b3, .int .u64 b4, .int .i64 b5])).run Try.prog w = .ok (.bool (M.eq ⟨a0, a1, a2, a3, a4, a5⟩ ⟨b0, b1, b2, b3, b4, b5⟩)) w := by
  rw [run_eql_struct, run_equal_cap]; rfl
theorem run_neq_cap (w : World) (a0 a1 a2 a3 a4 a5 b0 b1 b2 b3 b4 b5 : Int) : (binOp .neq 36 (.agg #[.int .i64 a0, .int .i64 a1, .int .i64 a2, .int .u64 a3, .int .u64 a4, .int .i64 a5]) (.agg #[.int .i64 b0, .int .i64 b1, .int .i64 b2, .int .u64 b3, .int .u64 b4, .int .i64 b5])).run Try.prog w = .ok (.bool (!M.eq ⟨a0, a1, a2, a3, a4, a5⟩ ⟨b0, b1, b2, b3, b4, b5⟩)) w := by
  rw [run_neq_struct, run_equal_cap]; rfl

theorem eqGuardCap : Try.prog.eqGuardType Try.prog.depth 36 = false := by kernel_rfl
/-! ### A capability that is laid, or written over -/
theorem boxNew (w : World) (c : C) : ∃ W, w.alloc (.cells #[.int .i64 c.k, .int .i64 c.o, .int .i64 c.r, .int .u64 c.b, .int .u64 c.g, .int .i64 c.n] 36) = W ∧ Box W w.heap.size c ∧ w.grownBy W none :=
  ⟨_, rfl, Box.made w c, gbAlloc _ _ _⟩
theorem Box.put {w : World} {x : Nat} {c : C} (h : Box w x c) (d : C) :
    ∃ W, ((((((w.setCell ⟨x, 0, none⟩ (.int .i64 d.k)).setCell ⟨x, 1, none⟩ (.int .i64 d.o)).setCell ⟨x, 2, none⟩ (.int .i64 d.r)).setCell ⟨x, 3, none⟩ (.int .u64 d.b)).setCell ⟨x, 4, none⟩ (.int .u64 d.g)).setCell ⟨x, 5, none⟩ (.int .i64 d.n)) = W ∧
      Box W x d ∧ w.grownBy W (some x) := by
  obtain ⟨a0, a1, a2, a3, a4, a5, lt, fr⟩ := h
  refine ⟨_, rfl, ⟨?_, ?_, ?_, ?_, ?_, ?_, ?_, ?_⟩, ?_⟩
  · exact ((World.cell?_setCell_other _ _ _ _ (by simp)).trans ((World.cell?_setCell_other _ _ _ _ (by simp)).trans ((World.cell?_setCell_other _ _ _ _ (by simp)).trans ((World.cell?_setCell_other _ _ _ _ (by simp)).trans ((World.cell?_setCell_other _ _ _ _ (by simp)).trans (World.cell?_setCell_same _ _ _ a0))))))
  · exact ((World.cell?_setCell_other _ _ _ _ (by simp)).trans ((World.cell?_setCell_other _ _ _ _ (by simp)).trans ((World.cell?_setCell_other _ _ _ _ (by simp)).trans ((World.cell?_setCell_other _ _ _ _ (by simp)).trans (World.cell?_setCell_same _ _ _ ((World.cell?_setCell_other _ _ _ _ (by simp)).trans a1))))))
  · exact ((World.cell?_setCell_other _ _ _ _ (by simp)).trans ((World.cell?_setCell_other _ _ _ _ (by simp)).trans ((World.cell?_setCell_other _ _ _ _ (by simp)).trans (World.cell?_setCell_same _ _ _ ((World.cell?_setCell_other _ _ _ _ (by simp)).trans ((World.cell?_setCell_other _ _ _ _ (by simp)).trans a2))))))
  · exact ((World.cell?_setCell_other _ _ _ _ (by simp)).trans ((World.cell?_setCell_other _ _ _ _ (by simp)).trans (World.cell?_setCell_same _ _ _ ((World.cell?_setCell_other _ _ _ _ (by simp)).trans ((World.cell?_setCell_other _ _ _ _ (by simp)).trans ((World.cell?_setCell_other _ _ _ _ (by simp)).trans a3))))))
  · exact ((World.cell?_setCell_other _ _ _ _ (by simp)).trans (World.cell?_setCell_same _ _ _ ((World.cell?_setCell_other _ _ _ _ (by simp)).trans ((World.cell?_setCell_other _ _ _ _ (by simp)).trans ((World.cell?_setCell_other _ _ _ _ (by simp)).trans ((World.cell?_setCell_other _ _ _ _ (by simp)).trans a4))))))
  · exact (World.cell?_setCell_same _ _ _ ((World.cell?_setCell_other _ _ _ _ (by simp)).trans ((World.cell?_setCell_other _ _ _ _ (by simp)).trans ((World.cell?_setCell_other _ _ _ _ (by simp)).trans ((World.cell?_setCell_other _ _ _ _ (by simp)).trans ((World.cell?_setCell_other _ _ _ _ (by simp)).trans a5))))))
  · simpa [World.setCell] using lt
  · intro i; simpa using fr i
  · exact gbTrans (gbTrans (gbTrans (gbTrans (gbTrans (gbSetCell _ _ _ _) (gbSetCell _ _ _ _)) (gbSetCell _ _ _ _)) (gbSetCell _ _ _ _)) (gbSetCell _ _ _ _)) (gbSetCell _ _ _ _)

end Go.Proofs.Ytpfjcfgbecoccaa
