/-
  WORLDS THAT ONLY GROW: frames, boxes of three cells, regions whose operations read and whose callees only make memory (one walk of the lexical order serves every order). Speaks of no function of the program.
-/
import Derived.WalkKit
import Derived.WalkSpells
import Derived.WalkLawsBesides
import Derived.Deep.OwnRows
import Derived.Deep.Draws
import Derived.Deep.QuietTactic
import Derived.BigQuiet
import Derived.Laws.StructEq
import Derived.Test.YtgimgbbiojkfgaaRows
import Derived.Test.YtgimgbbiojkfgaaMath
namespace Go.Proofs.Ytgimgbbiojkfgaa
open Go.RowKit

theorem hideIt {p : Prop} (h : p) : Hid p := h
theorem ret_bool {a b : Bool} (h : a = b) : Ending.returned (.bool a) = .returned (.bool b) := by rw [h]
theorem ret_int {k : IntKind} {a b : Int} (h : a = b) : Ending.returned (.int k a) = .returned (.int k b) := by rw [h]
theorem ret_int2 {k l : IntKind} {a b : Int} {c : Int} (h : a = b) : Ending.returned (.tuple #[.int k a, .int l c]) = .returned (.tuple #[.int k b, .int l c]) := by rw [h]

/-! ### Worlds -/
theorem gbRefl (w : World) (r : Option Nat) : w.grownBy w r := ⟨rfl, rfl, rfl, Nat.le_refl _, fun _ _ _ => rfl⟩
theorem gbTrans {a b c : World} {r : Option Nat} (h : a.grownBy b r) (k : b.grownBy c r) : a.grownBy c r :=
  ⟨k.os.trans h.os, k.tape.trans h.tape, k.output.trans h.output, Nat.le_trans h.size k.size, fun i hi hr => (k.block i (Nat.lt_of_lt_of_le hi h.size) hr).trans (h.block i hi hr)⟩
theorem gbAny {a b : World} (h : a.grownBy b none) (r : Option Nat) : a.grownBy b r :=
  ⟨h.os, h.tape, h.output, h.size, fun i hi _ => h.block i hi (by simp)⟩
theorem gbDrewN (w : World) (q : Nat) (r : Option Nat) : w.grownBy (w.drewN q) r := ⟨rfl, rfl, rfl, Nat.le_refl _, fun _ _ _ => rfl⟩
theorem gbSetCell (w : World) (b i : Nat) (v : Value) : w.grownBy (w.setCell ⟨b, i, none⟩ v) (some b) :=
  ⟨rfl, rfl, rfl, by simp [World.setCell], fun k _ hk => Below.heap_setCell _ _ _ _ (fun e => hk (by rw [e]))⟩
theorem gbAlloc (w : World) (o : Obj) (r : Option Nat) : w.grownBy (w.alloc o) r :=
  ⟨rfl, rfl, rfl, by simp, fun k hk _ => by unfold World.alloc; rw [Array.getElem?_push, if_neg (Nat.ne_of_lt hk)]⟩
/-- What was written is a block that was not there: seen from before, nothing was written. -/
theorem gbNew {a b : World} {g : Nat} (h : a.grownBy b (some g)) (hg : a.heap.size ≤ g) : a.grownBy b none :=
  ⟨h.os, h.tape, h.output, h.size, fun i hi _ => h.block i hi (fun e => by simp at e; omega)⟩
theorem gbBelow {B : Nat} {w0 a b : World} {r : Option Nat} (h : Below B w0 a) (g : a.grownBy b r) (hB : B ≤ w0.heap.size) (hr : ∀ k, r = some k → B ≤ k) : Below B w0 b :=
  h.grown g (Nat.le_trans hB h.size) hr
theorem gbEnd {w w' : World} (g : w.grownBy w' none) : Below w.heap.size w w' :=
  gbBelow (Below.refl _ _) g (Nat.le_refl _) (by simp)
theorem gbSetNew {w w1 : World} (h : w.grownBy w1 none) (b i : Nat) (v : Value) (hb : w.heap.size ≤ b) : w.grownBy (w1.setCell ⟨b, i, none⟩ v) none :=
  gbNew (gbTrans (gbAny h _) (gbSetCell _ _ _ _)) hb
theorem gbDrew {w w1 : World} (h : w.grownBy w1 none) : w.grownBy w1.drew none := gbTrans h (gbDrewN _ 1 none)
theorem gbAllocN {w w1 : World} (h : w.grownBy w1 none) (o : Obj) : w.grownBy (w1.alloc o) none := gbTrans h (gbAlloc _ _ _)
theorem gbFrozen {w w' : World} {b i : Nat} {r : Option Nat} (g : w.grownBy w' r) (hb : b < w.heap.size) (hr : some b ≠ r) : w'.frozen? ⟨b, i, none⟩ = w.frozen? ⟨b, i, none⟩ := by
  unfold World.frozen?
  rw [g.block b hb hr]

/-! ### Infos, in memory -/
/-- What a message's first word tells. -/
structure I where
  l : Int
  n : Int
  c : Bool

/-- An info as a value. -/
abbrev iv (e : I) : Value := .agg #[.int .u64 e.l, .int .i64 e.n, .bool e.c]
abbrev I.zero : I := ⟨0, 0, false⟩

/-- A block of three cells, an info's fields. -/
structure Box (w : World) (x : Nat) (e : I) : Prop where
  at0 : w.cell? ⟨x, 0, none⟩ = some (.int .u64 e.l)
  at1 : w.cell? ⟨x, 1, none⟩ = some (.int .i64 e.n)
  at2 : w.cell? ⟨x, 2, none⟩ = some (.bool e.c)
  lt : x < w.heap.size
  fr : ∀ i, w.frozen? ⟨x, i, none⟩ = false

theorem Box.keep {w w' : World} {x : Nat} {c : I} {r : Option Nat} (h : Box w x c) (g : w.grownBy w' r) (hr : some x ≠ r) : Box w' x c :=
  ⟨g.cell h.at0 hr, g.cell h.at1 hr, g.cell h.at2 hr, Nat.lt_of_lt_of_le h.lt g.size, fun i => (gbFrozen g h.lt hr).trans (h.fr i)⟩
theorem Box.kept {w w' : World} {x : Nat} {c : I} (h : Box w x c) (g : w.grownBy w' none) : Box w' x c := h.keep g (by simp)
theorem Box.made (w : World) (c : I) (t : TypeId) : Box (w.alloc (.cells #[.int .u64 c.l, .int .i64 c.n, .bool c.c] t)) w.heap.size c :=
  ⟨by simp, by simp, by simp, by simp, fun i => by simp⟩
theorem boxNew (w : World) (c : I) (t : TypeId) : ∃ W, w.alloc (.cells #[.int .u64 c.l, .int .i64 c.n, .bool c.c] t) = W ∧ Box W w.heap.size c ∧ w.grownBy W none :=
  ⟨_, rfl, Box.made w c t, gbAlloc _ _ _⟩

/-! ### Regions that read, with calls that make memory -/
/-- A world that W has grown into. -/
structure Gr (W : World) where
  w : World
  g : W.grownBy w none
theorem grNE (W : World) : Nonempty (Gr W) := ⟨⟨W, gbRefl W none⟩⟩

theorem wp_region_grown {P : Program} {id : Nat} {Q : Exit → Act → World → Prop} {a : Act} {w : World} {l : List Oper} (hm : P.follows .mixedOrders = true) (hB : Region.lexB .any l.toArray = true)
    (h : Nonempty (Gr w) → wpQuiet P l.toArray (fun w' => ∃ x : Gr w, w' = x.w) (fun a' => ∀ w', (∃ x : Gr w, w' = x.w) → Q .normal a' w') l a) : (Code.region id l.toArray true).wp P Q a w :=
  wp_region_quiet (C := fun w' => ∃ x : Gr w, w' = x.w) hm hB ⟨⟨_, gbDrewN w 1 none⟩, rfl⟩ (by simpa using h (grNE w))

theorem callsGr {P : Program} {f : FuncId} {args : Array Value} {w : World} {x : Gr w} {v : Value} (h : Calls P f args x.w fun e w' => e = .returned v ∧ x.w.grownBy w' none) :
    Calls P f args x.w fun e w'' => e = .returned v ∧ ∃ y : Gr w, w'' = y.w :=
  h.mono fun _ w1 ⟨he, hg⟩ => ⟨he, ⟨w1, gbTrans x.g hg⟩, rfl⟩

/-- All cells of a box, in every world that this one grows into. -/
theorem Box.all {w : World} {x : Nat} {c : I} (h : Box w x c) :
    (∀ y : Gr w, y.w.cell? ⟨x, 0, none⟩ = some (.int .u64 c.l)) ∧ (∀ y : Gr w, y.w.cell? ⟨x, 1, none⟩ = some (.int .i64 c.n)) ∧ (∀ y : Gr w, y.w.cell? ⟨x, 2, none⟩ = some (.bool c.c)) :=
  ⟨fun y => (h.kept y.g).at0, fun y => (h.kept y.g).at1, fun y => (h.kept y.g).at2⟩

/-! ### Two infos held against one another -/
/-- Whether two infos are the same. -/
def M.eq (c d : I) : Bool := c.l == d.l && c.n == d.n && c.c == d.c

theorem M.eq_iff {c d : I} : M.eq c d = true ↔ c = d := by
  obtain ⟨k, o, r⟩ := c
  obtain ⟨k', o', r'⟩ := d
  simp [M.eq, and_assoc]
theorem M.eq_refl (c : I) : M.eq c c = true := M.eq_iff.2 rfl

theorem run_equal_p (w : World) (a0 b0 a1 b1 : Int) (a2 b2 : Bool) : (Op.equalIn 10000 28 (.agg #[.int .u64 a0, .int .i64 a1, .bool a2]) (.agg #[.int .u64 b0, .int .i64 b1, .bool b2])).run Try.prog w = .ok (M.eq ⟨a0, a1, a2⟩ ⟨b0, b1, b2⟩) w := by
  rw [run_equalIn_agg w 9999 28 _ _ (by kernel_rfl) (by kernel_rfl)]
  simp only [go_sem, Program.fieldsOf, Try.underlying28]
  by_cases h0 : a0 = b0
  · by_cases h1 : a1 = b1
    · by_cases h2 : a2 = b2
      all_goals simp [M.eq, go_sem, Try.underlying3, Try.underlying22, Try.underlying4, h0, h1, h2]
    · simp [M.eq, go_sem, Try.underlying3, Try.underlying22, Try.underlying4, h0, h1]
  · simp [M.eq, go_sem, Try.underlying3, Try.underlying22, Try.underlying4, h0]
theorem run_neq_p (w : World) (a0 b0 a1 b1 : Int) (a2 b2 : Bool) : (binOp .neq 28 (.agg #[.int .u64 a0, .int .i64 a1, .bool a2]) (.agg #[.int .u64 b0, .int .i64 b1, .bool b2])).run Try.prog w = .ok (.bool (!M.eq ⟨a0, a1, a2⟩ ⟨b0, b1, b2⟩)) w := by
  rw [run_neq_struct, run_equal_p]; rfl
theorem eqGuard_p : Try.prog.eqGuardType Try.prog.depth 28 = false := by kernel_rfl
end Go.Proofs.Ytgimgbbiojkfgaa
