/-
  WORLDS THAT ONLY GROW: frames, boxes of six cells and of four, regions whose operations read and whose callees only make memory (one walk of the lexical order serves every order). Speaks of no function of the program.
-/
import Derived.WalkKit
import Derived.WalkSpells
import Derived.WalkLawsBesides
import Derived.Deep.OwnRows
import Derived.Deep.Draws
import Derived.Deep.QuietTactic
import Derived.BigQuiet
import Derived.Laws.StructEq
import Derived.Test.YtdnoidnpiaadaaaGreatRows
import Derived.Test.YtdnoidnpiaadaaaGreatMath
namespace Go.Proofs.YtdnoidnpiaadaaaGreat
open Go.RowKit

theorem hideIt {p : Prop} (h : p) : Hid p := h
theorem ret_bool {a b : Bool} (h : a = b) : Ending.returned (.bool a) = .returned (.bool b) := by rw [h]
theorem ret_int {k : IntKind} {a b : Int} (h : a = b) : Ending.returned (.int k a) = .returned (.int k b) := by rw [h]
/-! ### Worlds -/
theorem gbRefl (w : World) (r : Option Nat) : w.grownBy w r := ⟨rfl, rfl, rfl, Nat.le_refl _, fun _ _ _ => rfl⟩
theorem gbTrans {a b c : World} {r : Option Nat} (h : a.grownBy b r) (k : b.grownBy c r) : a.grownBy c r :=
  ⟨k.os.trans h.os, k.tape.trans h.tape, k.output.trans h.output, Nat.le_trans h.size k.size, fun i hi hr => (k.block i (Nat.lt_of_lt_of_le hi h.size) hr).trans (h.block i hi hr)⟩
theorem gbAny {a b : World} (h : a.grownBy b none) (r : Option Nat) : a.grownBy b r :=
  ⟨h.os, h.tape, h.output, h.size, fun i hi _ => h.block i hi (by simp)⟩
theorem gbDrewN (w : World) (q : Nat) (r : Option Nat) : w.grownBy (w.drewN q) r := ⟨rfl, rfl, rfl, Nat.le_refl _, fun _ _ _ => rfl⟩
theorem gbSetCell (w : World) (b i : Nat) (v : Value) : w.grownBy (w.setCell ⟨b, i, none⟩ v) (some b) :=
  ⟨rfl, rfl, rfl, by simp [World.setCell], fun k _ hk => Below.heap_setCell _ _ _ _ (fun e => hk (by rw [e]))⟩
theorem gbAlloc (w : World) (o : Obj) (r : Option Nat) : w.grownBy (w.alloc o) r :=
  ⟨rfl, rfl, rfl, by simp, fun k hk _ => by unfold World.alloc; rw [Array.getElem?_push, if_neg (Nat.ne_of_lt hk)]⟩
/-- What was written is a block that was not there: seen from before, nothing was written. -/
theorem gbNew {a b : World} {g : Nat} (h : a.grownBy b (some g)) (hg : a.heap.size ≤ g) : a.grownBy b none :=
  ⟨h.os, h.tape, h.output, h.size, fun i hi _ => h.block i hi (fun e => by simp at e; omega)⟩
theorem gbBelow {B : Nat} {w0 a b : World} {r : Option Nat} (h : Below B w0 a) (g : a.grownBy b r) (hB : B ≤ w0.heap.size) (hr : ∀ k, r = some k → B ≤ k) : Below B w0 b :=
  h.grown g (Nat.le_trans hB h.size) hr
theorem gbEnd {w w' : World} (g : w.grownBy w' none) : Below w.heap.size w w' :=
  gbBelow (Below.refl _ _) g (Nat.le_refl _) (by simp)
theorem gbSetNew {w w1 : World} (h : w.grownBy w1 none) (b i : Nat) (v : Value) (hb : w.heap.size ≤ b) : w.grownBy (w1.setCell ⟨b, i, none⟩ v) none :=
  gbNew (gbTrans (gbAny h _) (gbSetCell _ _ _ _)) hb
theorem gbDrew {w w1 : World} (h : w.grownBy w1 none) : w.grownBy w1.drew none := gbTrans h (gbDrewN _ 1 none)
theorem gbAllocN {w w1 : World} (h : w.grownBy w1 none) (o : Obj) : w.grownBy (w1.alloc o) none := gbTrans h (gbAlloc _ _ _)
theorem gbFrozen {w w' : World} {b i : Nat} {r : Option Nat} (g : w.grownBy w' r) (hb : b < w.heap.size) (hr : some b ≠ r) : w'.frozen? ⟨b, i, none⟩ = w.frozen? ⟨b, i, none⟩ := by
  unfold World.frozen?
  rw [g.block b hb hr]

/-! ### Capabilities, in memory -/
/-- A capability. -/
structure C where
  k : Int
  o : Int
  r : Int
  b : Int
  g : Int
  n : Int

/-- A capability as a value. -/
abbrev cv (c : C) : Value := .agg #[.int .i64 c.k, .int .i64 c.o, .int .i64 c.r, .int .u64 c.b, .int .u64 c.g, .int .i64 c.n]
abbrev C.zero : C := ⟨0, 0, 0, 0, 0, 0⟩

/-- A block of six cells, a capability's fields. -/
structure Box (w : World) (x : Nat) (c : C) : Prop where
  at0 : w.cell? ⟨x, 0, none⟩ = some (.int .i64 c.k)
  at1 : w.cell? ⟨x, 1, none⟩ = some (.int .i64 c.o)
  at2 : w.cell? ⟨x, 2, none⟩ = some (.int .i64 c.r)
  at3 : w.cell? ⟨x, 3, none⟩ = some (.int .u64 c.b)
  at4 : w.cell? ⟨x, 4, none⟩ = some (.int .u64 c.g)
  at5 : w.cell? ⟨x, 5, none⟩ = some (.int .i64 c.n)
  lt : x < w.heap.size
  fr : ∀ i, w.frozen? ⟨x, i, none⟩ = false

theorem Box.keep {w w' : World} {x : Nat} {c : C} {r : Option Nat} (h : Box w x c) (g : w.grownBy w' r) (hr : some x ≠ r) : Box w' x c :=
  ⟨g.cell h.at0 hr, g.cell h.at1 hr, g.cell h.at2 hr, g.cell h.at3 hr, g.cell h.at4 hr, g.cell h.at5 hr, Nat.lt_of_lt_of_le h.lt g.size, fun i => (gbFrozen g h.lt hr).trans (h.fr i)⟩
theorem Box.kept {w w' : World} {x : Nat} {c : C} (h : Box w x c) (g : w.grownBy w' none) : Box w' x c := h.keep g (by simp)
theorem Box.made (w : World) (c : C) : Box (w.alloc (.cells #[.int .i64 c.k, .int .i64 c.o, .int .i64 c.r, .int .u64 c.b, .int .u64 c.g, .int .i64 c.n] 25)) w.heap.size c :=
  ⟨by simp, by simp, by simp, by simp, by simp, by simp, by simp, fun i => by simp⟩

/-- A block of four cells: what is asked for. -/
structure ABox (w : World) (x : Nat) (r b g n : Int) : Prop where
  at0 : w.cell? ⟨x, 0, none⟩ = some (.int .i64 r)
  at1 : w.cell? ⟨x, 1, none⟩ = some (.int .u64 b)
  at2 : w.cell? ⟨x, 2, none⟩ = some (.int .u64 g)
  at3 : w.cell? ⟨x, 3, none⟩ = some (.int .i64 n)
  lt : x < w.heap.size

theorem ABox.keep {w w' : World} {x : Nat} {a b g n : Int} {r : Option Nat} (h : ABox w x a b g n) (k : w.grownBy w' r) (hr : some x ≠ r) : ABox w' x a b g n :=
  ⟨k.cell h.at0 hr, k.cell h.at1 hr, k.cell h.at2 hr, k.cell h.at3 hr, Nat.lt_of_lt_of_le h.lt k.size⟩
theorem ABox.kept {w w' : World} {x : Nat} {a b g n : Int} (h : ABox w x a b g n) (k : w.grownBy w' none) : ABox w' x a b g n := h.keep k (by simp)

/-! ### Regions that read, with calls that make memory -/
/-- A world that W has grown into. -/
structure Gr (W : World) where
  w : World
  g : W.grownBy w none
theorem grNE (W : World) : Nonempty (Gr W) := ⟨⟨W, gbRefl W none⟩⟩

theorem wp_region_grown {P : Program} {id : Nat} {Q : Exit → Act → World → Prop} {a : Act} {w : World} {l : List Oper} (hm : P.follows .mixedOrders = true) (hB : Region.lexB .any l.toArray = true)
    (h : Nonempty (Gr w) → wpQuiet P l.toArray (fun w' => ∃ x : Gr w, w' = x.w) (fun a' => ∀ w', (∃ x : Gr w, w' = x.w) → Q .normal a' w') l a) : (Code.region id l.toArray true).wp P Q a w :=
  wp_region_quiet (C := fun w' => ∃ x : Gr w, w' = x.w) hm hB ⟨⟨_, gbDrewN w 1 none⟩, rfl⟩ (by simpa using h (grNE w))

theorem callsGr {P : Program} {f : FuncId} {args : Array Value} {w : World} {x : Gr w} {v : Value} (h : Calls P f args x.w fun e w' => e = .returned v ∧ x.w.grownBy w' none) :
    Calls P f args x.w fun e w'' => e = .returned v ∧ ∃ y : Gr w, w'' = y.w :=
  h.mono fun _ w1 ⟨he, hg⟩ => ⟨he, ⟨w1, gbTrans x.g hg⟩, rfl⟩

/-- All cells of a box, in every world that this one grows into. -/
theorem Box.all {w : World} {x : Nat} {c : C} (h : Box w x c) :
    (∀ y : Gr w, y.w.cell? ⟨x, 0, none⟩ = some (.int .i64 c.k)) ∧ (∀ y : Gr w, y.w.cell? ⟨x, 1, none⟩ = some (.int .i64 c.o)) ∧ (∀ y : Gr w, y.w.cell? ⟨x, 2, none⟩ = some (.int .i64 c.r)) ∧
    (∀ y : Gr w, y.w.cell? ⟨x, 3, none⟩ = some (.int .u64 c.b)) ∧ (∀ y : Gr w, y.w.cell? ⟨x, 4, none⟩ = some (.int .u64 c.g)) ∧ (∀ y : Gr w, y.w.cell? ⟨x, 5, none⟩ = some (.int .i64 c.n)) :=
  ⟨fun y => (h.kept y.g).at0, fun y => (h.kept y.g).at1, fun y => (h.kept y.g).at2, fun y => (h.kept y.g).at3, fun y => (h.kept y.g).at4, fun y => (h.kept y.g).at5⟩

/-! ### Two capabilities held against one another -/
/-- Whether two capabilities are the same. -/
def M.eq (c d : C) : Bool := c.k == d.k && c.o == d.o && c.r == d.r && c.b == d.b && c.g == d.g && c.n == d.n

theorem M.eq_iff {c d : C} : M.eq c d = true ↔ c = d := by
  obtain ⟨k, o, r, b, g, n⟩ := c
  obtain ⟨k', o', r', b', g', n'⟩ := d
  simp [M.eq, and_assoc]
theorem M.eq_refl (c : C) : M.eq c c = true := M.eq_iff.2 rfl

theorem run_equal_cap (w : World) (a0 a1 a2 a3 a4 a5 b0 b1 b2 b3 b4 b5 : Int) : (Op.equalIn 10000 25 (.agg #[.int .i64 a0, .int .i64 a1, .int .i64 a2, .int .u64 a3, .int .u64 a4, .int .i64 a5]) (.agg #[.int .i64 b0, .int .i64 b1, .int .i64 b2, .int .u64 b3, .int .u64 b4, .int .i64 b5])).run Tryz.prog w = .ok (M.eq ⟨a0, a1, a2, a3, a4, a5⟩ ⟨b0, b1, b2, b3, b4, b5⟩) w := by
  rw [run_equalIn_agg w 9999 25 _ _ (by kernel_rfl) (by kernel_rfl)]
  simp only [go_sem, Program.fieldsOf, Tryz.underlying25]
  by_cases h0 : a0 = b0
  · by_cases h1 : a1 = b1
    · by_cases h2 : a2 = b2
      · by_cases h3 : a3 = b3
        · by_cases h4 : a4 = b4
          · by_cases h5 : a5 = b5
            all_goals simp [M.eq, go_sem, Tryz.underlying3, Tryz.underlying23, h0, h1, h2, h3, h4, h5]
          · simp [M.eq, go_sem, Tryz.underlying3, Tryz.underlying23, h0, h1, h2, h3, h4]
        · simp [M.eq, go_sem, Tryz.underlying3, Tryz.underlying23, h0, h1, h2, h3]
      · simp [M.eq, go_sem, Tryz.underlying3, Tryz.underlying23, h0, h1, h2]
    · simp [M.eq, go_sem, Tryz.underlying3, Tryz.underlying23, h0, h1]
  · simp [M.eq, go_sem, Tryz.underlying3, Tryz.underlying23, h0]

theorem run_eql_cap (w : World) (a0 a1 a2 a3 a4 a5 b0 b1 b2 b3 b4 b5 : Int) : (binOp .eql 25 (.agg #[.int .i64 a0, .int .i64 a1, .int .i64 a2, .int .u64 a3, .int .u64 a4, .int .i64 a5]) (.agg #[.int .i64 b0, .int .i64 b1, .int .i64 b2, .int .u64 b3, .int .u64 b4, .int .i64 b5])).run Tryz.prog w = .ok (.bool (M.eq ⟨a0, a1, a2, a3, a4, a5⟩ ⟨b0, b1, b2, b3, b4, b5⟩)) w := by
  rw [run_eql_struct, run_equal_cap]; rfl
theorem run_neq_cap (w : World) (a0 a1 a2 a3 a4 a5 b0 b1 b2 b3 b4 b5 : Int) : (binOp .neq 25 (.agg #[.int .i64 a0, .int .i64 a1, .int .i64 a2, .int .u64 a3, .int .u64 a4, .int .i64 a5]) (.agg #[.int .i64 b0, .int .i64 b1, .int .i64 b2, .int .u64 b3, .int .u64 b4, .int .i64 b5])).run Tryz.prog w = .ok (.bool (!M.eq ⟨a0, a1, a2, a3, a4, a5⟩ ⟨b0, b1, b2, b3, b4, b5⟩)) w := by
  rw [run_neq_struct, run_equal_cap]; rfl

theorem eqGuardCap : Tryz.prog.eqGuardType Tryz.prog.depth 25 = false := by kernel_rfl
/-! ### A capability that is laid, or written over -/
theorem boxNew (w : World) (c : C) : ∃ W, w.alloc (.cells #[.int .i64 c.k, .int .i64 c.o, .int .i64 c.r, .int .u64 c.b, .int .u64 c.g, .int .i64 c.n] 25) = W ∧ Box W w.heap.size c ∧ w.grownBy W none :=
  ⟨_, rfl, Box.made w c, gbAlloc _ _ _⟩
theorem Box.put {w : World} {x : Nat} {c : C} (h : Box w x c) (d : C) :
    ∃ W, ((((((w.setCell ⟨x, 0, none⟩ (.int .i64 d.k)).setCell ⟨x, 1, none⟩ (.int .i64 d.o)).setCell ⟨x, 2, none⟩ (.int .i64 d.r)).setCell ⟨x, 3, none⟩ (.int .u64 d.b)).setCell ⟨x, 4, none⟩ (.int .u64 d.g)).setCell ⟨x, 5, none⟩ (.int .i64 d.n)) = W ∧
      Box W x d ∧ w.grownBy W (some x) := by
  obtain ⟨a0, a1, a2, a3, a4, a5, lt, fr⟩ := h
  refine ⟨_, rfl, ⟨?_, ?_, ?_, ?_, ?_, ?_, ?_, ?_⟩, ?_⟩
  · exact ((World.cell?_setCell_other _ _ _ _ (by simp)).trans ((World.cell?_setCell_other _ _ _ _ (by simp)).trans ((World.cell?_setCell_other _ _ _ _ (by simp)).trans ((World.cell?_setCell_other _ _ _ _ (by simp)).trans ((World.cell?_setCell_other _ _ _ _ (by simp)).trans (World.cell?_setCell_same _ _ _ a0))))))
  · exact ((World.cell?_setCell_other _ _ _ _ (by simp)).trans ((World.cell?_setCell_other _ _ _ _ (by simp)).trans ((World.cell?_setCell_other _ _ _ _ (by simp)).trans ((World.cell?_setCell_other _ _ _ _ (by simp)).trans (World.cell?_setCell_same _ _ _ ((World.cell?_setCell_other _ _ _ _ (by simp)).trans a1))))))
  · exact ((World.cell?_setCell_other _ _ _ _ (by simp)).trans ((World.cell?_setCell_other _ _ _ _ (by simp)).trans ((World.cell?_setCell_other _ _ _ _ (by simp)).trans (World.cell?_setCell_same _ _ _ ((World.cell?_setCell_other _ _ _ _ (by simp)).trans ((World.cell?_setCell_other _ _ _ _ (by simp)).trans a2))))))
  · exact ((World.cell?_setCell_other _ _ _ _ (by simp)).trans ((World.cell?_setCell_other _ _ _ _ (by simp)).trans (World.cell?_setCell_same _ _ _ ((World.cell?_setCell_other _ _ _ _ (by simp)).trans ((World.cell?_setCell_other _ _ _ _ (by simp)).trans ((World.cell?_setCell_other _ _ _ _ (by simp)).trans a3))))))
  · exact ((World.cell?_setCell_other _ _ _ _ (by simp)).trans (World.cell?_setCell_same _ _ _ ((World.cell?_setCell_other _ _ _ _ (by simp)).trans ((World.cell?_setCell_other _ _ _ _ (by simp)).trans ((World.cell?_setCell_other _ _ _ _ (by simp)).trans ((World.cell?_setCell_other _ _ _ _ (by simp)).trans a4))))))
  · exact (World.cell?_setCell_same _ _ _ ((World.cell?_setCell_other _ _ _ _ (by simp)).trans ((World.cell?_setCell_other _ _ _ _ (by simp)).trans ((World.cell?_setCell_other _ _ _ _ (by simp)).trans ((World.cell?_setCell_other _ _ _ _ (by simp)).trans ((World.cell?_setCell_other _ _ _ _ (by simp)).trans a5))))))
  · simpa [World.setCell] using lt
  · intro i; simpa using fr i
  · exact gbTrans (gbTrans (gbTrans (gbTrans (gbTrans (gbSetCell _ _ _ _) (gbSetCell _ _ _ _)) (gbSetCell _ _ _ _)) (gbSetCell _ _ _ _)) (gbSetCell _ _ _ _)) (gbSetCell _ _ _ _)

end Go.Proofs.YtdnoidnpiaadaaaGreat

/-
  THE CHAPTER'S ANSWERS as plain functions: no Go function in sight.
-/
namespace Go.Proofs.YtdnoidnpiaadaaaGreat
namespace M

/-! ### Rights -/
/-- Whether a number is rights. -/
def ck (a : Int) : Bool := decide (0 ≤ a) && decide (a ≤ 7)
def msk (a b : Int) : Int := if ck a && ck b then ((a.toNat &&& b.toNat : Nat) : Int) else 0
def wth (a b : Int) : Bool := ck a && ck b && (msk a b == a)

theorem ck_nat {a : Int} (h : ck a = true) : ∃ A : Nat, a = A ∧ A < 8 := by
  unfold ck at h
  simp only [Bool.and_eq_true, decide_eq_true_eq] at h
  exact ⟨a.toNat, by omega, by omega⟩
theorem nat_ck {A : Nat} (h : A < 8) : ck A = true := by
  unfold ck
  simp only [Bool.and_eq_true, decide_eq_true_eq]
  omega
theorem msk_nat {A B : Nat} (ha : A < 8) (hb : B < 8) : msk A B = ((A &&& B : Nat) : Int) := by
  unfold msk
  rw [nat_ck ha, nat_ck hb]
  simp
theorem and_val {A B : Nat} (ha : A < 8) (hb : B < 8) : bits BinOp.and IntKind.i64 (A : Int) (B : Int) = ((A &&& B : Nat) : Int) := by
  have h : ∀ a : Fin 8, ∀ b : Fin 8, bits BinOp.and IntKind.i64 (a.val : Int) (b.val : Int) = ((a.val &&& b.val : Nat) : Int) := by decide
  exact h ⟨A, ha⟩ ⟨B, hb⟩

/-! ### Capabilities -/
/-- Kinds with rights; with badges; without an object. -/
def rgd (k : Int) : Bool := k == 4 || k == 5 || k == 6
def bgd (k : Int) : Bool := k == 4 || k == 5
def nul (k : Int) : Bool := k == 0 || k == 10
def knd (k : Int) : Bool := decide (0 ≤ k) && decide (k ≤ 11)
/-- Whether a number is below a power of two. -/
def blw (v n : Int) : Bool := decide (v < 2 ^ n.toNat)
def grd (g n : Int) : Bool := decide (0 ≤ n) && decide (n ≤ 16) && blw g n
def bnd (c : C) : Bool := decide (0 ≤ c.o) && decide (c.o ≤ 63) && ck c.r && blw c.b 28 && grd c.g c.n
def fit (c : C) : Bool := (!nul c.k || c.o == 0) && (rgd c.k || c.r == 0) && (bgd c.k || c.b == 0) && (c.k == 2 || c.n == 0)
/-- What is wrong with a capability. -/
def chk (c : C) : Int := if knd c.k then (if bnd c && fit c then 0 else 10) else 2
/-- A capability without what its kind does not have. -/
def own (c : C) : C := ⟨c.k, if nul c.k then 0 else c.o, if rgd c.k then c.r else 0, if bgd c.k then c.b else 0, if c.k == 2 then c.g else 0, if c.k == 2 then c.n else 0⟩

theorem own_bnd (c : C) (h : 0 ≤ c.g) : (M.eq c (own c) && bnd c) = (bnd c && fit c) := by
  obtain ⟨k, o, r, b, g, n⟩ := c
  cases hb : bnd ⟨k, o, r, b, g, n⟩
  · simp
  · rw [Bool.and_true, Bool.true_and]
    simp only [bnd, grd, blw, Bool.and_eq_true, decide_eq_true_eq] at hb
    obtain ⟨⟨⟨⟨h1, h2⟩, h3⟩, h4⟩, ⟨h5, h6⟩, h7⟩ := hb
    simp only at h
    unfold M.eq own fit
    simp only [beq_self_eq_true, Bool.true_and]
    have hg : n = 0 → g = 0 := by rintro rfl; simp at h7; omega
    have hgn : (g == 0 && n == 0) = (n == 0) := by
      by_cases hz : n = 0
      · simp [hz, hg hz]
      · simp [hz]
    cases hk : (k == 2) <;> cases hn : nul k <;> cases hr : rgd k <;> cases hd : bgd k <;> simp [Bool.and_assoc, hgn]

/-- Why nothing may be derived of it. -/
def src (c : C) : Int := if chk c = 0 then (if c.k = 0 then 3 else if c.k = 1 ∨ c.k = 10 ∨ c.k = 11 then 2 else 0) else chk c
/-- With the rights that are asked for. -/
def msd (c : C) (a : Int) : C × Int := if ck a then (⟨c.k, c.o, msk c.r a, c.b, c.g, c.n⟩, 0) else (C.zero, 5)
/-- What is laid in. -/
def lay (c : C) (bd gd bt : Int) : C := own ⟨c.k, c.o, c.r, bd, gd, bt⟩
def lat (c d : C) : C := if d.b = 0 then ⟨d.k, d.o, d.r, c.b, d.g, d.n⟩ else d
def mrk (c : C) (bd gd bt : Int) : C × Int :=
  if (lay c bd gd bt).b ≠ 0 ∧ c.b ≠ 0 then (C.zero, 8)
  else if chk (lat c (lay c bd gd bt)) = 0 then (lat c (lay c bd gd bt), 0) else (C.zero, chk (lat c (lay c bd gd bt)))
/-- What is derived, step by step. -/
def drp (c : C) (rt bd gd bt : Int) : C × Int :=
  if src c = 0 then (if (msd c rt).2 = 0 then mrk (msd c rt).1 bd gd bt else (C.zero, (msd c rt).2)) else (C.zero, src c)
/-- What is derived, in the chapter's order. -/
def drv (c : C) (rt bd gd bt : Int) : C × Int :=
  if src c = 0 then
    if ck rt then
      if bgd c.k = true ∧ bd ≠ 0 then
        if c.b ≠ 0 then (C.zero, 8)
        else if blw bd 28 then (⟨c.k, c.o, if rgd c.k then msk c.r rt else c.r, bd, c.g, c.n⟩, 0) else (C.zero, 10)
      else if c.k = 2 then
        if grd gd bt then (⟨c.k, c.o, if rgd c.k then msk c.r rt else c.r, c.b, gd, bt⟩, 0) else (C.zero, 10)
      else (⟨c.k, c.o, if rgd c.k then msk c.r rt else c.r, c.b, c.g, c.n⟩, 0)
    else (C.zero, 5)
  else (C.zero, src c)

/-- Which gives no more than which. -/
def wkr (a b : C) : Bool := chk a == 0 && chk b == 0 && a.k == b.k && a.o == b.o && wth a.r b.r && (b.b == 0 || b.b == a.b)

/-- The words of a right one. -/
def wd1 (c : C) : Int := c.k + c.o * 16 + c.r * 1024 + c.n * 8192
def wd2 (c : C) : Int := c.b + c.g * 4294967296
def wds (c : C) : Int × Int × Int := if chk c = 0 then (wd1 c, wd2 c, 0) else (0, 0, chk c)
/-- What stands in two words. -/
def fds (A B : Nat) : C := ⟨getN A 0 4, getN A 4 6, getN A 10 3, getN B 0 28, getN B 32 16, getN A 13 5⟩
def off (A B : Nat) : C × Int := if wds (fds A B) = ((A : Int), (B : Int), 0) then (fds A B, 0) else (C.zero, 10)
end M
end Go.Proofs.YtdnoidnpiaadaaaGreat

/-
  THE CONTRACTS of the functions of packages bits and rights that package cap calls.
-/
namespace Go.Proofs.YtdnoidnpiaadaaaGreat
open Go.RowKit

set_option maxHeartbeats 400000 in
theorem rt_check_any (a : Int) (w : World) : Calls Tryz.prog 129 #[.int .i64 a] w fun e w' => e = .returned (.bool (M.ck a)) ∧ w' = w := by
  by_cases c1 : 0 ≤ a
  · by_cases c2 : a ≤ 7
    · go_enter Tryz.func129, Tryz.ntmps129
      go_wp2
      go_ret
      exact ⟨ret_bool (by simp [M.ck, c1, c2]), rfl⟩
    · go_enter Tryz.func129, Tryz.ntmps129
      go_wp2
      go_ret
      exact ⟨ret_bool (by simp [M.ck]; omega), rfl⟩
  · go_enter Tryz.func129, Tryz.ntmps129
    go_wp2
    go_ret
    exact ⟨ret_bool (by simp [M.ck]; omega), rfl⟩

theorem rt_check_is (a : Int) (v : Bool) (h : M.ck a = v) (w : World) : Calls Tryz.prog 129 #[.int .i64 a] w fun e w' => e = .returned (.bool v) ∧ w' = w := by
  subst h; exact rt_check_any a w

set_option maxHeartbeats 400000 in
theorem rt_mask_any (a b : Int) (w : World) : Calls Tryz.prog 130 #[.int .i64 a, .int .i64 b] w fun e w' => e = .returned (.int .i64 (M.msk a b)) ∧ w' = w := by
  by_cases c1 : M.ck a = true
  · by_cases c2 : M.ck b = true
    · obtain ⟨A, rfl, hA⟩ := M.ck_nat c1
      obtain ⟨B, rfl, hB⟩ := M.ck_nat c2
      rw [M.msk_nat hA hB]
      go_enter Tryz.func130, Tryz.ntmps130
      go_wp2_with fail
      refine (rt_check_is A true c1 _).mono ?_
      rintro e w' ⟨rfl, rfl⟩
      go_wp2_with fail
      refine (rt_check_is B true c2 _).mono ?_
      rintro e w' ⟨rfl, rfl⟩
      go_wp2
      go_ret
      exact ⟨ret_int (M.and_val hA hB), rfl⟩
    · rw [Bool.not_eq_true] at c2
      go_enter Tryz.func130, Tryz.ntmps130
      go_wp2_with fail
      refine (rt_check_is a true c1 _).mono ?_
      rintro e w' ⟨rfl, rfl⟩
      go_wp2_with fail
      refine (rt_check_is b false c2 _).mono ?_
      rintro e w' ⟨rfl, rfl⟩
      go_wp2
      go_ret
      exact ⟨ret_int (by simp [M.msk, c2]), rfl⟩
  · rw [Bool.not_eq_true] at c1
    go_enter Tryz.func130, Tryz.ntmps130
    go_wp2_with fail
    refine (rt_check_is a false c1 _).mono ?_
    rintro e w' ⟨rfl, rfl⟩
    go_wp2
    go_ret
    exact ⟨ret_int (by simp [M.msk, c1]), rfl⟩

end Go.Proofs.YtdnoidnpiaadaaaGreat

/-
  THE CONTRACTS of package cap's functions that look at one capability: Check and what it calls.
-/
namespace Go.Proofs.YtdnoidnpiaadaaaGreat
open Go.RowKit

set_option maxHeartbeats 400000 in
theorem hasBadge_is (k : Int) (v : Bool) (h : M.bgd k = v) (w : World) : Calls Tryz.prog 133 #[.int .i64 k] w fun e w' => e = .returned (.bool v) ∧ w' = w := by
  subst h
  by_cases c1 : k = 4
  · go_enter Tryz.func133, Tryz.ntmps133
    go_wp2
    go_ret
    exact ⟨ret_bool (by simp [M.bgd, c1]), rfl⟩
  · go_enter Tryz.func133, Tryz.ntmps133
    go_wp2
    go_ret
    exact ⟨ret_bool (by simp [M.bgd]), rfl⟩

theorem M.rgd_or (k : Int) : M.rgd k = (M.bgd k || k == 6) := rfl

set_option maxHeartbeats 400000 in
theorem hasRights_is (k : Int) (v : Bool) (h : M.rgd k = v) (w : World) : Calls Tryz.prog 132 #[.int .i64 k] w fun e w' => e = .returned (.bool v) ∧ w' = w := by
  subst h
  rw [M.rgd_or]
  cases c1 : M.bgd k
  · go_enter Tryz.func132, Tryz.ntmps132
    go_wp2_with fail
    refine (hasBadge_is k false c1 _).mono ?_
    rintro e w' ⟨rfl, rfl⟩
    go_wp2
    go_ret
    exact ⟨ret_bool (by simp), rfl⟩
  · go_enter Tryz.func132, Tryz.ntmps132
    go_wp2_with fail
    refine (hasBadge_is k true c1 _).mono ?_
    rintro e w' ⟨rfl, rfl⟩
    go_wp2
    go_ret
    exact ⟨ret_bool (by simp), rfl⟩

theorem M.blw_val (v : Int) (n : Nat) (hv : 0 ≤ v) : (v / 2 ^ n == 0) = decide (v < 2 ^ n) := by
  obtain ⟨V, rfl⟩ : ∃ V : Nat, v = V := ⟨v.toNat, by omega⟩
  have e : ((2 : Int) ^ n) = ((2 ^ n : Nat) : Int) := by simp
  rw [M.cast_shr, e]
  have hp := Nat.two_pow_pos n
  by_cases h : V < 2 ^ n
  · rw [Nat.div_eq_of_lt h]
    simp only [Int.natCast_zero, beq_self_eq_true, Int.ofNat_lt, h, decide_true]
  · have := Nat.div_pos (Nat.le_of_not_lt h) hp
    have h2 : ¬ ((V / 2 ^ n : Nat) : Int) = 0 := by omega
    rw [beq_eq_false_iff_ne.2 h2]
    simp only [Int.ofNat_lt, h, decide_false]

set_option maxHeartbeats 400000 in
theorem isBelow_nat (v : Int) (n : Nat) (b : Bool) (hv : 0 ≤ v) (hn : n ≤ 63) (h : M.blw v n = b) (w : World) : Calls Tryz.prog 134 #[.int .u64 v, .int .i64 n] w fun e w' => e = .returned (.bool b) ∧ w' = w := by
  have h2 : (v / 2 ^ n == 0) = b := by rw [M.blw_val v n hv, ← h]; rfl
  clear h
  go_enter Tryz.func134, Tryz.ntmps134
  go_wp2
  go_ret
  exact ⟨rfl, rfl⟩

theorem isBelow_28 (v : Int) (b : Bool) (hv : 0 ≤ v) (h : M.blw v 28 = b) (w : World) : Calls Tryz.prog 134 #[.int .u64 v, .int .i64 28] w fun e w' => e = .returned (.bool b) ∧ w' = w :=
  isBelow_nat v 28 b hv (by omega) h w
theorem isBelow_is (v n : Int) (b : Bool) (hv : 0 ≤ v) (h0 : 0 ≤ n) (hn : n ≤ 16) (h : M.blw v n = b) (w : World) : Calls Tryz.prog 134 #[.int .u64 v, .int .i64 n] w fun e w' => e = .returned (.bool b) ∧ w' = w := by
  obtain ⟨m, rfl⟩ : ∃ m : Nat, n = m := ⟨n.toNat, by omega⟩
  exact isBelow_nat v m b hv (by omega) h w

set_option maxHeartbeats 800000 in
theorem bounds_is (k o r b g n : Int) (v : Bool) (hb0 : 0 ≤ b) (hg0 : 0 ≤ g) (h : M.bnd ⟨k, o, r, b, g, n⟩ = v) (w : World) :
    Calls Tryz.prog 122 #[cv ⟨k, o, r, b, g, n⟩] w fun e w' => e = .returned (.bool v) ∧ w.grownBy w' none := by
  subst h
  unfold M.bnd M.grd
  by_cases c1 : 0 ≤ o
  · by_cases c2 : o < 64
    · have c2' : o ≤ 63 := by omega
      cases c3 : M.ck r
      · go_enter Tryz.func122, Tryz.ntmps122
        go_wp2_with fail
        refine (rt_check_is r false c3 _).mono ?_
        rintro e w' ⟨rfl, rfl⟩
        go_wp2
        go_ret
        exact ⟨ret_bool (by simp), gbAlloc _ _ _⟩
      · cases c4 : M.blw b 28
        · go_enter Tryz.func122, Tryz.ntmps122
          go_wp2_with fail
          refine (rt_check_is r true c3 _).mono ?_
          rintro e w' ⟨rfl, rfl⟩
          go_wp2_with fail
          refine (isBelow_28 b false hb0 c4 _).mono ?_
          rintro e w' ⟨rfl, rfl⟩
          go_wp2
          go_ret
          exact ⟨ret_bool (by simp), gbAlloc _ _ _⟩
        · by_cases c5 : 0 ≤ n
          · by_cases c6 : n ≤ 16
            · cases c7 : M.blw g n
              all_goals
                go_enter Tryz.func122, Tryz.ntmps122
                go_wp2_with fail
                refine (rt_check_is r true c3 _).mono ?_
                rintro e w' ⟨rfl, rfl⟩
                go_wp2_with fail
                refine (isBelow_28 b true hb0 c4 _).mono ?_
                rintro e w' ⟨rfl, rfl⟩
                go_wp2_with fail
                refine (isBelow_is g n _ hg0 c5 c6 c7 _).mono ?_
                rintro e w' ⟨rfl, rfl⟩
                go_wp2
                go_ret
                exact ⟨ret_bool (by simp [c1, c2', c5, c6]), gbAlloc _ _ _⟩
            · go_enter Tryz.func122, Tryz.ntmps122
              go_wp2_with fail
              refine (rt_check_is r true c3 _).mono ?_
              rintro e w' ⟨rfl, rfl⟩
              go_wp2_with fail
              refine (isBelow_28 b true hb0 c4 _).mono ?_
              rintro e w' ⟨rfl, rfl⟩
              go_wp2
              go_ret
              exact ⟨ret_bool (by simp; intros; omega), gbAlloc _ _ _⟩
          · go_enter Tryz.func122, Tryz.ntmps122
            go_wp2_with fail
            refine (rt_check_is r true c3 _).mono ?_
            rintro e w' ⟨rfl, rfl⟩
            go_wp2_with fail
            refine (isBelow_28 b true hb0 c4 _).mono ?_
            rintro e w' ⟨rfl, rfl⟩
            go_wp2
            go_ret
            exact ⟨ret_bool (by simp; intros; omega), gbAlloc _ _ _⟩
    · have c2' : ¬ o ≤ 63 := by omega
      go_enter Tryz.func122, Tryz.ntmps122
      go_wp2
      go_ret
      exact ⟨ret_bool (by simp; intros; omega), gbAlloc _ _ _⟩
  · go_enter Tryz.func122, Tryz.ntmps122
    go_wp2
    go_ret
    exact ⟨ret_bool (by simp; intros; omega), gbAlloc _ _ _⟩

set_option maxHeartbeats 800000 in
theorem own_at0 (o r b g n : Int) (w : World) : Calls Tryz.prog 121 #[cv ⟨0, o, r, b, g, n⟩] w fun e w' => e = .returned (cv ⟨0, 0, 0, 0, 0, 0⟩) ∧ w.grownBy w' none := by
  go_enter Tryz.func121, Tryz.ntmps121
  go_wp2_with fail
  refine (hasRights_is 0 false rfl _).mono ?_
  rintro e w' ⟨rfl, rfl⟩
  go_wp2_with fail
  refine (hasBadge_is 0 false rfl _).mono ?_
  rintro e w' ⟨rfl, rfl⟩
  go_wp2
  exact bodyPost_ret (v := cv ⟨0, 0, 0, 0, 0, 0⟩) (by simp [results, Tryz.results121, go_sem]) rfl ⟨rfl, by repeat (first | exact gbRefl _ _ | refine gbSetNew ?_ _ _ _ (by simp) | refine gbAllocN ?_ _)⟩

set_option maxHeartbeats 800000 in
theorem own_at10 (o r b g n : Int) (w : World) : Calls Tryz.prog 121 #[cv ⟨10, o, r, b, g, n⟩] w fun e w' => e = .returned (cv ⟨10, 0, 0, 0, 0, 0⟩) ∧ w.grownBy w' none := by
  go_enter Tryz.func121, Tryz.ntmps121
  go_wp2_with fail
  refine (hasRights_is 10 false rfl _).mono ?_
  rintro e w' ⟨rfl, rfl⟩
  go_wp2_with fail
  refine (hasBadge_is 10 false rfl _).mono ?_
  rintro e w' ⟨rfl, rfl⟩
  go_wp2
  exact bodyPost_ret (v := cv ⟨10, 0, 0, 0, 0, 0⟩) (by simp [results, Tryz.results121, go_sem]) rfl ⟨rfl, by repeat (first | exact gbRefl _ _ | refine gbSetNew ?_ _ _ _ (by simp) | refine gbAllocN ?_ _)⟩

set_option maxHeartbeats 800000 in
theorem own_at2 (o r b g n : Int) (w : World) : Calls Tryz.prog 121 #[cv ⟨2, o, r, b, g, n⟩] w fun e w' => e = .returned (cv ⟨2, o, 0, 0, g, n⟩) ∧ w.grownBy w' none := by
  go_enter Tryz.func121, Tryz.ntmps121
  go_wp2_with fail
  refine (hasRights_is 2 false rfl _).mono ?_
  rintro e w' ⟨rfl, rfl⟩
  go_wp2_with fail
  refine (hasBadge_is 2 false rfl _).mono ?_
  rintro e w' ⟨rfl, rfl⟩
  go_wp2
  exact bodyPost_ret (v := cv ⟨2, o, 0, 0, g, n⟩) (by simp [results, Tryz.results121, go_sem]) rfl ⟨rfl, by repeat (first | exact gbRefl _ _ | refine gbSetNew ?_ _ _ _ (by simp) | refine gbAllocN ?_ _)⟩

set_option maxHeartbeats 800000 in
theorem own_at4 (o r b g n : Int) (w : World) : Calls Tryz.prog 121 #[cv ⟨4, o, r, b, g, n⟩] w fun e w' => e = .returned (cv ⟨4, o, r, b, 0, 0⟩) ∧ w.grownBy w' none := by
  go_enter Tryz.func121, Tryz.ntmps121
  go_wp2_with fail
  refine (hasRights_is 4 true rfl _).mono ?_
  rintro e w' ⟨rfl, rfl⟩
  go_wp2_with fail
  refine (hasBadge_is 4 true rfl _).mono ?_
  rintro e w' ⟨rfl, rfl⟩
  go_wp2
  exact bodyPost_ret (v := cv ⟨4, o, r, b, 0, 0⟩) (by simp [results, Tryz.results121, go_sem]) rfl ⟨rfl, by repeat (first | exact gbRefl _ _ | refine gbSetNew ?_ _ _ _ (by simp) | refine gbAllocN ?_ _)⟩

set_option maxHeartbeats 800000 in
theorem own_at5 (o r b g n : Int) (w : World) : Calls Tryz.prog 121 #[cv ⟨5, o, r, b, g, n⟩] w fun e w' => e = .returned (cv ⟨5, o, r, b, 0, 0⟩) ∧ w.grownBy w' none := by
  go_enter Tryz.func121, Tryz.ntmps121
  go_wp2_with fail
  refine (hasRights_is 5 true rfl _).mono ?_
  rintro e w' ⟨rfl, rfl⟩
  go_wp2_with fail
  refine (hasBadge_is 5 true rfl _).mono ?_
  rintro e w' ⟨rfl, rfl⟩
  go_wp2
  exact bodyPost_ret (v := cv ⟨5, o, r, b, 0, 0⟩) (by simp [results, Tryz.results121, go_sem]) rfl ⟨rfl, by repeat (first | exact gbRefl _ _ | refine gbSetNew ?_ _ _ _ (by simp) | refine gbAllocN ?_ _)⟩

set_option maxHeartbeats 800000 in
theorem own_at6 (o r b g n : Int) (w : World) : Calls Tryz.prog 121 #[cv ⟨6, o, r, b, g, n⟩] w fun e w' => e = .returned (cv ⟨6, o, r, 0, 0, 0⟩) ∧ w.grownBy w' none := by
  go_enter Tryz.func121, Tryz.ntmps121
  go_wp2_with fail
  refine (hasRights_is 6 true rfl _).mono ?_
  rintro e w' ⟨rfl, rfl⟩
  go_wp2_with fail
  refine (hasBadge_is 6 false rfl _).mono ?_
  rintro e w' ⟨rfl, rfl⟩
  go_wp2
  exact bodyPost_ret (v := cv ⟨6, o, r, 0, 0, 0⟩) (by simp [results, Tryz.results121, go_sem]) rfl ⟨rfl, by repeat (first | exact gbRefl _ _ | refine gbSetNew ?_ _ _ _ (by simp) | refine gbAllocN ?_ _)⟩

set_option maxHeartbeats 800000 in
theorem own_other (k o r b g n : Int) (c0 : (k == 0) = false) (c10 : (k == 10) = false) (c2 : (k != 2) = true) (h1 : M.rgd k = false) (h2 : M.bgd k = false) (w : World) : Calls Tryz.prog 121 #[cv ⟨k, o, r, b, g, n⟩] w fun e w' => e = .returned (cv ⟨k, o, 0, 0, 0, 0⟩) ∧ w.grownBy w' none := by
  go_enter Tryz.func121, Tryz.ntmps121
  go_wp2_with fail
  refine (hasRights_is k false h1 _).mono ?_
  rintro e w' ⟨rfl, rfl⟩
  go_wp2_with fail
  refine (hasBadge_is k false h2 _).mono ?_
  rintro e w' ⟨rfl, rfl⟩
  go_wp2
  exact bodyPost_ret (v := cv ⟨k, o, 0, 0, 0, 0⟩) (by simp [results, Tryz.results121, go_sem]) rfl ⟨rfl, by repeat (first | exact gbRefl _ _ | refine gbSetNew ?_ _ _ _ (by simp) | refine gbAllocN ?_ _)⟩

theorem own_any (k o r b g n : Int) (w : World) : Calls Tryz.prog 121 #[cv ⟨k, o, r, b, g, n⟩] w fun e w' => e = .returned (cv (M.own ⟨k, o, r, b, g, n⟩)) ∧ w.grownBy w' none := by
  by_cases c0 : k = 0
  · subst c0; exact own_at0 o r b g n w
  by_cases c10 : k = 10
  · subst c10; exact own_at10 o r b g n w
  by_cases c2 : k = 2
  · subst c2; exact own_at2 o r b g n w
  by_cases c4 : k = 4
  · subst c4; exact own_at4 o r b g n w
  by_cases c5 : k = 5
  · subst c5; exact own_at5 o r b g n w
  by_cases c6 : k = 6
  · subst c6; exact own_at6 o r b g n w
  have h1 : M.rgd k = false := by simp [M.rgd, c4, c5, c6]
  have h2 : M.bgd k = false := by simp [M.bgd, c4, c5]
  have h3 : M.own ⟨k, o, r, b, g, n⟩ = ⟨k, o, 0, 0, 0, 0⟩ := by simp [M.own, M.nul, h1, h2, c0, c10, c2]
  rw [h3]
  exact own_other k o r b g n (by simpa using c0) (by simpa using c10) (by simpa using c2) h1 h2 w
end Go.Proofs.YtdnoidnpiaadaaaGreat

/-
  THE CONTRACT of package cap's Check.
-/
namespace Go.Proofs.YtdnoidnpiaadaaaGreat
set_option maxRecDepth 10000
open Go.RowKit

theorem M.chk_kind {c : C} (h : M.knd c.k = false) : M.chk c = 2 := by unfold M.chk; rw [h]; rfl
theorem M.chk_own (c : C) (hg : 0 ≤ c.g) (h : M.knd c.k = true) : M.chk c = if M.eq c (M.own c) && M.bnd c then 0 else 10 := by
  unfold M.chk; rw [M.own_bnd c hg, h]; rfl

set_option maxHeartbeats 800000 in
theorem check_in (k o r b g n k' o' r' b' g' n' : Int) (v v2 : Bool) (k0 : 0 ≤ k) (k11 : k ≤ 11) (hv : M.eq ⟨k, o, r, b, g, n⟩ ⟨k', o', r', b', g', n'⟩ = v)
    (HO : ∀ w, Calls Tryz.prog 121 #[cv ⟨k, o, r, b, g, n⟩] w fun e w' => e = .returned (cv ⟨k', o', r', b', g', n'⟩) ∧ w.grownBy w' none)
    (HB : ∀ w, Calls Tryz.prog 122 #[cv ⟨k, o, r, b, g, n⟩] w fun e w' => e = .returned (.bool v2) ∧ w.grownBy w' none) (w : World) :
    Calls Tryz.prog 89 #[cv ⟨k, o, r, b, g, n⟩] w fun e w' => e = .returned (.int .i64 (if v && v2 then 0 else 10)) ∧ w.grownBy w' none := by
  obtain ⟨c0, c1, c2, c3, c4, c5⟩ := (Box.made w ⟨k, o, r, b, g, n⟩).all
  simp only at c0 c1 c2 c3 c4 c5
  have qe := eqGuardCap
  have qn := run_neq_cap
  cases v <;> cases v2
  all_goals
    go_enter Tryz.func89, Tryz.ntmps89
    go_wp2
    refine wp_region_grown (by kernel_rfl) (by kernel_rfl) fun _ => ?_
    repeat (go_big_quiet_step ((first | (go_at_call 121; with_reducible exact callsGr (HO _)) | (go_at_call 122; with_reducible exact callsGr (HB _)))))
    refine wpQuiet_nil ?_
    rintro _ ⟨⟨w1, g1⟩, rfl⟩
    go_wp2
    go_ret
    exact ⟨rfl, gbTrans (gbAlloc _ _ _) g1⟩

set_option maxHeartbeats 400000 in
theorem check_kind (k o r b g n : Int) (h : M.knd k = false) (w : World) :
    Calls Tryz.prog 89 #[cv ⟨k, o, r, b, g, n⟩] w fun e w' => e = .returned (.int .i64 2) ∧ w.grownBy w' none := by
  by_cases c1 : k < 0
  · clear h
    go_enter Tryz.func89, Tryz.ntmps89
    go_wp2
    go_ret
    exact ⟨rfl, gbAlloc _ _ _⟩
  · have c2 : 11 < k := by
      simp only [M.knd, Bool.and_eq_false_iff, decide_eq_false_iff_not] at h
      omega
    clear h
    go_enter Tryz.func89, Tryz.ntmps89
    go_wp2
    go_ret
    exact ⟨rfl, gbAlloc _ _ _⟩

theorem check_any (k o r b g n : Int) (hb : 0 ≤ b) (hg : 0 ≤ g) (w : World) :
    Calls Tryz.prog 89 #[cv ⟨k, o, r, b, g, n⟩] w fun e w' => e = .returned (.int .i64 (M.chk ⟨k, o, r, b, g, n⟩)) ∧ w.grownBy w' none := by
  cases h : M.knd k
  · rw [M.chk_kind h]; exact check_kind k o r b g n h w
  · rw [M.chk_own _ hg h]
    obtain ⟨k0, k11⟩ : 0 ≤ k ∧ k ≤ 11 := by simpa [M.knd] using h
    have HO := fun w => own_any k o r b g n w
    obtain ⟨⟨k', o', r', b', g', n'⟩, hd⟩ : ∃ d, M.own ⟨k, o, r, b, g, n⟩ = d := ⟨_, rfl⟩
    rw [hd] at HO ⊢
    exact check_in k o r b g n k' o' r' b' g' n' _ _ k0 k11 rfl HO (fun w => bounds_is k o r b g n _ hb hg rfl w) w

theorem check_is (k o r b g n v : Int) (hb : 0 ≤ b) (hg : 0 ≤ g) (h : M.chk ⟨k, o, r, b, g, n⟩ = v) (w : World) :
    Calls Tryz.prog 89 #[cv ⟨k, o, r, b, g, n⟩] w fun e w' => e = .returned (.int .i64 v) ∧ w.grownBy w' none := by
  subst h; exact check_any k o r b g n hb hg w
end Go.Proofs.YtdnoidnpiaadaaaGreat

/-
  THE CONTRACTS of package cap's Words and Of.
-/
namespace Go.Proofs.YtdnoidnpiaadaaaGreat
set_option maxRecDepth 10000
open Go.RowKit

end Go.Proofs.YtdnoidnpiaadaaaGreat

/-
  THE CONTRACT of package cap's Of.
-/
namespace Go.Proofs.YtdnoidnpiaadaaaGreat
set_option maxRecDepth 10000
open Go.RowKit

end Go.Proofs.YtdnoidnpiaadaaaGreat
