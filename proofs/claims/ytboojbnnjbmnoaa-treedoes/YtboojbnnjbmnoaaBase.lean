/-
  WORLDS THAT ONLY GROW, frames by the blocks that something owns, slots' names as values, in boxes, in lists and as keys of a map. Speaks of no function of the program.
-/
import Derived.WalkKit
import Derived.WalkSpells
import Derived.WalkLawsBesides
import Derived.Deep.OwnRows
import Derived.Deep.Draws
import Derived.Deep.QuietTactic
import Derived.BigQuiet
import Derived.Laws.StructEq
import Derived.Laws.AppendOwn
import Derived.Laws.OwnMore
import Derived.Maps.OwnSet
import Derived.Maps.OwnOps
import Derived.Maps.AppendAt
import Derived.Deep.MidRow
import Derived.Deep.Cut
import Derived.Deep.LoopGhost
import Derived.ChangeKeysEq
import Derived.DeepKeys4
import Derived.Test.YtboojbnnjbmnoaaRows
import Derived.Test.YtboojbnnjbmnoaaPlain
namespace Go.Proofs.Ytboojbnnjbmnoaa
open Go.RowKit Go.Maps
set_option linter.unusedVariables false

theorem hideIt {p : Prop} (h : p) : Hid p := h
theorem ret_bool {a b : Bool} (h : a = b) : Ending.returned (.bool a) = .returned (.bool b) := by rw [h]
theorem ret_int {k : IntKind} {a b : Int} (h : a = b) : Ending.returned (.int k a) = .returned (.int k b) := by rw [h]
theorem ret_int2 {k l : IntKind} {a b : Int} {c : Int} (h : a = b) : Ending.returned (.tuple #[.int k a, .int l c]) = .returned (.tuple #[.int k b, .int l c]) := by rw [h]

/-! ### Worlds -/
theorem gbRefl (w : World) (r : Option Nat) : w.grownBy w r := ⟨rfl, rfl, rfl, Nat.le_refl _, fun _ _ _ => rfl⟩
theorem gbTrans {a b c : World} {r : Option Nat} (h : a.grownBy b r) (k : b.grownBy c r) : a.grownBy c r :=
  ⟨k.os.trans h.os, k.tape.trans h.tape, k.output.trans h.output, Nat.le_trans h.size k.size, fun i hi hr => (k.block i (Nat.lt_of_lt_of_le hi h.size) hr).trans (h.block i hi hr)⟩
theorem gbAny {a b : World} (h : a.grownBy b none) (r : Option Nat) : a.grownBy b r :=
  ⟨h.os, h.tape, h.output, h.size, fun i hi _ => h.block i hi (by simp)⟩
theorem gbDrewN (w : World) (q : Nat) (r : Option Nat) : w.grownBy (w.drewN q) r := ⟨rfl, rfl, rfl, Nat.le_refl _, fun _ _ _ => rfl⟩
theorem gbSetCell (w : World) (b i : Nat) (v : Value) : w.grownBy (w.setCell ⟨b, i, none⟩ v) (some b) :=
  ⟨rfl, rfl, rfl, by simp [World.setCell], fun k _ hk => Below.heap_setCell _ _ _ _ (fun e => hk (by rw [e]))⟩
theorem gbAlloc (w : World) (o : Obj) (r : Option Nat) : w.grownBy (w.alloc o) r :=
  ⟨rfl, rfl, rfl, by simp, fun k hk _ => by unfold World.alloc; rw [Array.getElem?_push, if_neg (Nat.ne_of_lt hk)]⟩
/-- What was written is a block that was not there: seen from before, nothing was written. -/
theorem gbNew {a b : World} {g : Nat} (h : a.grownBy b (some g)) (hg : a.heap.size ≤ g) : a.grownBy b none :=
  ⟨h.os, h.tape, h.output, h.size, fun i hi _ => h.block i hi (fun e => by simp at e; omega)⟩
theorem gbBelow {B : Nat} {w0 a b : World} {r : Option Nat} (h : Below B w0 a) (g : a.grownBy b r) (hB : B ≤ w0.heap.size) (hr : ∀ k, r = some k → B ≤ k) : Below B w0 b :=
  h.grown g (Nat.le_trans hB h.size) hr
theorem gbEnd {w w' : World} (g : w.grownBy w' none) : Below w.heap.size w w' :=
  gbBelow (Below.refl _ _) g (Nat.le_refl _) (by simp)
theorem gbSetNew {w w1 : World} (h : w.grownBy w1 none) (b i : Nat) (v : Value) (hb : w.heap.size ≤ b) : w.grownBy (w1.setCell ⟨b, i, none⟩ v) none :=
  gbNew (gbTrans (gbAny h _) (gbSetCell _ _ _ _)) hb
theorem gbDrew {w w1 : World} (h : w.grownBy w1 none) : w.grownBy w1.drew none := gbTrans h (gbDrewN _ 1 none)
theorem gbAllocN {w w1 : World} (h : w.grownBy w1 none) (o : Obj) : w.grownBy (w1.alloc o) none := gbTrans h (gbAlloc _ _ _)
theorem gbFrozen {w w' : World} {b i : Nat} {r : Option Nat} (g : w.grownBy w' r) (hb : b < w.heap.size) (hr : some b ≠ r) : w'.frozen? ⟨b, i, none⟩ = w.frozen? ⟨b, i, none⟩ := by
  unfold World.frozen?
  rw [g.block b hb hr]

/-! ### Regions that read, with calls that make memory -/
/-- A world that W has grown into. -/
structure Gr (W : World) where
  w : World
  g : W.grownBy w none
theorem grNE (W : World) : Nonempty (Gr W) := ⟨⟨W, gbRefl W none⟩⟩

theorem wp_region_grown {P : Program} {id : Nat} {Q : Exit → Act → World → Prop} {a : Act} {w : World} {l : List Oper} (hm : P.follows .mixedOrders = true) (hB : Region.lexB .any l.toArray = true)
    (h : Nonempty (Gr w) → wpQuiet P l.toArray (fun w' => ∃ x : Gr w, w' = x.w) (fun a' => ∀ w', (∃ x : Gr w, w' = x.w) → Q .normal a' w') l a) : (Code.region id l.toArray true).wp P Q a w :=
  wp_region_quiet (C := fun w' => ∃ x : Gr w, w' = x.w) hm hB ⟨⟨_, gbDrewN w 1 none⟩, rfl⟩ (by simpa using h (grNE w))

theorem callsGr {P : Program} {f : FuncId} {args : Array Value} {w : World} {x : Gr w} {v : Value} (h : Calls P f args x.w fun e w' => e = .returned v ∧ x.w.grownBy w' none) :
    Calls P f args x.w fun e w'' => e = .returned v ∧ ∃ y : Gr w, w'' = y.w :=
  h.mono fun _ w1 ⟨he, hg⟩ => ⟨he, ⟨w1, gbTrans x.g hg⟩, rfl⟩

/-! ### Frames -/
/-- Nothing but blocks of O has turned; new blocks may be there. -/
structure Fr (O : Nat → Prop) (w w' : World) : Prop where
  os : w'.os = w.os
  tape : w'.tape = w.tape
  output : w'.output = w.output
  size : w.heap.size ≤ w'.heap.size
  block : ∀ k, k < w.heap.size → ¬ O k → w'.heap[k]? = w.heap[k]?

theorem Fr.refl (O : Nat → Prop) (w : World) : Fr O w w := ⟨rfl, rfl, rfl, Nat.le_refl _, fun _ _ _ => rfl⟩
theorem Fr.trans {O : Nat → Prop} {a b c : World} (h : Fr O a b) (k : Fr O b c) : Fr O a c :=
  ⟨k.os.trans h.os, k.tape.trans h.tape, k.output.trans h.output, Nat.le_trans h.size k.size, fun i hi ho => (k.block i (Nat.lt_of_lt_of_le hi h.size) ho).trans (h.block i hi ho)⟩
/-- The second one may have blocks that were not there for the first one. -/
theorem Fr.join {O O' : Nat → Prop} {a b c : World} (h : Fr O a b) (k : Fr O' b c) (ho : ∀ i, i < a.heap.size → O' i → O i) : Fr O a c :=
  ⟨k.os.trans h.os, k.tape.trans h.tape, k.output.trans h.output, Nat.le_trans h.size k.size, fun i hi hO => (k.block i (Nat.lt_of_lt_of_le hi h.size) (fun e => hO (ho i hi e))).trans (h.block i hi hO)⟩
theorem Fr.grown {O : Nat → Prop} {w w' : World} (h : w.grownBy w' none) : Fr O w w' := ⟨h.os, h.tape, h.output, h.size, fun i hi _ => h.block i hi (by simp)⟩
theorem Fr.at {O : Nat → Prop} {w w' : World} {r : Nat} (h : w.grownBy w' (some r)) (hr : O r) : Fr O w w' :=
  ⟨h.os, h.tape, h.output, h.size, fun i hi ho => h.block i hi (fun e => ho (by cases e; exact hr))⟩
theorem Fr.mono {O O' : Nat → Prop} {w w' : World} (h : Fr O w w') (ho : ∀ i, i < w.heap.size → O i → O' i) : Fr O' w w' := ⟨h.os, h.tape, h.output, h.size, fun i hi k => h.block i hi (fun e => k (ho i hi e))⟩
theorem Fr.below {O : Nat → Prop} {w w' : World} (h : Fr O w w') (B : Nat) (hB : B ≤ w.heap.size) (ho : ∀ i, O i → B ≤ i) : Below B w w' :=
  ⟨h.os, h.tape, h.output, h.size, fun k hk => h.block k (by omega) (fun e => by have := ho k e; omega)⟩
/-- What it turned is new, seen from before. -/
theorem Fr.new {O : Nat → Prop} {w w' : World} (h : Fr O w w') (ho : ∀ i, i < w.heap.size → ¬ O i) : w.grownBy w' none := ⟨h.os, h.tape, h.output, h.size, fun i hi _ => h.block i hi (ho i hi)⟩
theorem Fr.cell {O : Nat → Prop} {w w' : World} (h : Fr O w w') {a : Addr} {v : Value} (ha : w.cell? a = some v) (ho : ¬ O a.block) : w'.cell? a = some v :=
  (World.cell?_of_block (h.block _ (World.block_lt_of_cell? w a ha) ho)).trans ha

/-! ### Slots' names -/
abbrev sv (n i : Int) : Value := .agg #[.int .i64 n, .int .i64 i]
/-- A block of two cells: a slot's name. -/
structure SBox (w : World) (x : Nat) (n i : Int) : Prop where
  at0 : w.cell? ⟨x, 0, none⟩ = some (.int .i64 n)
  at1 : w.cell? ⟨x, 1, none⟩ = some (.int .i64 i)
  lt : x < w.heap.size
theorem SBox.kept {w w' : World} {x : Nat} {n i : Int} (h : SBox w x n i) (g : w.grownBy w' none) : SBox w' x n i := ⟨g.cell h.at0 (by simp), g.cell h.at1 (by simp), Nat.lt_of_lt_of_le h.lt g.size⟩
theorem Fr.sbox {O : Nat → Prop} {w w' : World} {x : Nat} {n i : Int} (h : Fr O w w') (X : SBox w x n i) (ho : ¬ O x) : SBox w' x n i := ⟨h.cell X.at0 ho, h.cell X.at1 ho, Nat.lt_of_lt_of_le X.lt h.size⟩
theorem SBox.made (w : World) (n i : Int) : SBox (w.alloc (.cells #[.int .i64 n, .int .i64 i] 31)) w.heap.size n i := ⟨by simp, by simp, by simp⟩
theorem sboxNew (w : World) (n i : Int) : ∃ W, w.alloc (.cells #[.int .i64 n, .int .i64 i] 31) = W ∧ SBox W w.heap.size n i ∧ w.grownBy W none := ⟨_, rfl, SBox.made w n i, gbAlloc _ _ _⟩

/-- Two slots' names held against one another. -/
def M.seq (a0 a1 b0 b1 : Int) : Bool := a0 == b0 && a1 == b1
theorem run_equal_slots (w : World) (a0 a1 b0 b1 : Int) : (Op.equalIn 10000 31 (.agg #[.int .i64 a0, .int .i64 a1]) (.agg #[.int .i64 b0, .int .i64 b1])).run Try.prog w = .ok (M.seq a0 a1 b0 b1) w := by
  rw [run_equalIn_agg w 9999 31 _ _ (by kernel_rfl) (by kernel_rfl)]
  simp only [go_sem, Program.fieldsOf, Try.underlying31]
  by_cases h0 : a0 = b0
  · by_cases h1 : a1 = b1
    all_goals simp [M.seq, go_sem, Try.underlying3, h0, h1]
  · simp [M.seq, go_sem, Try.underlying3, h0]
theorem run_eql_slots (w : World) (a0 a1 b0 b1 : Int) : (binOp .eql 31 (.agg #[.int .i64 a0, .int .i64 a1]) (.agg #[.int .i64 b0, .int .i64 b1])).run Try.prog w = .ok (.bool (M.seq a0 a1 b0 b1)) w := by
  rw [run_eql_struct, run_equal_slots]; rfl
theorem run_neq_slots (w : World) (a0 a1 b0 b1 : Int) : (binOp .neq 31 (.agg #[.int .i64 a0, .int .i64 a1]) (.agg #[.int .i64 b0, .int .i64 b1])).run Try.prog w = .ok (.bool (!M.seq a0 a1 b0 b1)) w := by
  rw [run_neq_struct, run_equal_slots]; rfl
theorem M.seq_refl (a b : Int) : M.seq a b a b = true := by simp [M.seq]
theorem M.seq_iff {a b c d : Int} : M.seq a b c d = true ↔ (a, b) = (c, d) := by simp [M.seq]
theorem M.seq_not {a b c d : Int} : M.seq a b c d = false ↔ (a, b) ≠ (c, d) := by rw [Ne, ← M.seq_iff]; cases M.seq a b c d <;> simp
theorem eqGuardSlots : Try.prog.eqGuardType Try.prog.depth 31 = false := by kernel_rfl

/-! ### Lists of slots -/
def cellsL (L : List (Int × Int)) : List Value := L.flatMap fun p => [.int .i64 p.1, .int .i64 p.2]
theorem cellsL_nil : cellsL [] = [] := rfl
theorem cellsL_cons (p : Int × Int) (L : List (Int × Int)) : cellsL (p :: L) = .int .i64 p.1 :: .int .i64 p.2 :: cellsL L := rfl
theorem cellsL_app (L K : List (Int × Int)) : cellsL L ++ cellsL K = cellsL (L ++ K) := by unfold cellsL; simp
theorem cellsL_len (L : List (Int × Int)) : (cellsL L).length = L.length * 2 := by
  induction L with
  | nil => rfl
  | cons p L ih => rw [cellsL_cons]; simp [ih]; omega
theorem cellsL_get (L : List (Int × Int)) (i : Nat) (p : Int × Int) (h : L[i]? = some p) : (cellsL L)[i * 2]? = some (.int .i64 p.1) ∧ (cellsL L)[i * 2 + 1]? = some (.int .i64 p.2) := by
  induction L generalizing i with
  | nil => simp at h
  | cons q L ih =>
    rw [cellsL_cons]
    cases i with
    | zero => simp at h; subst h; exact ⟨rfl, rfl⟩
    | succ i =>
      have := ih i (by simpa using h)
      rw [show (i + 1) * 2 = i * 2 + 1 + 1 by omega]
      simpa using this
theorem cellsL_of (L : List (Int × Int)) (j : Nat) (u : Value) (h : (cellsL L)[j]? = some u) : ∃ i p, L[i]? = some p ∧ (j = i * 2 ∧ u = .int .i64 p.1 ∨ j = i * 2 + 1 ∧ u = .int .i64 p.2) := by
  have hj : j < (cellsL L).length := (List.getElem?_eq_some_iff.1 h).1
  rw [cellsL_len] at hj
  have hi : j / 2 < L.length := by omega
  obtain ⟨h1, h2⟩ := cellsL_get L (j / 2) L[j / 2] (List.getElem?_eq_getElem hi)
  refine ⟨j / 2, L[j / 2], List.getElem?_eq_getElem hi, ?_⟩
  by_cases e : j % 2 = 0
  · left; have e2 : j / 2 * 2 = j := by omega
    rw [e2, h] at h1; exact ⟨e2.symm, by simpa using h1⟩
  · right; have e2 : j / 2 * 2 + 1 = j := by omega
    rw [e2, h] at h2; exact ⟨e2.symm, by simpa using h2⟩
theorem cellsL_one (L : List (Int × Int)) : ∀ u ∈ cellsL L, u.oneCell' = true := by
  intro u hu
  unfold cellsL at hu
  simp at hu
  obtain ⟨a, b, _, rfl | rfl⟩ := hu <;> rfl

/-- One element at an address. -/
structure El (w : World) (y : Addr) (A B : Int) : Prop where
  at0 : w.cell? y = some (.int .i64 A)
  at1 : w.cell? ⟨y.block, y.off + 1, none⟩ = some (.int .i64 B)
theorem El.kept {w w' : World} {y : Addr} {A B : Int} (h : El w y A B) (g : w.grownBy w' none) : El w' y A B :=
  ⟨g.cell h.at0 (by simp), g.cell h.at1 (by simp)⟩
theorem El.keep {w w' : World} {y : Addr} {A B : Int} {r : Option Nat} (h : El w y A B) (g : w.grownBy w' r) (hr : some y.block ≠ r) : El w' y A B :=
  ⟨g.cell h.at0 hr, g.cell h.at1 hr⟩
theorem add_block (x : Addr) (n : Nat) : (x.add n).block = x.block := by unfold Addr.add; split <;> rfl
theorem add_off (x : Addr) (n : Nat) : (x.add n).off = x.off + n := by
  unfold Addr.add; split
  · rename_i h; simp [h]
  · rfl
theorem add_one (x : Addr) (n : Nat) : x.add (n + 1) = ⟨(x.add n).block, (x.add n).off + 1, none⟩ := by
  rw [add_block, add_off]; unfold Addr.add; simp; omega

/-- The elements of L lie from x on. -/
def Row (w : World) (x : Addr) (L : List (Int × Int)) : Prop := ∀ i p, L[i]? = some p → El w (x.add (i * 2)) p.1 p.2
theorem Row.kept {w w' : World} {x : Addr} {L : List (Int × Int)} (h : Row w x L) (g : w.grownBy w' none) : Row w' x L := fun i p hp => (h i p hp).kept g
theorem Row.keep {w w' : World} {x : Addr} {L : List (Int × Int)} {r : Option Nat} (h : Row w x L) (g : w.grownBy w' r) (hr : some x.block ≠ r) : Row w' x L :=
  fun i p hp => (h i p hp).keep g (by rw [add_block]; exact hr)
theorem Row.cells {w : World} {x : Addr} {L : List (Int × Int)} (h : Row w x L) : ∀ j u, (cellsL L)[j]? = some u → w.cell? (x.add j) = some u := by
  intro j u hu
  obtain ⟨i, p, hp, ⟨rfl, rfl⟩ | ⟨rfl, rfl⟩⟩ := cellsL_of L j u hu
  · exact (h i p hp).at0
  · rw [add_one]; exact (h i p hp).at1
theorem Row.ofCells {w : World} {x : Addr} {L : List (Int × Int)} (h : ∀ j u, (cellsL L)[j]? = some u → w.cell? (x.add j) = some u) : Row w x L := by
  intro i p hp
  obtain ⟨h1, h2⟩ := cellsL_get L i p hp
  refine ⟨h _ _ h1, ?_⟩
  have := h _ _ h2
  rwa [add_one] at this

/-- A list of the call's own. -/
def Lst (w : World) (B : Nat) (v : Value) (L : List (Int × Int)) : Prop := w.ownsRow B 31 2 v L.length (cellsL L)
theorem Lst.nil (w : World) (B : Nat) : Lst w B (.slice none 0 0) [] := World.ownsRow_nil w B 31 2
theorem Lst.kept {w w' : World} {B : Nat} {v : Value} {L : List (Int × Int)} (h : Lst w B v L) (g : w.grownBy w' none) : Lst w' B v L :=
  World.ownsRow.kept h g (by cases v.ownBlock <;> simp)
theorem Lst.lt {w : World} {B : Nat} {v : Value} {L : List (Int × Int)} (h : Lst w B v L) : ∀ k, v.ownBlock = some k → B ≤ k ∧ k < w.heap.size := World.ownsRow.lt h
/-- What it looks like. -/
theorem Lst.form {w : World} {B : Nat} {v : Value} {L : List (Int × Int)} (h : Lst w B v L) :
    (v = .slice none 0 0 ∧ L = []) ∨ ∃ g cap, v = .slice (some ⟨g, 0, none⟩) L.length cap ∧ L.length ≤ cap ∧ B ≤ g ∧ g < w.heap.size ∧ cap ≤ 9223372036854775807 ∧ Row w ⟨g, 0, none⟩ L := by
  have h0 := h.2
  rcases h0 with ⟨rfl, hn⟩ | ⟨g, cap, cur, rfl, hB, hg, hn, hm, _, _⟩
  · exact .inl ⟨rfl, List.eq_nil_of_length_eq_zero hn⟩
  · exact .inr ⟨g, cap, rfl, hn, hB, (World.ownsRow.lt h g rfl).2, by unfold maxLen at hm; omega, Row.ofCells (World.ownsRow.cells h (g := g) rfl)⟩

theorem Try.infoSlot : (Try.prog.info? 31).map (fun i => (i.zero, i.size, i.bytes)) = some (some (.agg #[.int .i64 0, .int .i64 0]), 2, 16) := by kernel_rfl

/-- append of the elements of K onto a list of the call's own. -/
theorem wpList_append_slot {w : World} {ops : Array Oper} {rest : List Oper} {o : Oper} {a : Act} {Q : Exit → Act → World → Prop} (hw : Region.wanted o (yielded ops a.tmps) = true) (s x : Operand)
    (ho : o.op = .call { callee := .builtin .append, args := #[s, x], argTypes := #[39, 39] })
    (B : Nat) (v : Value) (L : List (Int × Int)) (hs : a.eval s = v) (hown : Lst w B v L)
    (ad : Addr) (m c : Nat) (K : List (Int × Int)) (hx : a.eval x = .slice (some ad) m c) (hm : K.length = m) (hnews : Row w ad K)
    (hn : L.length + m ≤ 1000000) (hB : B ≤ w.heap.size)
    (h : ∀ v' w', Lst w' B v' (L ++ K) → w.grownBy w' v.ownBlock → wpList Try.prog ops Q rest (a.put o.dst v') w') : wpList Try.prog ops Q (o :: rest) a w := by
  obtain ⟨i, hi, hx0⟩ := Option.map_eq_some_iff.1 Try.infoSlot
  simp only [Prod.mk.injEq] at hx0
  obtain ⟨hz0, hz1, hz2⟩ := hx0
  refine BigFrame.wpList_want hw fun K' hK => ?_
  refine wp_append_own w s x 39 ho B 31 i (.agg #[.int .i64 0, .int .i64 0]) 2 16 Try.underlying39 hi hz0 hz1 hz2 (by kernel_rfl) (by decide) v L.length (cellsL L) hs hown ad m c (cellsL K) hx (by rw [cellsL_len, hm]) hnews.cells (cellsL_one K) (by unfold maxLen; omega) (by omega) hB ?_
  intro v' w' h2 h3 _
  refine hK _ _ (h v' w' ?_ h3)
  unfold Lst
  rw [← cellsL_app, List.length_append, hm]
  exact h2

theorem gbNews {a b : World} {r : Option Nat} (h : a.grownBy b r) (hr : ∀ k, r = some k → a.heap.size ≤ k) : a.grownBy b none :=
  ⟨h.os, h.tape, h.output, h.size, fun i hi _ => h.block i hi (fun e => by have := hr i e.symm; omega)⟩

theorem cellsL_set (L : List (Int × Int)) (j : Nat) (A B : Int) : ((cellsL L).set (j * 2) (.int .i64 A)).set (j * 2 + 1) (.int .i64 B) = cellsL (L.set j (A, B)) := by
  induction L generalizing j with
  | nil => simp [cellsL]
  | cons q L ih =>
    cases j with
    | zero => simp [cellsL_cons]
    | succ j =>
      rw [show (j + 1) * 2 = j * 2 + 1 + 1 by omega]
      simp only [List.set_cons_succ, cellsL_cons]
      rw [ih]

theorem Lst.store {w : World} {B g n cap : Nat} {L : List (Int × Int)} (h : Lst w B (.slice (some ⟨g, 0, none⟩) n cap) L) (hn : L.length = n) (j : Nat) (A D : Int) :
    Lst ((w.setCell ⟨g, j * 2, none⟩ (.int .i64 A)).setCell ⟨g, j * 2 + 1, none⟩ (.int .i64 D)) B (.slice (some ⟨g, 0, none⟩) n cap) (L.set j (A, D)) := by
  subst hn
  unfold Lst at *
  have h1 := (World.ownsRow.stored h (j * 2) (.int .i64 A)).1
  have h2 := (World.ownsRow.stored h1 (j * 2 + 1) (.int .i64 D)).1
  rw [cellsL_set] at h2
  rw [List.length_set]; exact h2
/-- The cells of an element of a list of the call's own. -/
theorem Lst.el {w : World} {B g n cap : Nat} {L : List (Int × Int)} (h : Lst w B (.slice (some ⟨g, 0, none⟩) n cap) L) (hn : L.length = n) (j : Nat) (p : Int × Int) (hj : L[j]? = some p) :
    w.cell? ⟨g, j * 2, none⟩ = some (.int .i64 p.1) ∧ w.cell? ⟨g, j * 2 + 1, none⟩ = some (.int .i64 p.2) ∧ w.frozen? ⟨g, j * 2, none⟩ = false ∧ w.frozen? ⟨g, j * 2 + 1, none⟩ = false := by
  subst hn
  unfold Lst at h
  have hlt : j < L.length := (List.getElem?_eq_some_iff.1 hj).1
  obtain ⟨h1, h2⟩ := cellsL_get L j p hj
  exact ⟨(World.ownsRow.cellAt h _ (by omega)).trans h1, (World.ownsRow.cellAt h _ (by omega)).trans h2, World.ownsRow.frozenAt h _, World.ownsRow.frozenAt h _⟩


/-- One slot's name, laid as a list. -/
theorem rowOne (w : World) (n i : Int) : Row (w.alloc (.cells #[.int .i64 n, .int .i64 i] 31)) ⟨w.heap.size, 0, none⟩ [(n, i)] := by
  intro j p hp
  cases j with
  | zero =>
    simp at hp; subst hp
    exact ⟨by simp [Addr.add], by simp [Addr.add]⟩
  | succ j => simp at hp
/-- append of one slot's name, and where the list lies then. -/
theorem wpList_append_slot_at {w : World} {ops : Array Oper} {rest : List Oper} {o : Oper} {a : Act} {Q : Exit → Act → World → Prop} (hgd : o.guard = none) (s x : Operand)
    (ho : o.op = .call { callee := .builtin .append, args := #[s, x], argTypes := #[39, 39] })
    (B : Nat) (v : Value) (L : List (Int × Int)) (hs : a.eval s = v) (hown : Lst w B v L)
    (ad : Addr) (m c : Nat) (K : List (Int × Int)) (hx : a.eval x = .slice (some ad) m c) (hm : K.length = m) (hnews : Row w ad K)
    (hn : L.length + m ≤ 1000000) (hB : B ≤ w.heap.size)
    (h : ∀ v' w', Lst w' B v' (L ++ K) → w.grownBy w' v.ownBlock → (v'.ownBlock = v.ownBlock ∨ v'.ownBlock = some w.heap.size) → wpList Try.prog ops Q rest (a.put o.dst v') w') : wpList Try.prog ops Q (o :: rest) a w := by
  obtain ⟨i, hi, hx0⟩ := Option.map_eq_some_iff.1 Try.infoSlot
  simp only [Prod.mk.injEq] at hx0
  obtain ⟨hz0, hz1, hz2⟩ := hx0
  refine wpList_append_own_at w hgd s x 39 ho B 31 i (.agg #[.int .i64 0, .int .i64 0]) 2 16 Try.underlying39 hi hz0 hz1 hz2 (by kernel_rfl) (by decide) v L.length (cellsL L) hs hown ad m c (cellsL K) hx (by rw [cellsL_len, hm]) hnews.cells (cellsL_one K) (by unfold maxLen; omega) (by omega) hB ?_
  intro v' w' h2 h3 _ h5
  refine h v' w' ?_ h3 h5
  unfold Lst
  rw [← cellsL_app, List.length_append, hm]
  exact h2

/-- How a pointer reads. -/
def ptrElem (v : Value) : Option (DataW Unit × List MemPlace) :=
  match v with
  | .pointer none => some (.nil, [])
  | .pointer (some ⟨q, 0, none⟩) => some (.lit (.int .i64 q), [])
  | _ => none
def ptrD : Option Nat → DataW Unit
  | none => .nil
  | some q => .lit (.int .i64 q)
abbrev ptr : Option Nat → Value
  | none => .pointer none
  | some q => .pointer (some ⟨q, 0, none⟩)
theorem ptrElem_inv {v : Value} {k : Option Nat} {ps : List MemPlace} (h : ptrElem v = some (ptrD k, ps)) : v = ptr k := by
  unfold ptrElem at h
  split at h
  · cases k
    · rfl
    · simp [ptrD] at h
  · cases k
    · simp [ptrD] at h
    · simp only [ptrD, Option.some.injEq, Prod.mk.injEq, DataW.lit.injEq, Lit.int.injEq, true_and] at h
      have h1 := h.1
      simp only [Int.natCast_inj] at h1
      subst h1; rfl
  · cases h

/-- A number that an int can be. -/
abbrev I64 (a : Int) : Prop := (Lit.int .i64 a).wf = true
theorem i64_of {a : Int} (h : -9223372036854775808 ≤ a) (k : a ≤ 9223372036854775807) : I64 a := WalkArith.wf_i64 ⟨h, k⟩

theorem Try.laidOut7 : laidOutB Try.prog = true := by kernel_rfl
theorem Try.keySlot : Keyed Try.prog 31 := Keyed.of_law (deep_law_laid Try.laidOut7 (m := 2) (by omega) (of_decide_eq_true (by kernel_rfl)) (by kernel_rfl) (by kernel_rfl))

/-- A slot's name as a key. -/
def kl (n i : Int) : Lit := .string (keyBytes [.int .i64 n, .int .i64 i])
theorem keyLits_one {P : Program} {e : TypeId} (he : P.underlying e = some (.int .i64)) (d : Nat) (n : Int) (hn : (Lit.int IntKind.i64 n).wf = true) : P.keyLits (d + 1) e [.int .i64 n] = some [.int .i64 n] := by
  simp [Program.keyLits, he, hn]
theorem keyLits_two {P : Program} {k e : TypeId} (f0 f1 : Field) (hu : P.underlying k = some (.struct #[f0, f1])) (t0 : f0.type = e) (t1 : f1.type = e) (o0 : f0.offset = 0) (o1 : f1.offset = 1) (hnm : (#[f0, f1] : Array Field).all (·.name != "_") = true)
    (hc : P.cellsOf k = 2) (he : P.underlying e = some (.int .i64)) (hce : P.cellsOf e = 1) (d : Nat) (n i : Int) (hn : (Lit.int IntKind.i64 n).wf = true) (hi : (Lit.int IntKind.i64 i).wf = true) :
    P.keyLits (d + 1 + 1) k [.int .i64 n, .int .i64 i] = some [.int .i64 n, .int .i64 i] := by
  have e0 := keyLits_one he d n hn
  have e1 := keyLits_one he d i hi
  unfold Program.keyLits
  rw [hu]
  dsimp only
  rw [if_pos ⟨by rw [hc]; rfl, hnm⟩]
  simp [t0, t1, o0, o1, hce, e0, e1]
theorem keyOf_slot {n i : Int} (hn : I64 n) (hi : I64 i) : keyOf Try.prog 31 (sv n i) = some (kl n i) := by
  have h1 : Try.prog.keyType 31 = true := by kernel_rfl
  have h2 : Try.prog.cellsOf 31 = 2 := by kernel_rfl
  have h3 : Try.prog.cellsOf 3 = 1 := by kernel_rfl
  obtain ⟨m, hm⟩ : ∃ m, Try.prog.types.size + 1 = m + 1 + 1 := ⟨Try.prog.types.size - 1, by have : 1 ≤ Try.prog.types.size := of_decide_eq_true (by kernel_rfl); omega⟩
  have hk := keyLits_two _ _ Try.underlying31 rfl rfl rfl rfl (by decide +kernel) h2 Try.underlying3 h3 m n i hn hi
  have hf : (sv n i).formed Try.prog 31 = true := by simp [Value.formed, Try.underlying31, h2]
  unfold keyOf
  rw [Try.underlying31]
  simp only [h1, hf, Bool.and_self, if_true, hm]
  show (Try.prog.keyLits (m + 1 + 1) 31 [.int .i64 n, .int .i64 i]).map _ = _
  rw [hk]
  rfl
theorem kl_inj {n i n' i' : Int} (hn : I64 n) (hi : I64 i) (hn' : I64 n') (hi' : I64 i') (h : kl n i = kl n' i') : n = n' ∧ i = i' := by
  have := Try.keySlot.inj (keyOf_slot hn hi) (h ▸ keyOf_slot hn' hi')
  simpa [sv] using this
theorem kl_key {n i : Int} (hn : I64 n) (hi : I64 i) : WideAt.IsKeyLit (kl n i) := Try.keySlot.key (keyOf_slot hn hi)


/-! ### A map from slots' names to pointers -/
def KMap (w : World) (b n : Nat) (K : Int × Int → Option Nat) : Prop :=
  ∃ D : DataW Unit, w.ownsMap Try.prog 31 ptrElem b n D ∧ Maps.size D = n ∧ ∀ s : Int × Int, I64 s.1 → I64 s.2 → D.atKey (kl s.1 s.2) .nil = ptrD (K s) ∧ Maps.has D (kl s.1 s.2) = (K s).isSome

theorem KMap.lt {w : World} {b n : Nat} {K : Int × Int → Option Nat} (h : KMap w b n K) : b < w.heap.size := by obtain ⟨D, h, _⟩ := h; exact h.lt
theorem KMap.fr {O : Nat → Prop} {w w' : World} {b n : Nat} {K : Int × Int → Option Nat} (h : KMap w b n K) (k : Fr O w w') (ho : ¬ O b) : KMap w' b n K := by
  have hlt := h.lt
  obtain ⟨D, ⟨es, clock, hb, F, hs, hD⟩, h2⟩ := h
  exact ⟨D, ⟨es, clock, (k.block b hlt ho).trans hb, F, hs, hD⟩, h2⟩
theorem KMap.made (w : World) : KMap (w.alloc (.map #[] 0)) w.heap.size 0 (fun _ => none) := ⟨.map [], World.ownsMap_made _ _ _ _, rfl, fun _ _ _ => ⟨rfl, rfl⟩⟩

theorem zeroPtr (w : World) : (zeroValue 58).run Try.prog w = .ok (.pointer none) w := by kernel_rfl

theorem KMap.look {w : World} {b n : Nat} {K : Int × Int → Option Nat} (h : KMap w b n K) (s t : Int) (hs : I64 s) (ht : I64 t) :
    (Instr.lookup 54 (.map (some b)) (sv s t) false).run Try.prog w = .ok (ptr (K (s, t))) w := by
  obtain ⟨D, h1, _, h2⟩ := h
  obtain ⟨v, ps, hr, hv⟩ := h1.lookup Try.keySlot Try.underlying54 (zeroPtr w) (zd := .nil) (zp := []) rfl (keyOf_slot hs ht)
  rw [(h2 (s, t) hs ht).1] at hv
  rw [hr, ptrElem_inv hv]
theorem KMap.len {w : World} {b n : Nat} {K : Int × Int → Option Nat} (h : KMap w b n K) (ty : TypeId) : (Builtin.len_ #[54] ty #[.map (some b)]).run Try.prog w = .ok (.int .i64 n) w := by
  obtain ⟨D, h1, h3, h2⟩ := h
  rw [h1.len Try.underlying54 ty, h3]

theorem KMap.put {w : World} {b n : Nat} {K : Int × Int → Option Nat} (h : KMap w b n K) (s t : Int) (q : Nat) (hs : I64 s) (ht : I64 t) (hn : n ≤ 1000) (hK : K (s, t) = none) :
    ∃ w', (Instr.mapUpdate 54 (.map (some b)) (sv s t) (.pointer (some ⟨q, 0, none⟩))).run Try.prog w = .ok () w' ∧ KMap w' b (n + 1) (fun j => if j = (s, t) then some q else K j) ∧ w.grownBy w' (some b) := by
  obtain ⟨D, h1, h3, h2⟩ := h
  obtain ⟨w', hr, ho, hg⟩ := h1.update Try.keySlot Try.underlying54 (by unfold maxLen; omega) (d := .lit (.int .i64 q)) (ps := []) (val := .pointer (some ⟨q, 0, none⟩)) (keyOf_slot hs ht) rfl
  refine ⟨w', hr, ⟨_, ho, ?_, fun j hj hj' => ?_⟩, hg⟩
  · rw [size_put (h1.tidy Try.keySlot), (h2 (s, t) hs ht).2, hK, h3]; rfl
  · show _ = ptrD (if j = (s, t) then some q else K j) ∧ _ = (if j = (s, t) then some q else K j).isSome
    by_cases e : j = (s, t)
    · subst e
      rw [if_pos rfl, atKey_put_same h1.isMap (kl_key hs ht), has_put_same h1.isMap (kl_key hs ht)]; exact ⟨rfl, rfl⟩
    · have hne : kl j.1 j.2 ≠ kl s t := fun x => e (by obtain ⟨a, b⟩ := kl_inj hj hj' hs ht x; obtain ⟨j1, j2⟩ := j; simp at a b; rw [a, b])
      rw [if_neg e, atKey_put_other hne, has_put_other hne]
      exact h2 j hj hj'

theorem KMap.del {w : World} {b n : Nat} {K : Int × Int → Option Nat} (h : KMap w b (n + 1) K) (s t : Int) (hs : I64 s) (ht : I64 t) (ty : TypeId) (hK : K (s, t) ≠ none) :
    ∃ w', (Builtin.delete_ #[54, 31] ty #[.map (some b), sv s t]).run Try.prog w = .ok (.tuple #[]) w' ∧ KMap w' b n (fun j => if j = (s, t) then none else K j) ∧ w.grownBy w' (some b) := by
  obtain ⟨D, h1, h3, h2⟩ := h
  obtain ⟨w', hr, ho, hg⟩ := h1.drop Try.keySlot Try.underlying54 (keyOf_slot hs ht) ty
  have hsz : Maps.size (D.del (kl s t)) = n := by
    have := size_del (k := kl s t) (h1.tidy Try.keySlot)
    rw [(h2 (s, t) hs ht).2, h3] at this
    cases hk : K (s, t) with
    | none => exact absurd hk hK
    | some q => rw [hk] at this; simpa using this
  refine ⟨w', hr, ⟨_, ?_, hsz, fun j hj hj' => ?_⟩, hg.grown⟩
  · obtain ⟨es, clock, hb, F, hs, hD⟩ := ho
    refine ⟨es, clock, hb, F, ?_, hD⟩
    rw [hD] at hsz
    simpa [Maps.size, length_sorted] using Nat.le_of_eq hsz
  · show _ = ptrD (if j = (s, t) then none else K j) ∧ _ = (if j = (s, t) then none else K j).isSome
    by_cases e : j = (s, t)
    · subst e
      rw [if_pos rfl, atKey_del_same, has_del_same]; exact ⟨rfl, rfl⟩
    · have hne : kl j.1 j.2 ≠ kl s t := fun x => e (by obtain ⟨a, b⟩ := kl_inj hj hj' hs ht x; obtain ⟨j1, j2⟩ := j; simp at a b; rw [a, b])
      rw [if_neg e, atKey_del_other hne, has_del_other hne]
      exact h2 j hj hj'

end Go.Proofs.Ytboojbnnjbmnoaa
