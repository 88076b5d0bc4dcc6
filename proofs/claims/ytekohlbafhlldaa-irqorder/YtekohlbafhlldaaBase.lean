/-
  WORLDS THAT ONLY GROW, frames by the blocks that something owns, lists of the call's own whatever their elements are. Speaks of no function of the program.
-/
import Derived.WalkKit
import Derived.WalkSpells
import Derived.WalkLawsBesides
import Derived.Deep.OwnRows
import Derived.Deep.Draws
import Derived.Deep.QuietTactic
import Derived.BigQuiet
import Derived.Laws.StructEq
import Derived.Laws.AppendOwn
import Derived.Laws.OwnMore
import Derived.Laws.CopyOwn
import Derived.Maps.OwnSet
import Derived.Maps.OwnOps
import Derived.Maps.AppendAt
import Derived.Deep.MidRow
import Derived.Deep.Cut
import Derived.Deep.RegionLaw
import Derived.Deep.LoopGhost
import Derived.Lib.AppendZerosOnto
import Derived.Test.YtekohlbafhlldaaRows
namespace Go.Proofs.Ytekohlbafhlldaa
set_option maxRecDepth 10000
open Go.RowKit Go.Maps
set_option linter.unusedVariables false

theorem hideIt {p : Prop} (h : p) : Hid p := h
theorem ret_bool {a b : Bool} (h : a = b) : Ending.returned (.bool a) = .returned (.bool b) := by rw [h]
theorem ret_int {k : IntKind} {a b : Int} (h : a = b) : Ending.returned (.int k a) = .returned (.int k b) := by rw [h]
theorem ret_int2 {k l : IntKind} {a b : Int} {c : Int} (h : a = b) : Ending.returned (.tuple #[.int k a, .int l c]) = .returned (.tuple #[.int k b, .int l c]) := by rw [h]

/-! ### Worlds -/
theorem gbRefl (w : World) (r : Option Nat) : w.grownBy w r := ⟨rfl, rfl, rfl, Nat.le_refl _, fun _ _ _ => rfl⟩
theorem gbTrans {a b c : World} {r : Option Nat} (h : a.grownBy b r) (k : b.grownBy c r) : a.grownBy c r :=
  ⟨k.os.trans h.os, k.tape.trans h.tape, k.output.trans h.output, Nat.le_trans h.size k.size, fun i hi hr => (k.block i (Nat.lt_of_lt_of_le hi h.size) hr).trans (h.block i hi hr)⟩
theorem gbAny {a b : World} (h : a.grownBy b none) (r : Option Nat) : a.grownBy b r :=
  ⟨h.os, h.tape, h.output, h.size, fun i hi _ => h.block i hi (by simp)⟩
theorem gbDrewN (w : World) (q : Nat) (r : Option Nat) : w.grownBy (w.drewN q) r := ⟨rfl, rfl, rfl, Nat.le_refl _, fun _ _ _ => rfl⟩
theorem gbSetCell (w : World) (b i : Nat) (v : Value) : w.grownBy (w.setCell ⟨b, i, none⟩ v) (some b) :=
  ⟨rfl, rfl, rfl, by simp [World.setCell], fun k _ hk => Below.heap_setCell _ _ _ _ (fun e => hk (by rw [e]))⟩
theorem gbAlloc (w : World) (o : Obj) (r : Option Nat) : w.grownBy (w.alloc o) r :=
  ⟨rfl, rfl, rfl, by simp, fun k hk _ => by unfold World.alloc; rw [Array.getElem?_push, if_neg (Nat.ne_of_lt hk)]⟩
/-- What was written is a block that was not there: seen from before, nothing was written. -/
theorem gbNew {a b : World} {g : Nat} (h : a.grownBy b (some g)) (hg : a.heap.size ≤ g) : a.grownBy b none :=
  ⟨h.os, h.tape, h.output, h.size, fun i hi _ => h.block i hi (fun e => by simp at e; omega)⟩
theorem gbNews {a b : World} {r : Option Nat} (h : a.grownBy b r) (hr : ∀ k, r = some k → a.heap.size ≤ k) : a.grownBy b none :=
  ⟨h.os, h.tape, h.output, h.size, fun i hi _ => h.block i hi (fun e => by have := hr i e.symm; omega)⟩
theorem gbBelow {B : Nat} {w0 a b : World} {r : Option Nat} (h : Below B w0 a) (g : a.grownBy b r) (hB : B ≤ w0.heap.size) (hr : ∀ k, r = some k → B ≤ k) : Below B w0 b :=
  h.grown g (Nat.le_trans hB h.size) hr
theorem gbEnd {w w' : World} (g : w.grownBy w' none) : Below w.heap.size w w' :=
  gbBelow (Below.refl _ _) g (Nat.le_refl _) (by simp)
theorem gbSetNew {w w1 : World} (h : w.grownBy w1 none) (b i : Nat) (v : Value) (hb : w.heap.size ≤ b) : w.grownBy (w1.setCell ⟨b, i, none⟩ v) none :=
  gbNew (gbTrans (gbAny h _) (gbSetCell _ _ _ _)) hb
theorem gbDrew {w w1 : World} (h : w.grownBy w1 none) : w.grownBy w1.drew none := gbTrans h (gbDrewN _ 1 none)
theorem gbAllocN {w w1 : World} (h : w.grownBy w1 none) (o : Obj) : w.grownBy (w1.alloc o) none := gbTrans h (gbAlloc _ _ _)
theorem gbFrozen {w w' : World} {b i : Nat} {r : Option Nat} (g : w.grownBy w' r) (hb : b < w.heap.size) (hr : some b ≠ r) : w'.frozen? ⟨b, i, none⟩ = w.frozen? ⟨b, i, none⟩ := by
  unfold World.frozen?
  rw [g.block b hb hr]
theorem drewHeap (w : World) : w.drew.heap = w.heap := rfl

theorem wI {x : Int} {c : Nat} (h : x = (c : Int)) (hc : c < 9223372036854775808) : IntKind.i64.wrap x = (c : Int) := by rw [h, IntKind.wrap_i64]; omega

/-! ### Regions that read, with calls that make memory -/
/-- A world that W has grown into. -/
structure Gr (W : World) where
  w : World
  g : W.grownBy w none
theorem grNE (W : World) : Nonempty (Gr W) := ⟨⟨W, gbRefl W none⟩⟩
theorem wp_region_grown {P : Program} {id : Nat} {Q : Exit → Act → World → Prop} {a : Act} {w : World} {l : List Oper} (hm : P.follows .mixedOrders = true) (hB : Region.lexB .any l.toArray = true)
    (h : Nonempty (Gr w) → wpQuiet P l.toArray (fun w' => ∃ x : Gr w, w' = x.w) (fun a' => ∀ w', (∃ x : Gr w, w' = x.w) → Q .normal a' w') l a) : (Code.region id l.toArray true).wp P Q a w :=
  wp_region_quiet (C := fun w' => ∃ x : Gr w, w' = x.w) hm hB ⟨⟨_, gbDrewN w 1 none⟩, rfl⟩ (by simpa using h (grNE w))
theorem callsGr {P : Program} {f : FuncId} {args : Array Value} {w : World} {x : Gr w} {v : Value} (h : Calls P f args x.w fun e w' => e = .returned v ∧ x.w.grownBy w' none) :
    Calls P f args x.w fun e w'' => e = .returned v ∧ ∃ y : Gr w, w'' = y.w :=
  h.mono fun _ w1 ⟨he, hg⟩ => ⟨he, ⟨w1, gbTrans x.g hg⟩, rfl⟩

/-! ### Frames -/
/-- Nothing but blocks of O has turned; new blocks may be there. -/
structure Fr (O : Nat → Prop) (w w' : World) : Prop where
  os : w'.os = w.os
  tape : w'.tape = w.tape
  output : w'.output = w.output
  size : w.heap.size ≤ w'.heap.size
  block : ∀ k, k < w.heap.size → ¬ O k → w'.heap[k]? = w.heap[k]?
theorem Fr.refl (O : Nat → Prop) (w : World) : Fr O w w := ⟨rfl, rfl, rfl, Nat.le_refl _, fun _ _ _ => rfl⟩
theorem Fr.trans {O : Nat → Prop} {a b c : World} (h : Fr O a b) (k : Fr O b c) : Fr O a c :=
  ⟨k.os.trans h.os, k.tape.trans h.tape, k.output.trans h.output, Nat.le_trans h.size k.size, fun i hi ho => (k.block i (Nat.lt_of_lt_of_le hi h.size) ho).trans (h.block i hi ho)⟩
/-- The second one may have blocks that were not there for the first one. -/
theorem Fr.join {O O' : Nat → Prop} {a b c : World} (h : Fr O a b) (k : Fr O' b c) (ho : ∀ i, i < a.heap.size → O' i → O i) : Fr O a c :=
  ⟨k.os.trans h.os, k.tape.trans h.tape, k.output.trans h.output, Nat.le_trans h.size k.size, fun i hi hO => (k.block i (Nat.lt_of_lt_of_le hi h.size) (fun e => hO (ho i hi e))).trans (h.block i hi hO)⟩
theorem Fr.grown {O : Nat → Prop} {w w' : World} (h : w.grownBy w' none) : Fr O w w' := ⟨h.os, h.tape, h.output, h.size, fun i hi _ => h.block i hi (by simp)⟩
theorem Fr.at {O : Nat → Prop} {w w' : World} {r : Nat} (h : w.grownBy w' (some r)) (hr : O r) : Fr O w w' :=
  ⟨h.os, h.tape, h.output, h.size, fun i hi ho => h.block i hi (fun e => ho (by cases e; exact hr))⟩
theorem Fr.opt {O : Nat → Prop} {w w' : World} {r : Option Nat} (h : w.grownBy w' r) (hr : ∀ k, r = some k → O k) : Fr O w w' :=
  ⟨h.os, h.tape, h.output, h.size, fun i hi ho => h.block i hi (fun e => ho (hr i e.symm))⟩
theorem Fr.mono {O O' : Nat → Prop} {w w' : World} (h : Fr O w w') (ho : ∀ i, i < w.heap.size → O i → O' i) : Fr O' w w' := ⟨h.os, h.tape, h.output, h.size, fun i hi k => h.block i hi (fun e => k (ho i hi e))⟩
/-- What it turned is new, seen from before. -/
theorem Fr.new {O : Nat → Prop} {w w' : World} (h : Fr O w w') (ho : ∀ i, i < w.heap.size → ¬ O i) : w.grownBy w' none := ⟨h.os, h.tape, h.output, h.size, fun i hi _ => h.block i hi (ho i hi)⟩
theorem Fr.since {O : Nat → Prop} {w0 w w' : World} (g : w0.grownBy w none) (h : Fr O w w') (ho : ∀ i, O i → w0.heap.size ≤ i) : w0.grownBy w' none :=
  ⟨h.os.trans g.os, h.tape.trans g.tape, h.output.trans g.output, Nat.le_trans g.size h.size, fun i hi _ => (h.block i (Nat.lt_of_lt_of_le hi g.size) (fun e => by have := ho i e; omega)).trans (g.block i hi (by simp))⟩
theorem Fr.cell {O : Nat → Prop} {w w' : World} (h : Fr O w w') {a : Addr} {v : Value} (ha : w.cell? a = some v) (ho : ¬ O a.block) : w'.cell? a = some v :=
  (World.cell?_of_block (h.block _ (World.block_lt_of_cell? w a ha) ho)).trans ha
theorem Fr.frozen {O : Nat → Prop} {w w' : World} (h : Fr O w w') {b i : Nat} (hb : b < w.heap.size) (ho : ¬ O b) : w'.frozen? ⟨b, i, none⟩ = w.frozen? ⟨b, i, none⟩ := by
  unfold World.frozen?
  rw [h.block b hb ho]
/-- The blocks of O, and what is new. -/
def wide (O : Nat → Prop) (w w' : World) : Nat → Prop := fun i => O i ∨ (w.heap.size ≤ i ∧ i < w'.heap.size)
theorem wideNo {O : Nat → Prop} {w w' : World} {x : Nat} (h : ¬ O x) (hx : x < w.heap.size) : ¬ wide O w w' x := by
  rintro (h1 | h1)
  · exact h h1
  · omega

/-! ### Cells of elements -/
/-- An element's cells: s of them, each one cell. -/
structure Enc {α : Type} (e : α → List Value) (s : Nat) : Prop where
  pos : 0 < s
  len : ∀ x, (e x).length = s
  one : ∀ x, ∀ u ∈ e x, u.oneCell' = true
def cl {α : Type} (e : α → List Value) (L : List α) : List Value := L.flatMap e
section
variable {α : Type} {e : α → List Value} {s : Nat}
theorem cl_nil : cl e [] = [] := rfl
theorem cl_cons (x : α) (L : List α) : cl e (x :: L) = e x ++ cl e L := rfl
theorem cl_app (L D : List α) : cl e L ++ cl e D = cl e (L ++ D) := by unfold cl; simp
theorem cl_len (E : Enc e s) (L : List α) : (cl e L).length = L.length * s := by
  induction L with
  | nil => simp [cl]
  | cons p L ih => rw [cl_cons, List.length_append, E.len, ih, List.length_cons, Nat.add_mul]; omega
theorem cl_get (E : Enc e s) (L : List α) (i k : Nat) (x : α) (h : L[i]? = some x) (hk : k < s) : (cl e L)[i * s + k]? = (e x)[k]? := by
  induction L generalizing i with
  | nil => simp at h
  | cons q L ih =>
    rw [cl_cons]
    cases i with
    | zero =>
      simp at h; subst h
      rw [Nat.zero_mul, Nat.zero_add, List.getElem?_append_left (by rw [E.len]; exact hk)]
    | succ i =>
      have hl : s ≤ (i + 1) * s + k := by rw [Nat.add_mul]; omega
      rw [List.getElem?_append_right (by rw [E.len]; exact hl), E.len, show (i + 1) * s + k - s = i * s + k by rw [Nat.add_mul]; omega]
      exact ih i (by simpa using h)
theorem cl_one (E : Enc e s) (L : List α) : ∀ u ∈ cl e L, u.oneCell' = true := by
  intro u hu
  unfold cl at hu
  rw [List.mem_flatMap] at hu
  obtain ⟨a, _, h⟩ := hu
  exact E.one a u h
theorem cl_take (E : Enc e s) : ∀ (L : List α) (i : Nat), cl e (L.take i) = (cl e L).take (i * s)
  | [], i => by simp [cl]
  | p :: L, 0 => by simp [cl]
  | p :: L, i + 1 => by
    rw [List.take_succ_cons, cl_cons, cl_cons, cl_take E L i, List.take_append, E.len, show (i + 1) * s - s = i * s by rw [Nat.add_mul]; omega]
    rw [List.take_of_length_le (l := e p) (by rw [E.len, Nat.add_mul]; omega)]
theorem cl_drop (E : Enc e s) : ∀ (L : List α) (i : Nat), cl e (L.drop i) = (cl e L).drop (i * s)
  | [], i => by simp [cl]
  | p :: L, 0 => by simp
  | p :: L, i + 1 => by
    rw [List.drop_succ_cons, cl_cons, cl_drop E L i, List.drop_append, E.len, show (i + 1) * s - s = i * s by rw [Nat.add_mul]; omega]
    have hd : List.drop ((i + 1) * s) (e p) = [] := List.drop_eq_nil_of_le (by rw [E.len, Nat.add_mul]; omega)
    rw [hd, List.nil_append]

/-! ### Lists of the call's own -/
def Ls (e : α → List Value) (tk : TypeId) (s : Nat) (w : World) (B : Nat) (v : Value) (L : List α) : Prop := w.ownsRow B tk s v L.length (cl e L)
variable {tk : TypeId} {w w' : World} {B : Nat} {v : Value} {L : List α}
theorem Ls.nil (e : α → List Value) (tk : TypeId) (s : Nat) (w : World) (B : Nat) : Ls e tk s w B (.slice none 0 0) [] := World.ownsRow_nil w B tk s
theorem Ls.empty (e : α → List Value) (tk : TypeId) (s : Nat) (w : World) : Ls e tk s (w.alloc (.cells #[] tk)) w.heap.size (.slice (some ⟨w.heap.size, 0, none⟩) 0 0) [] :=
  w.ownsRow_made (base := w.heap.size) (e := tk) (size := s) #[] 0 (Nat.le_refl _) (by decide) (by simp)
theorem Ls.kept (h : Ls e tk s w B v L) (g : w.grownBy w' none) : Ls e tk s w' B v L := World.ownsRow.kept h g (by cases v.ownBlock <;> simp)
theorem Ls.lt (h : Ls e tk s w B v L) : ∀ k, v.ownBlock = some k → B ≤ k ∧ k < w.heap.size := World.ownsRow.lt h
theorem Ls.block (h : Ls e tk s w B v L) (hb : ∀ k, v.ownBlock = some k → w'.heap[k]? = w.heap[k]?) : Ls e tk s w' B v L := by
  refine ⟨h.1, ?_⟩
  rcases h.2 with h2 | ⟨g, cap, cur, rfl, h3, h4, h5⟩
  · exact .inl h2
  · exact .inr ⟨g, cap, cur, rfl, h3, (hb g rfl).trans h4, h5⟩
theorem Ls.fr {O : Nat → Prop} (h : Ls e tk s w B v L) (F : Fr O w w') (hv : ∀ k, v.ownBlock = some k → ¬ O k) : Ls e tk s w' B v L :=
  h.block (fun k hk => F.block k (h.lt k hk).2 (hv k hk))
theorem Ls.keep {y : Option Nat} (h : Ls e tk s w B v L) (g : w.grownBy w' y) (hv : ∀ k, v.ownBlock = some k → some k ≠ y) : Ls e tk s w' B v L :=
  h.block (fun k hk => g.block k (h.lt k hk).2 (hv k hk))
theorem Ls.base {B' : Nat} (h : Ls e tk s w B v L) (hb : ∀ k, v.ownBlock = some k → B' ≤ k) : Ls e tk s w B' v L := by
  refine ⟨h.1, ?_⟩
  rcases h.2 with h2 | ⟨g, cap, cur, rfl, h3, h4, h5⟩
  · exact .inl h2
  · exact .inr ⟨g, cap, cur, rfl, hb g rfl, h4, h5⟩
theorem Ls.low (h : Ls e tk s w B v L) : Ls e tk s w 0 v L := h.base (fun _ _ => Nat.zero_le _)
/-- What it looks like. -/
theorem Ls.form (h : Ls e tk s w B v L) : (v = .slice none 0 0 ∧ L = []) ∨ ∃ g cap, v = .slice (some ⟨g, 0, none⟩) L.length cap ∧ L.length ≤ cap ∧ B ≤ g ∧ g < w.heap.size ∧ cap ≤ 9223372036854775807 := by
  have h0 := h.2
  rcases h0 with ⟨rfl, hn⟩ | ⟨g, cap, cur, rfl, hB, hg, hn, hm, _, _⟩
  · exact .inl ⟨rfl, List.eq_nil_of_length_eq_zero hn⟩
  · exact .inr ⟨g, cap, rfl, hn, hB, (World.ownsRow.lt h g rfl).2, by unfold maxLen at hm; omega⟩
theorem Ls.has {n : Nat} (h : Ls e tk s w B v L) (hn : L.length = n) (h0 : 0 < n) : ∃ g cap, v = .slice (some ⟨g, 0, none⟩) n cap ∧ n ≤ cap ∧ B ≤ g ∧ g < w.heap.size ∧ cap ≤ 9223372036854775807 := by
  rcases h.form with ⟨_, rfl⟩ | ⟨g, cap, rfl, k⟩
  · simp at hn; omega
  · rw [hn] at k
    exact ⟨g, cap, by rw [hn], k⟩
/-- A slice, whatever it is: its address, if it has any elements. -/
theorem Ls.arr (h : Ls e tk s w B v L) : ∃ a cap, v = .slice a L.length cap ∧ L.length ≤ cap ∧ cap ≤ 9223372036854775807 ∧ (a = none → L = []) := by
  rcases h.form with ⟨rfl, rfl⟩ | ⟨g, cap, rfl, h1, _, _, h2⟩
  · exact ⟨none, 0, rfl, Nat.le_refl _, by omega, fun _ => rfl⟩
  · exact ⟨_, cap, rfl, h1, h2, by simp⟩
theorem Ls.cell {g n cap : Nat} (E : Enc e s) (h : Ls e tk s w B (.slice (some ⟨g, 0, none⟩) n cap) L) (hn : L.length = n) (j k : Nat) (x : α) (u : Value) (hj : L[j]? = some x) (hk : (e x)[k]? = some u) : w.cell? ⟨g, j * s + k, none⟩ = some u := by
  subst hn
  have hk2 : k < s := by rw [← E.len x]; exact (List.getElem?_eq_some_iff.1 hk).1
  have hlt : j < L.length := (List.getElem?_eq_some_iff.1 hj).1
  have hl := cl_get E L j k x hj hk2
  refine (World.ownsRow.cellAt h _ ?_).trans (hl.trans hk)
  have : (j + 1) * s ≤ L.length * s := Nat.mul_le_mul_right s hlt
  rw [Nat.add_mul] at this; omega
theorem Ls.frozen {g n cap : Nat} (h : Ls e tk s w B (.slice (some ⟨g, 0, none⟩) n cap) L) (hn : L.length = n) : ∀ i, w.frozen? ⟨g, i, none⟩ = false := by
  subst hn
  exact World.ownsRow.frozenAt h
/-- Its cells, from a place on. -/
theorem Ls.row {g n cap : Nat} (E : Enc e s) (h : Ls e tk s w B (.slice (some ⟨g, 0, none⟩) n cap) L) (hn : L.length = n) (i : Nat) (D : List α) (hD : ∀ j, D[j]? = none ∨ D[j]? = L[i + j]?) : ∀ j u, (cl e D)[j]? = some u → w.cell? ((⟨g, i * s, none⟩ : Addr).add j) = some u := by
  intro j u hu
  have hj : j < D.length * s := by rw [← cl_len E D]; exact (List.getElem?_eq_some_iff.1 hu).1
  have hm : j % s < s := Nat.mod_lt _ E.pos
  have hd : j / s < D.length := by rw [Nat.div_lt_iff_lt_mul E.pos]; exact hj
  have hx : D[j / s]? = some D[j / s] := List.getElem?_eq_getElem hd
  have e1 := cl_get E D (j / s) (j % s) _ hx hm
  have e2 : j / s * s + j % s = j := Nat.div_add_mod' j s
  rw [e2, hu] at e1
  rcases hD (j / s) with h1 | h1
  · rw [hx] at h1; cases h1
  · have := h.cell E hn (i + j / s) (j % s) _ u (by rw [← h1, hx]) e1.symm
    rw [Addr.add_lit]
    rwa [Nat.add_mul, Nat.add_assoc, e2] at this
/-- The front of a list is a list. -/
theorem Ls.cutTo {g n cap : Nat} (E : Enc e s) (h : Ls e tk s w B (.slice (some ⟨g, 0, none⟩) n cap) L) (hn : L.length = n) (i : Nat) (hi : i ≤ n) : Ls e tk s w B (.slice (some ⟨g, 0, none⟩) i cap) (L.take i) := by
  obtain ⟨h1, h2⟩ := h
  rcases h2 with ⟨e', _⟩ | ⟨g', cap', cur, e', hb, hg, hc, hm, hs, ht⟩
  · cases e'
  · cases e'
    have hl : (L.take i).length = i := by rw [List.length_take]; omega
    refine ⟨by rw [cl_len E], .inr ⟨g, cap, cur, by rw [hl], hb, hg, by rw [hl]; omega, hm, hs, ?_⟩⟩
    rw [hl]
    have e2 := cl_take E L i
    have hle : i * s ≤ L.length * s := Nat.mul_le_mul_right s hi
    rw [e2, ← ht, List.take_take, Nat.min_eq_left hle]
/-- append onto a list: whatever comes of it. -/
theorem run_append_l {tl : TypeId} {i : TypeInfo} {z : Value} {bytes : Nat} (E : Enc e s) (ht : Try.prog.underlying tl = some (.slice tk)) (hi : Try.prog.info? tk = some i) (hz : i.zero = some z) (hs : i.size = s) (hb : i.bytes = bytes) (hc : z.cells.size = s) (hby : bytes ≤ 1000)
    (w : World) (B : Nat) (v : Value) (L : List α) (hown : Ls e tk s w B v L) (ty : TypeId) (ox : Option Addr) (m c : Nat) (D : List α) (hm : D.length = m) (hno : ox = none → m = 0) (hx : ∀ ad, ox = some ad → ∀ j u, (cl e D)[j]? = some u → w.cell? (ad.add j) = some u) (hn : L.length + m ≤ 100000) (hB : B ≤ w.heap.size) :
    ∃ v' w', (Builtin.append_ #[tl, tl] ty #[v, .slice ox m c]).run Try.prog w = .ok v' w' ∧ Ls e tk s w' B v' (L ++ D) ∧ w.grownBy w' v.ownBlock ∧ (v'.ownBlock = v.ownBlock ∨ v'.ownBlock = some w.heap.size) := by
  cases ox with
  | some ad =>
    obtain ⟨v', w', h1, h2, h3, _, h5⟩ := run_append_own_at (P := Try.prog) w B tl ty tk i z s bytes ht hi hz hs hb hc E.pos v L.length (cl e L) hown ad m c (cl e D) (by rw [cl_len E, hm]) (hx ad rfl) (cl_one E D) (by unfold maxLen; omega) (by
      have : (L.length + m) * bytes ≤ 100000 * 1000 := Nat.mul_le_mul hn hby
      omega) hB
    refine ⟨v', w', h1, ?_, h3, h5⟩
    unfold Ls
    rw [← cl_app, List.length_append, hm]
    exact h2
  | none =>
    obtain rfl : m = 0 := hno rfl
    obtain rfl : D = [] := List.eq_nil_of_length_eq_zero hm
    refine ⟨v, w, ?_, by rw [List.append_nil]; exact hown, gbRefl _ _, .inl rfl⟩
    rcases hown.2 with ⟨rfl, _⟩ | ⟨g, cap, cur, rfl, _, _, hnc, _⟩
    · simp [Builtin.append_, run_underlying ht, sizeOf, typeInfo, hi, Builtin.lenOf, Builtin.firstCells]
    · have : L.length + 0 ≤ cap := by omega
      simp [Builtin.append_, run_underlying ht, sizeOf, typeInfo, hi, Builtin.lenOf, Builtin.firstCells, storeCells, hnc]
/-- append where there is room: in place. -/
theorem run_append_room {tl : TypeId} {i : TypeInfo} (E : Enc e s) (ht : Try.prog.underlying tl = some (.slice tk)) (hi : Try.prog.info? tk = some i) (hs : i.size = s)
    (w : World) (B g n cap : Nat) (L : List α) (hown : Ls e tk s w B (.slice (some ⟨g, 0, none⟩) n cap) L) (hl : L.length = n) (ty : TypeId) (ad : Addr) (m c : Nat) (D : List α) (hm : D.length = m) (hx : ∀ j u, (cl e D)[j]? = some u → w.cell? (ad.add j) = some u) (hr : n + m ≤ cap) :
    ∃ w', (Builtin.append_ #[tl, tl] ty #[.slice (some ⟨g, 0, none⟩) n cap, .slice (some ad) m c]).run Try.prog w = .ok (.slice (some ⟨g, 0, none⟩) (n + m) cap) w' ∧ Ls e tk s w' B (.slice (some ⟨g, 0, none⟩) (n + m) cap) (L ++ D) ∧ w.grownBy w' (some g) := by
  subst hl
  obtain ⟨w', h1, h2, h3⟩ := run_append_fits (P := Try.prog) w B tl ty tk i s ht hi hs g L.length cap (cl e L) hown ad m c (cl e D) (by rw [cl_len E, hm]) hx (cl_one E D) hr
  refine ⟨w', h1, ?_, h3⟩
  unfold Ls
  rw [← cl_app, List.length_append, hm]
  exact h2
end
/-- append inside a region that draws its order, its run known. -/
theorem step_append_run {ops : Array Oper} {o : Oper} {a : Act} {w : World} {K : Act → World → Prop} {Q : Exit → Act → World → Prop} {X : Prop} {t : TypeId} (hgd : o.guard = none) (s x : Operand)
    (ho : o.op = .call { callee := .builtin .append, args := #[s, x], argTypes := #[t, t] }) (vs vx : Value) (hs : a.eval s = vs) (hx : a.eval x = vx)
    (v' : Value) (w' : World) (hr : (Builtin.append_ #[t, t] o.type #[vs, vx]).run Try.prog w = .ok v' w') (h : K (a.put o.dst v') w') :
    if Region.wanted o (yielded ops a.tmps) = true then Oper.wp Try.prog o a w K Q else X := by
  have hw : Region.wanted o (yielded ops a.tmps) = true := by simp [Region.wanted, hgd]
  rw [if_pos hw]
  unfold Oper.wp execOp
  simp only [ho, resolve, invoke, builtin, Sem.run_bind, Sem.run_pure, Result.andThen_ok, List.map_toArray, List.map_cons, List.map_nil, hs, hx, hr]
  exact h
theorem wpList_append_run {w : World} {ops : Array Oper} {rest : List Oper} {o : Oper} {a : Act} {Q : Exit → Act → World → Prop} {t : TypeId} (hgd : o.guard = none) (s x : Operand)
    (ho : o.op = .call { callee := .builtin .append, args := #[s, x], argTypes := #[t, t] }) (vs vx : Value) (hs : a.eval s = vs) (hx : a.eval x = vx)
    (v' : Value) (w' : World) (hr : (Builtin.append_ #[t, t] o.type #[vs, vx]).run Try.prog w = .ok v' w') (h : wpList Try.prog ops Q rest (a.put o.dst v') w') : wpList Try.prog ops Q (o :: rest) a w := by
  refine wpList_plain hgd fun K' hK' => ?_
  unfold Oper.wp execOp
  simp only [ho, resolve, invoke, builtin, Sem.run_bind, Sem.run_pure, Result.andThen_ok, List.map_toArray, List.map_cons, List.map_nil, hs, hx, hr]
  exact hK' _ _ h
end Go.Proofs.Ytekohlbafhlldaa
