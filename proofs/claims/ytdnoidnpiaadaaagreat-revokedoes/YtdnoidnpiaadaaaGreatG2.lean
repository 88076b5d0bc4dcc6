/-
  NODES OF SLOTS IN MEMORY: the plain store (what is in which slot), a node's block, the map of nodes, frames by the blocks that a store owns. Speaks of no function of the program.
-/
import Derived.Test.YtdnoidnpiaadaaaGreatG1
import Derived.Maps.OwnSet
import Derived.Maps.OwnOps
import Derived.Deep.MidRow
import Derived.Deep.Cut
import Derived.ChangeKeysEq
import Derived.RegionTactic
namespace Go.Proofs.YtdnoidnpiaadaaaGreat
set_option maxRecDepth 10000
open Go.RowKit Go.Maps
set_option linter.unusedVariables false

/-! ### Frames -/
/-- Nothing but blocks of O has turned; new blocks may be there. -/
structure Fr (O : Nat → Prop) (w w' : World) : Prop where
  os : w'.os = w.os
  tape : w'.tape = w.tape
  output : w'.output = w.output
  size : w.heap.size ≤ w'.heap.size
  block : ∀ k, k < w.heap.size → ¬ O k → w'.heap[k]? = w.heap[k]?

theorem Fr.refl (O : Nat → Prop) (w : World) : Fr O w w := ⟨rfl, rfl, rfl, Nat.le_refl _, fun _ _ _ => rfl⟩
theorem Fr.trans {O : Nat → Prop} {a b c : World} (h : Fr O a b) (k : Fr O b c) : Fr O a c :=
  ⟨k.os.trans h.os, k.tape.trans h.tape, k.output.trans h.output, Nat.le_trans h.size k.size, fun i hi ho => (k.block i (Nat.lt_of_lt_of_le hi h.size) ho).trans (h.block i hi ho)⟩
/-- The second one may have blocks that were not there for the first one. -/
theorem Fr.join {O O' : Nat → Prop} {a b c : World} (h : Fr O a b) (k : Fr O' b c) (ho : ∀ i, i < a.heap.size → O' i → O i) : Fr O a c :=
  ⟨k.os.trans h.os, k.tape.trans h.tape, k.output.trans h.output, Nat.le_trans h.size k.size, fun i hi hO => (k.block i (Nat.lt_of_lt_of_le hi h.size) (fun e => hO (ho i hi e))).trans (h.block i hi hO)⟩
theorem Fr.grown {O : Nat → Prop} {w w' : World} (h : w.grownBy w' none) : Fr O w w' := ⟨h.os, h.tape, h.output, h.size, fun i hi _ => h.block i hi (by simp)⟩
theorem Fr.at {O : Nat → Prop} {w w' : World} {r : Nat} (h : w.grownBy w' (some r)) (hr : O r) : Fr O w w' :=
  ⟨h.os, h.tape, h.output, h.size, fun i hi ho => h.block i hi (fun e => ho (by cases e; exact hr))⟩
theorem Fr.mono {O O' : Nat → Prop} {w w' : World} (h : Fr O w w') (ho : ∀ i, i < w.heap.size → O i → O' i) : Fr O' w w' := ⟨h.os, h.tape, h.output, h.size, fun i hi k => h.block i hi (fun e => k (ho i hi e))⟩
/-- What it turned is new, seen from before. -/
theorem Fr.new {O : Nat → Prop} {w w' : World} (h : Fr O w w') (ho : ∀ i, i < w.heap.size → ¬ O i) : w.grownBy w' none := ⟨h.os, h.tape, h.output, h.size, fun i hi _ => h.block i hi (ho i hi)⟩
theorem Fr.cell {O : Nat → Prop} {w w' : World} (h : Fr O w w') {a : Addr} {v : Value} (ha : w.cell? a = some v) (ho : ¬ O a.block) : w'.cell? a = some v :=
  (World.cell?_of_block (h.block _ (World.block_lt_of_cell? w a ha) ho)).trans ha
theorem Fr.box {O : Nat → Prop} {w w' : World} {x : Nat} {c : C} (h : Fr O w w') (X : Box w x c) (ho : ¬ O x) : Box w' x c :=
  ⟨h.cell X.at0 ho, h.cell X.at1 ho, h.cell X.at2 ho, h.cell X.at3 ho, h.cell X.at4 ho, h.cell X.at5 ho, Nat.lt_of_lt_of_le X.lt h.size, fun i => (World.frozen?_of_block (h.block _ X.lt ho)).trans (X.fr i)⟩

/-! ### Slots' names -/
abbrev sv (n i : Int) : Value := .agg #[.int .i64 n, .int .i64 i]
/-- A block of two cells: a slot's name. -/
structure SBox (w : World) (x : Nat) (n i : Int) : Prop where
  at0 : w.cell? ⟨x, 0, none⟩ = some (.int .i64 n)
  at1 : w.cell? ⟨x, 1, none⟩ = some (.int .i64 i)
  lt : x < w.heap.size
theorem SBox.kept {w w' : World} {x : Nat} {n i : Int} (h : SBox w x n i) (g : w.grownBy w' none) : SBox w' x n i := ⟨g.cell h.at0 (by simp), g.cell h.at1 (by simp), Nat.lt_of_lt_of_le h.lt g.size⟩
theorem Fr.sbox {O : Nat → Prop} {w w' : World} {x : Nat} {n i : Int} (h : Fr O w w') (X : SBox w x n i) (ho : ¬ O x) : SBox w' x n i := ⟨h.cell X.at0 ho, h.cell X.at1 ho, Nat.lt_of_lt_of_le X.lt h.size⟩
theorem SBox.made (w : World) (n i : Int) : SBox (w.alloc (.cells #[.int .i64 n, .int .i64 i] 31)) w.heap.size n i := ⟨by simp, by simp, by simp⟩
theorem sboxNew (w : World) (n i : Int) : ∃ W, w.alloc (.cells #[.int .i64 n, .int .i64 i] 31) = W ∧ SBox W w.heap.size n i ∧ w.grownBy W none := ⟨_, rfl, SBox.made w n i, gbAlloc _ _ _⟩

/-! ### The plain store -/
/-- A node: its radix, and what lies in its slots. -/
structure Nd where
  r : Nat
  f : Nat → C
/-- The nodes that are there, by their ids. -/
abbrev St := Int → Option Nd

/-- What holds of a store. -/
structure Good (S : St) : Prop where
  lo : ∀ id d, S id = some d → 0 ≤ id ∧ id ≤ 63
  rad : ∀ id d, S id = some d → 1 ≤ d.r ∧ d.r ≤ 4
  out : ∀ id d i, S id = some d → 2 ^ d.r ≤ i → d.f i = C.zero
  nul : ∀ id d i, S id = some d → (d.f i).k = 0 → d.f i = C.zero
  chk : ∀ id d i, S id = some d → M.chk (d.f i) = 0

theorem Good.none : Good (fun _ => none) := ⟨by simp, by simp, by simp, by simp, by simp⟩

/-! ### A node's block -/
/-- The fields of a capability, by their numbers. -/
def fld (c : C) (j : Nat) : Value := if j = 0 then .int .i64 c.k else if j = 1 then .int .i64 c.o else if j = 2 then .int .i64 c.r else if j = 3 then .int .u64 c.b else if j = 4 then .int .u64 c.g else .int .i64 c.n
def ndv (d : Nd) (k : Nat) : Value := if k = 0 then .int .i64 d.r else fld (d.f ((k - 1) / 6)) ((k - 1) % 6)

def NodeAt (w : World) (q : Nat) (d : Nd) : Prop := w.rowIs q 96 97 (ndv d)

theorem ndv_fld (d : Nd) (i j : Nat) (hj : j < 6) : ndv d (1 + i * 6 + j) = fld (d.f i) j := by
  unfold ndv
  rw [if_neg (by omega), show 1 + i * 6 + j - 1 = i * 6 + j by omega, show (i * 6 + j) / 6 = i by omega, show (i * 6 + j) % 6 = j by omega]

theorem NodeAt.rad {w : World} {q : Nat} {d : Nd} (h : NodeAt w q d) : w.cell? ⟨q, 0, none⟩ = some (.int .i64 d.r) := World.rowIs.cell h (by omega)
theorem NodeAt.cell {w : World} {q : Nat} {d : Nd} (h : NodeAt w q d) (i j : Nat) (hi : i < 16) (hj : j < 6) : w.cell? ⟨q, 1 + i * 6 + j, none⟩ = some (fld (d.f i) j) := by
  rw [World.rowIs.cell h (by omega), ndv_fld d i j hj]
theorem NodeAt.lt {w : World} {q : Nat} {d : Nd} (h : NodeAt w q d) : q < w.heap.size := World.rowIs.lt h
theorem NodeAt.fr {O : Nat → Prop} {w w' : World} {q : Nat} {d : Nd} (h : NodeAt w q d) (k : Fr O w w') (ho : ¬ O q) : NodeAt w' q d := World.rowIs.of_block h (k.block q h.lt ho)

/-- What lies in a slot, by its place in the block. -/
structure Cell6 (w : World) (q o : Nat) (c : C) : Prop where
  at0 : w.cell? ⟨q, o, none⟩ = some (.int .i64 c.k)
  at1 : w.cell? ⟨q, o + 1, none⟩ = some (.int .i64 c.o)
  at2 : w.cell? ⟨q, o + 2, none⟩ = some (.int .i64 c.r)
  at3 : w.cell? ⟨q, o + 3, none⟩ = some (.int .u64 c.b)
  at4 : w.cell? ⟨q, o + 4, none⟩ = some (.int .u64 c.g)
  at5 : w.cell? ⟨q, o + 5, none⟩ = some (.int .i64 c.n)
  fr : ∀ i, w.frozen? ⟨q, i, none⟩ = false
theorem NodeAt.six {w : World} {q : Nat} {d : Nd} (h : NodeAt w q d) (i : Nat) (hi : i < 16) : Cell6 w q (1 + i * 6) (d.f i) :=
  ⟨h.cell i 0 hi (by omega), h.cell i 1 hi (by omega), h.cell i 2 hi (by omega), h.cell i 3 hi (by omega), h.cell i 4 hi (by omega), h.cell i 5 hi (by omega), World.rowIs.frozen h⟩

theorem Cell6.kept {w w' : World} {q o : Nat} {c : C} (h : Cell6 w q o c) (g : w.grownBy w' none) : Cell6 w' q o c :=
  ⟨g.cell h.at0 (by simp), g.cell h.at1 (by simp), g.cell h.at2 (by simp), g.cell h.at3 (by simp), g.cell h.at4 (by simp), g.cell h.at5 (by simp), fun i => (gbFrozen g (World.block_lt_of_cell? w _ h.at0) (by simp)).trans (h.fr i)⟩
/-- Six cells are written. -/
def Put6 (w w' : World) (q a : Nat) (c : C) : Prop :=
  ((((((w.setCell ⟨q, a, none⟩ (.int .i64 c.k)).setCell ⟨q, a + 1, none⟩ (.int .i64 c.o)).setCell ⟨q, a + 2, none⟩ (.int .i64 c.r)).setCell ⟨q, a + 3, none⟩ (.int .u64 c.b)).setCell ⟨q, a + 4, none⟩ (.int .u64 c.g)).setCell ⟨q, a + 5, none⟩ (.int .i64 c.n)) = w'
theorem Put6.mk (w : World) (q a : Nat) (c : C) : ∃ W, Put6 w W q a c ∧ w.grownBy W (some q) :=
  ⟨_, rfl, gbTrans (gbTrans (gbTrans (gbTrans (gbTrans (gbSetCell _ _ _ _) (gbSetCell _ _ _ _)) (gbSetCell _ _ _ _)) (gbSetCell _ _ _ _)) (gbSetCell _ _ _ _)) (gbSetCell _ _ _ _)⟩
/-- A slot written over. -/
def Nd.set (d : Nd) (i : Nat) (c : C) : Nd := ⟨d.r, fun j => if j = i then c else d.f j⟩

theorem NodeAt.put {w W : World} {q : Nat} {d : Nd} (h : NodeAt w q d) (i : Nat) (c : C) (hi : i < 16) (hW : Put6 w W q (1 + i * 6) c) :
    NodeAt W q (d.set i c) ∧ w.grownBy W (some q) := by
  unfold Put6 at hW
  subst hW
  refine ⟨?_, ?_⟩
  · unfold NodeAt at *
    refine (((((((World.rowIs.set h (1 + i * 6) (.int .i64 c.k)).set (1 + i * 6 + 1) (.int .i64 c.o)).set (1 + i * 6 + 2) (.int .i64 c.r)).set (1 + i * 6 + 3) (.int .u64 c.b)).set (1 + i * 6 + 4) (.int .u64 c.g)).set (1 + i * 6 + 5) (.int .i64 c.n))).congr ?_
    intro k hk
    by_cases hs : 1 + i * 6 ≤ k ∧ k < 1 + i * 6 + 6
    · obtain ⟨j, hj, rfl⟩ : ∃ j, j < 6 ∧ k = 1 + i * 6 + j := ⟨k - (1 + i * 6), by omega, by omega⟩
      rw [ndv_fld (d.set i c) i j hj]
      have hf : (d.set i c).f i = c := by simp [Nd.set]
      rw [hf]
      have : j = 0 ∨ j = 1 ∨ j = 2 ∨ j = 3 ∨ j = 4 ∨ j = 5 := by omega
      rcases this with rfl | rfl | rfl | rfl | rfl | rfl <;> simp [fld]
    · rw [if_neg (by omega), if_neg (by omega), if_neg (by omega), if_neg (by omega), if_neg (by omega), if_neg (by omega)]
      unfold ndv Nd.set
      by_cases h0 : k = 0
      · rw [if_pos h0, if_pos h0]
      · rw [if_neg h0, if_neg h0]
        show fld (d.f ((k - 1) / 6)) ((k - 1) % 6) = fld (if (k - 1) / 6 = i then c else d.f ((k - 1) / 6)) ((k - 1) % 6)
        rw [if_neg (by omega)]
  · exact gbTrans (gbTrans (gbTrans (gbTrans (gbTrans (gbSetCell _ _ _ _) (gbSetCell _ _ _ _)) (gbSetCell _ _ _ _)) (gbSetCell _ _ _ _)) (gbSetCell _ _ _ _)) (gbSetCell _ _ _ _)

/-! ### The map of nodes -/
/-- How a pointer to a node reads. -/
def ptrElem (v : Value) : Option (DataW Unit × List MemPlace) :=
  match v with
  | .pointer none => some (.nil, [])
  | .pointer (some ⟨q, 0, none⟩) => some (.lit (.int .i64 q), [])
  | _ => none
def ptrD : Option Nat → DataW Unit
  | none => .nil
  | some q => .lit (.int .i64 q)
abbrev ptr : Option Nat → Value
  | none => .pointer none
  | some q => .pointer (some ⟨q, 0, none⟩)
theorem ptrElem_inv {v : Value} {k : Option Nat} {ps : List MemPlace} (h : ptrElem v = some (ptrD k, ps)) : v = ptr k := by
  unfold ptrElem at h
  split at h
  · cases k
    · rfl
    · simp [ptrD] at h
  · cases k
    · simp [ptrD] at h
    · simp only [ptrD, Option.some.injEq, Prod.mk.injEq, DataW.lit.injEq, Lit.int.injEq, true_and] at h
      have h1 := h.1
      simp only [Int.natCast_inj] at h1
      subst h1; rfl
  · cases h

theorem Tryz.keyInt : Keyed Tryz.prog 3 := int_keyed Tryz.underlying3
/-- A number that an int can be. -/
abbrev I64 (a : Int) : Prop := (Lit.int .i64 a).wf = true
theorem i64_of {a : Int} (h : -9223372036854775808 ≤ a) (k : a ≤ 9223372036854775807) : I64 a := WalkArith.wf_i64 ⟨h, k⟩

def KMap (w : World) (b n : Nat) (K : Int → Option Nat) : Prop := ∃ D : DataW Unit, w.ownsMap Tryz.prog 3 ptrElem b n D ∧ ∀ id, D.atKey (.int .i64 id) .nil = ptrD (K id)

theorem KMap.lt {w : World} {b n : Nat} {K : Int → Option Nat} (h : KMap w b n K) : b < w.heap.size := by obtain ⟨D, h, _⟩ := h; exact h.lt
theorem KMap.fr {O : Nat → Prop} {w w' : World} {b n : Nat} {K : Int → Option Nat} (h : KMap w b n K) (k : Fr O w w') (ho : ¬ O b) : KMap w' b n K := by
  have hlt := h.lt
  obtain ⟨D, ⟨es, clock, hb, F, hs, hD⟩, h2⟩ := h
  exact ⟨D, ⟨es, clock, (k.block b hlt ho).trans hb, F, hs, hD⟩, h2⟩
theorem KMap.mono {w : World} {b n m : Nat} {K : Int → Option Nat} (h : KMap w b n K) (hn : n ≤ m) : KMap w b m K := by obtain ⟨D, h, k⟩ := h; exact ⟨D, h.mono hn, k⟩
theorem KMap.made (w : World) : KMap (w.alloc (.map #[] 0)) w.heap.size 0 (fun _ => none) := ⟨.map [], World.ownsMap_made _ _ _ _, fun _ => rfl⟩

theorem zeroPtr (w : World) : (zeroValue 89).run Tryz.prog w = .ok (.pointer none) w := by kernel_rfl

theorem KMap.look {w : World} {b n : Nat} {K : Int → Option Nat} (h : KMap w b n K) (id : Int) (hid : I64 id) :
    (Instr.lookup 90 (.map (some b)) (.int .i64 id) false).run Tryz.prog w = .ok (ptr (K id)) w := by
  obtain ⟨D, h1, h2⟩ := h
  obtain ⟨v, ps, hr, hv⟩ := h1.lookup Tryz.keyInt Tryz.underlying90 (zeroPtr w) (zd := .nil) (zp := []) rfl (keyOf_int_mk Tryz.underlying3 hid)
  rw [h2] at hv
  rw [hr, ptrElem_inv hv]

theorem KMap.put {w : World} {b n : Nat} {K : Int → Option Nat} (h : KMap w b n K) (id : Int) (q : Nat) (hid : I64 id) (hn : n ≤ 1000) :
    ∃ w', (Instr.mapUpdate 90 (.map (some b)) (.int .i64 id) (.pointer (some ⟨q, 0, none⟩))).run Tryz.prog w = .ok () w' ∧ KMap w' b (n + 1) (fun j => if j = id then some q else K j) ∧ w.grownBy w' (some b) := by
  obtain ⟨D, h1, h2⟩ := h
  obtain ⟨w', hr, ho, hg⟩ := h1.update Tryz.keyInt Tryz.underlying90 (by unfold maxLen; omega) (d := .lit (.int .i64 q)) (ps := []) (val := .pointer (some ⟨q, 0, none⟩)) (keyOf_int_mk Tryz.underlying3 hid) rfl
  refine ⟨w', hr, ⟨_, ho, fun j => ?_⟩, hg⟩
  show _ = ptrD (if j = id then some q else K j)
  by_cases e : j = id
  · subst e
    rw [if_pos rfl, atKey_put_same h1.isMap (Tryz.keyInt.key (keyOf_int_mk Tryz.underlying3 hid))]; rfl
  · rw [if_neg e, atKey_put_other (by simpa using e), h2]

theorem KMap.del {w : World} {b n : Nat} {K : Int → Option Nat} (h : KMap w b n K) (id : Int) (hid : I64 id) (ty : TypeId) :
    ∃ w', (Builtin.delete_ #[90, 3] ty #[.map (some b), .int .i64 id]).run Tryz.prog w = .ok (.tuple #[]) w' ∧ KMap w' b n (fun j => if j = id then none else K j) ∧ w.grownBy w' (some b) := by
  obtain ⟨D, h1, h2⟩ := h
  obtain ⟨w', hr, ho, hg⟩ := h1.drop Tryz.keyInt Tryz.underlying90 (keyOf_int_mk Tryz.underlying3 hid) ty
  refine ⟨w', hr, ⟨_, ho, fun j => ?_⟩, hg.grown⟩
  show _ = ptrD (if j = id then none else K j)
  by_cases e : j = id
  · subst e
    rw [if_pos rfl, atKey_del_same]; rfl
  · rw [if_neg e, atKey_del_other (by simpa using e), h2]

/-! ### The store -/
structure SA (w : World) (p b n : Nat) (K : Int → Option Nat) (S : St) : Prop where
  box : w.heap[p]? = some (.cells #[.map (some b)] 92)
  map : KMap w b n K
  gone : ∀ id, K id = none → S id = none
  node : ∀ id q, K id = some q → ∃ d, S id = some d ∧ NodeAt w q d
  inj : ∀ id id' q, K id = some q → K id' = some q → id = id'

theorem SA.cell {w : World} {p b n : Nat} {K : Int → Option Nat} {S : St} (h : SA w p b n K S) : w.cell? ⟨p, 0, none⟩ = some (.map (some b)) := by simp [World.cell?, h.box]
theorem SA.plt {w : World} {p b n : Nat} {K : Int → Option Nat} {S : St} (h : SA w p b n K S) : p < w.heap.size := (Array.getElem?_eq_some_iff.1 h.box).1
theorem SA.pb {w : World} {p b n : Nat} {K : Int → Option Nat} {S : St} (h : SA w p b n K S) : p ≠ b := by
  rintro rfl
  obtain ⟨D, ⟨es, clock, hb, _⟩, _⟩ := h.map
  rw [h.box] at hb; cases hb
theorem SA.qb {w : World} {p b n : Nat} {K : Int → Option Nat} {S : St} (h : SA w p b n K S) {id : Int} {q : Nat} (hq : K id = some q) : q ≠ b := by
  rintro rfl
  obtain ⟨D, ⟨es, clock, hb, _⟩, _⟩ := h.map
  obtain ⟨d, _, ⟨c, hc, _⟩⟩ := h.node id _ hq
  rw [hc] at hb; cases hb
theorem SA.qp {w : World} {p b n : Nat} {K : Int → Option Nat} {S : St} (h : SA w p b n K S) {id : Int} {q : Nat} (hq : K id = some q) : q ≠ p := by
  rintro rfl
  obtain ⟨d, _, ⟨c, hc, hs, _⟩⟩ := h.node id _ hq
  rw [h.box] at hc
  cases hc
theorem SA.fr {O : Nat → Prop} {w w' : World} {p b n : Nat} {K : Int → Option Nat} {S : St} (h : SA w p b n K S) (k : Fr O w w') (op : ¬ O p) (ob : ¬ O b) (oq : ∀ id q, K id = some q → ¬ O q) : SA w' p b n K S :=
  ⟨(k.block p h.plt op).trans h.box, h.map.fr k ob, h.gone, fun id q hq => by obtain ⟨d, h1, h2⟩ := h.node id q hq; exact ⟨d, h1, h2.fr k (oq id q hq)⟩, h.inj⟩

/-- A store whose blocks are among O. -/
def SAt (w : World) (p n : Nat) (O : Nat → Prop) (S : St) : Prop := ∃ b K, SA w p b n K S ∧ O p ∧ O b ∧ ∀ id q, K id = some q → O q
theorem SAt.fr {O O' : Nat → Prop} {w w' : World} {p n : Nat} {S : St} (h : SAt w p n O S) (k : Fr O' w w') (ho : ∀ i, O i → ¬ O' i) : SAt w' p n O S := by
  obtain ⟨b, K, h1, h2, h3, h4⟩ := h
  exact ⟨b, K, h1.fr k (ho _ h2) (ho _ h3) (fun id q hq => ho _ (h4 id q hq)), h2, h3, h4⟩
theorem SAt.kept {O : Nat → Prop} {w w' : World} {p n : Nat} {S : St} (h : SAt w p n O S) (k : w.grownBy w' none) : SAt w' p n O S := h.fr (O' := fun _ => False) (Fr.grown k) (fun _ _ e => e)
theorem SAt.mono {O O' : Nat → Prop} {w : World} {p n m : Nat} {S : St} (h : SAt w p n O S) (ho : ∀ i, O i → O' i) (hn : n ≤ m) : SAt w p m O' S := by
  obtain ⟨b, K, h1, h2, h3, h4⟩ := h
  exact ⟨b, K, ⟨h1.box, h1.map.mono hn, h1.gone, h1.node, h1.inj⟩, ho _ h2, ho _ h3, fun id q hq => ho _ (h4 id q hq)⟩

end Go.Proofs.YtdnoidnpiaadaaaGreat

/-
  THE CONTRACTS of package slots: New, isEmpty, find, Radix.
-/
namespace Go.Proofs.YtdnoidnpiaadaaaGreat
set_option maxRecDepth 10000
open Go.RowKit
set_option linter.unusedVariables false

set_option maxHeartbeats 400000 in
theorem empty_is (k o r b g n : Int) (v : Bool) (h : (k == 0) = v) (w : World) : Calls Tryz.prog 98 #[cv ⟨k, o, r, b, g, n⟩] w fun e w' => e = .returned (.bool v) ∧ w.grownBy w' none := by
  go_enter Tryz.func98, Tryz.ntmps98
  go_wp2
  go_ret
  exact ⟨rfl, gbAlloc _ _ _⟩

set_option maxHeartbeats 400000 in
theorem new_is (w : World) : Calls Tryz.prog 27 #[] w fun e w' => ∃ p, e = .returned (.pointer (some ⟨p, 0, none⟩)) ∧ SAt w' p 0 (fun i => w.heap.size ≤ i ∧ i < w'.heap.size) (fun _ => none) ∧ w.grownBy w' none := by
  have hmm := @run_makeMap Tryz.prog
  go_enter Tryz.func27, Tryz.ntmps27
  go_wp2
  go_ret
  refine ⟨w.heap.size + 1, rfl, ⟨w.heap.size, fun _ => none, ⟨?_, ?_, fun _ _ => rfl, fun _ _ h => (nomatch h), fun _ _ _ h _ => (nomatch h)⟩, ⟨by omega, by simp⟩, ⟨by omega, by simp; omega⟩, fun _ _ h => (nomatch h)⟩, ?_⟩
  · have e := Deep.blk_alloc_new (w.alloc (.map #[] 0)) (.cells #[.map (some w.heap.size)] 92)
    rw [Deep.nblk_alloc] at e; exact e
  · exact (KMap.made w).fr (O := fun _ => False) (Fr.grown (gbAlloc _ _ _)) (fun e => e)
  · exact gbTrans (gbAlloc _ _ _) (gbAlloc _ _ _)

set_option maxHeartbeats 400000 in
theorem radix_no (w : World) (p b : Nat) (id : Int) (hc : w.cell? ⟨p, 0, none⟩ = some (.map (some b)))
    (hl : (Instr.lookup 90 (.map (some b)) (.int .i64 id) false).run Tryz.prog w = .ok (.pointer none) w) :
    Calls Tryz.prog 9 #[.pointer (some ⟨p, 0, none⟩), .int .i64 id] w fun e w' => e = .returned (.int .i64 0) ∧ w' = w := by
  go_enter Tryz.func9, Tryz.ntmps9
  go_wp2
  go_ret
  exact ⟨rfl, rfl⟩

set_option maxHeartbeats 400000 in
theorem radix_yes (w : World) (p b q r : Nat) (id : Int) (hc : w.cell? ⟨p, 0, none⟩ = some (.map (some b)))
    (hl : (Instr.lookup 90 (.map (some b)) (.int .i64 id) false).run Tryz.prog w = .ok (.pointer (some ⟨q, 0, none⟩)) w) (hr : w.cell? ⟨q, 0, none⟩ = some (.int .i64 r)) :
    Calls Tryz.prog 9 #[.pointer (some ⟨p, 0, none⟩), .int .i64 id] w fun e w' => e = .returned (.int .i64 r) ∧ w' = w := by
  go_enter Tryz.func9, Tryz.ntmps9
  go_wp2
  go_ret
  exact ⟨rfl, rfl⟩

/-- What the region reads, in every world that it grows into. -/
structure Reads (W : World) (p b x : Nat) (n i : Int) (v : Value) : Prop where
  c0 : ∀ y : Gr W, y.w.cell? ⟨p, 0, none⟩ = some (.map (some b))
  x0 : ∀ y : Gr W, y.w.cell? ⟨x, 0, none⟩ = some (.int .i64 n)
  x1 : ∀ y : Gr W, y.w.cell? ⟨x, 1, none⟩ = some (.int .i64 i)
  hl : ∀ y : Gr W, (Instr.lookup 90 (.map (some b)) (.int .i64 n) false).run Tryz.prog y.w = .ok v y.w
theorem Reads.mk' {w W : World} {p b m x : Nat} {K : Int → Option Nat} {S : St} {n i : Int} (h : SA w p b m K S) (hn : I64 n) (g0 : w.grownBy W none) (X : SBox W x n i) : Reads W p b x n i (ptr (K n)) :=
  ⟨fun y => y.g.cell (g0.cell h.cell (by simp)) (by simp), fun y => (X.kept y.g).at0, fun y => (X.kept y.g).at1, fun y => (h.map.fr (O := fun _ => False) (Fr.grown (gbTrans g0 y.g)) (fun e => e)).look n hn⟩

set_option maxHeartbeats 400000 in
theorem find_none (w : World) (p b : Nat) (n i : Int) (H : ∀ W, w.grownBy W none → SBox W w.heap.size n i → Reads W p b w.heap.size n i (.pointer none)) :
    Calls Tryz.prog 58 #[.pointer (some ⟨p, 0, none⟩), sv n i] w fun e w' => e = .returned (.pointer none) ∧ w.grownBy w' none := by
  go_enter Tryz.func58, Tryz.ntmps58
  go_upto_region 1 with fail
  obtain ⟨W, hW, X, g0⟩ := sboxNew w n i
  rw [hW]
  clear hW
  obtain ⟨c0, x0, x1, hl⟩ := H W g0 X
  refine wp_region_grown (by kernel_rfl) (by kernel_rfl) fun _ => ?_
  repeat (go_big_quiet_step (fail))
  refine wpQuiet_nil ?_
  rintro w1 ⟨⟨_, g1⟩, rfl⟩
  clear c0 x0 x1 hl
  obtain ⟨c0, x0, x1, hl⟩ := H w1 (gbTrans g0 g1) (X.kept g1)
  go_wp2
  refine wp_region_grown (by kernel_rfl) (by kernel_rfl) fun _ => ?_
  repeat (go_big_quiet_step (fail))
  refine wpQuiet_nil ?_
  rintro w2 ⟨⟨_, g2⟩, rfl⟩
  go_wp2
  go_ret
  exact ⟨rfl, gbTrans g0 (gbTrans g1 g2)⟩

set_option maxHeartbeats 400000 in
theorem find_out (w : World) (p b q r m : Nat) (n i : Int) (H : ∀ W, w.grownBy W none → SBox W w.heap.size n i → Reads W p b w.heap.size n i (.pointer (some ⟨q, 0, none⟩)))
    (hr : w.cell? ⟨q, 0, none⟩ = some (.int .i64 r)) (hm : wrap64 (2 ^ min r 64) = (m : Int)) (hi : i < 0 ∨ (m : Int) ≤ i) :
    Calls Tryz.prog 58 #[.pointer (some ⟨p, 0, none⟩), sv n i] w fun e w' => e = .returned (.pointer none) ∧ w.grownBy w' none := by
  have go : ∀ (dn : Bool) (dm : decide (i < 0) = dn) (dk : dn = false → decide ((m : Int) ≤ i) = true), Calls Tryz.prog 58 #[.pointer (some ⟨p, 0, none⟩), sv n i] w fun e w' => e = .returned (.pointer none) ∧ w.grownBy w' none := by
    intro dn dm dk
    cases dn
    · have dk := dk rfl
      have dk' : decide (i < (m : Int)) = false := by simp at dk ⊢; exact dk
      go_enter Tryz.func58, Tryz.ntmps58
      go_upto_region 1 with fail
      obtain ⟨W, hW, X, g0⟩ := sboxNew w n i
      rw [hW]
      clear hW
      obtain ⟨c0, x0, x1, hl⟩ := H W g0 X
      refine wp_region_grown (by kernel_rfl) (by kernel_rfl) fun _ => ?_
      repeat (go_big_quiet_step (fail))
      refine wpQuiet_nil ?_
      rintro w1 ⟨⟨_, g1⟩, rfl⟩
      clear c0 x0 x1 hl
      obtain ⟨c0, x0, x1, hl⟩ := H w1 (gbTrans g0 g1) (X.kept g1)
      have r0 : ∀ y : Gr w1, y.w.cell? ⟨q, 0, none⟩ = some (.int .i64 r) := fun y => y.g.cell (g1.cell (g0.cell hr (by simp)) (by simp)) (by simp)
      go_wp2
      refine wp_region_grown (by kernel_rfl) (by kernel_rfl) fun _ => ?_
      repeat (go_big_quiet_step (fail))
      refine wpQuiet_nil ?_
      rintro w2 ⟨⟨_, g2⟩, rfl⟩
      go_wp2
      go_ret
      exact ⟨rfl, gbTrans g0 (gbTrans g1 g2)⟩
    · clear dk
      go_enter Tryz.func58, Tryz.ntmps58
      go_upto_region 1 with fail
      obtain ⟨W, hW, X, g0⟩ := sboxNew w n i
      rw [hW]
      clear hW
      obtain ⟨c0, x0, x1, hl⟩ := H W g0 X
      refine wp_region_grown (by kernel_rfl) (by kernel_rfl) fun _ => ?_
      repeat (go_big_quiet_step (fail))
      refine wpQuiet_nil ?_
      rintro w1 ⟨⟨_, g1⟩, rfl⟩
      clear c0 x0 x1 hl
      obtain ⟨c0, x0, x1, hl⟩ := H w1 (gbTrans g0 g1) (X.kept g1)
      have r0 : ∀ y : Gr w1, y.w.cell? ⟨q, 0, none⟩ = some (.int .i64 r) := fun y => y.g.cell (g1.cell (g0.cell hr (by simp)) (by simp)) (by simp)
      go_wp2
      refine wp_region_grown (by kernel_rfl) (by kernel_rfl) fun _ => ?_
      repeat (go_big_quiet_step (fail))
      refine wpQuiet_nil ?_
      rintro w2 ⟨⟨_, g2⟩, rfl⟩
      go_wp2
      go_ret
      exact ⟨rfl, gbTrans g0 (gbTrans g1 g2)⟩
  exact go _ rfl (fun e => by simp at e ⊢; omega)

set_option maxHeartbeats 400000 in
theorem find_yes (w : World) (p b q r m : Nat) (n : Int) (i : Nat) (H : ∀ W, w.grownBy W none → SBox W w.heap.size n i → Reads W p b w.heap.size n i (.pointer (some ⟨q, 0, none⟩)))
    (hr : w.cell? ⟨q, 0, none⟩ = some (.int .i64 r)) (hm : wrap64 (2 ^ min r 64) = (m : Int)) (hi : i < m) (hm2 : m ≤ 16) :
    Calls Tryz.prog 58 #[.pointer (some ⟨p, 0, none⟩), sv n i] w fun e w' => e = .returned (.pointer (some ⟨q, 1 + i * 6, none⟩)) ∧ w.grownBy w' none := by
  have d0 : decide ((i : Int) < 0) = false := by simp
  have d1 : decide ((m : Int) ≤ (i : Int)) = false := by simp; omega
  have d2 : decide ((i : Int) < (m : Int)) = true := by simp; omega
  have h16 : (i : Int) < 16 := by omega
  go_enter Tryz.func58, Tryz.ntmps58
  go_upto_region 1 with fail
  obtain ⟨W, hW, X, g0⟩ := sboxNew w n i
  rw [hW]
  clear hW
  obtain ⟨c0, x0, x1, hl⟩ := H W g0 X
  refine wp_region_grown (by kernel_rfl) (by kernel_rfl) fun _ => ?_
  repeat (go_big_quiet_step (fail))
  refine wpQuiet_nil ?_
  rintro w1 ⟨⟨_, g1⟩, rfl⟩
  clear c0 x0 x1 hl
  obtain ⟨c0, x0, x1, hl⟩ := H w1 (gbTrans g0 g1) (X.kept g1)
  have r0 : ∀ y : Gr w1, y.w.cell? ⟨q, 0, none⟩ = some (.int .i64 r) := fun y => y.g.cell (g1.cell (g0.cell hr (by simp)) (by simp)) (by simp)
  go_wp2
  refine wp_region_grown (by kernel_rfl) (by kernel_rfl) fun _ => ?_
  repeat (go_big_quiet_step (fail))
  refine wpQuiet_nil ?_
  rintro w2 ⟨⟨_, g2⟩, rfl⟩
  clear c0 x0 x1 hl r0
  obtain ⟨c0, x0, x1, hl⟩ := H w2 (gbTrans g0 (gbTrans g1 g2)) ((X.kept g1).kept g2)
  go_wp2
  refine wp_region_grown (by kernel_rfl) (by kernel_rfl) fun _ => ?_
  repeat (go_big_quiet_step (fail))
  refine wpQuiet_nil ?_
  rintro w3 ⟨⟨_, g3⟩, rfl⟩
  go_wp2
  go_ret
  exact ⟨rfl, gbTrans g0 (gbTrans g1 (gbTrans g2 g3))⟩

/-! ### In the chapter's words -/
/-- Whether there is such a slot. -/
def M.there (S : St) (n i : Int) : Bool := match S n with
  | none => false
  | some d => decide (0 ≤ i) && decide (i < ((2 ^ d.r : Nat) : Int))
theorem M.there_yes {S : St} {n i : Int} (h : M.there S n i = true) : ∃ d, ∃ j : Nat, S n = some d ∧ i = (j : Int) ∧ j < 2 ^ d.r := by
  unfold M.there at h
  cases hs : S n with
  | none => rw [hs] at h; cases h
  | some d =>
    rw [hs] at h
    simp only [Bool.and_eq_true, decide_eq_true_eq] at h
    exact ⟨d, i.toNat, rfl, by omega, by have := h.2; omega⟩
theorem M.there_at {S : St} {n : Int} {d : Nd} {j : Nat} (hs : S n = some d) (hj : j < 2 ^ d.r) : M.there S n j = true := by
  unfold M.there
  rw [hs]
  simp only [Bool.and_eq_true, decide_eq_true_eq]
  omega
theorem M.radW (r : Nat) (h1 : 1 ≤ r) (h4 : r ≤ 4) : wrap64 (2 ^ min r 64) = ((2 ^ r : Nat) : Int) ∧ 2 ^ r ≤ 16 ∧ 2 ≤ 2 ^ r := by
  have : r = 1 ∨ r = 2 ∨ r = 3 ∨ r = 4 := by omega
  rcases this with rfl | rfl | rfl | rfl <;> exact ⟨by decide +kernel, by decide, by decide⟩

theorem SA.has {w : World} {p b m : Nat} {K : Int → Option Nat} {S : St} (h : SA w p b m K S) {n : Int} {d : Nd} (hs : S n = some d) : ∃ q, K n = some q ∧ NodeAt w q d := by
  cases hk : K n with
  | none => rw [h.gone n hk] at hs; cases hs
  | some q =>
    obtain ⟨d', h1, h2⟩ := h.node n q hk
    rw [h1] at hs; cases hs
    exact ⟨q, rfl, h2⟩
theorem SA.kept {w w' : World} {p b m : Nat} {K : Int → Option Nat} {S : St} (h : SA w p b m K S) (g : w.grownBy w' none) : SA w' p b m K S :=
  h.fr (O := fun _ => False) (Fr.grown g) (fun e => e) (fun e => e) (fun _ _ _ e => e)

theorem find_no {w : World} {p b m : Nat} {K : Int → Option Nat} {S : St} (h : SA w p b m K S) (G : Good S) {n i : Int} (hn : I64 n) (ht : M.there S n i = false) :
    Calls Tryz.prog 58 #[.pointer (some ⟨p, 0, none⟩), sv n i] w fun e w' => e = .returned (.pointer none) ∧ w.grownBy w' none := by
  have H := fun W (g : w.grownBy W none) (X : SBox W w.heap.size n i) => Reads.mk' h hn g X
  cases hk : K n with
  | none => rw [hk] at H; exact find_none w p b n i H
  | some q =>
    rw [hk] at H
    obtain ⟨d, hd, N⟩ := h.node n q hk
    obtain ⟨hm, _, _⟩ := M.radW d.r (G.rad n d hd).1 (G.rad n d hd).2
    refine find_out w p b q d.r (2 ^ d.r) n i H N.rad hm ?_
    unfold M.there at ht
    rw [hd] at ht
    simp only [Bool.and_eq_false_iff, decide_eq_false_iff_not] at ht
    omega
theorem find_at {w : World} {p b m : Nat} {K : Int → Option Nat} {S : St} (h : SA w p b m K S) (G : Good S) {n : Int} {j q : Nat} {d : Nd} (hn : I64 n) (hs : S n = some d) (hk : K n = some q) (hj : j < 2 ^ d.r) :
    Calls Tryz.prog 58 #[.pointer (some ⟨p, 0, none⟩), sv n j] w fun e w' => e = .returned (.pointer (some ⟨q, 1 + j * 6, none⟩)) ∧ w.grownBy w' none := by
  have H := fun W (g : w.grownBy W none) (X : SBox W w.heap.size n j) => Reads.mk' h hn g X
  rw [hk] at H
  obtain ⟨d', hd, N⟩ := h.node n q hk
  rw [hs] at hd; cases hd
  obtain ⟨hm, h16, _⟩ := M.radW d.r (G.rad n d hs).1 (G.rad n d hs).2
  exact find_yes w p b q d.r (2 ^ d.r) n j H N.rad hm hj h16

def M.rad (S : St) (id : Int) : Int := match S id with
  | none => 0
  | some d => d.r
theorem radix_is {w : World} {p m : Nat} {O : Nat → Prop} {S : St} (h : SAt w p m O S) (id r : Int) (hid : I64 id) (hr : M.rad S id = r) :
    Calls Tryz.prog 9 #[.pointer (some ⟨p, 0, none⟩), .int .i64 id] w fun e w' => e = .returned (.int .i64 r) ∧ w.grownBy w' none := by
  subst hr
  obtain ⟨b, K, h, _, _, _⟩ := h
  have hl := h.map.look id hid
  cases hk : K id with
  | none =>
    rw [hk] at hl
    unfold M.rad
    rw [h.gone id hk]
    exact (radix_no w p b id h.cell hl).mono fun e w' k => ⟨k.1, by rw [k.2]; exact gbRefl _ _⟩
  | some q =>
    rw [hk] at hl
    obtain ⟨d, hd, N⟩ := h.node id q hk
    unfold M.rad
    rw [hd]
    exact (radix_yes w p b q d.r id h.cell hl N.rad).mono fun e w' k => ⟨k.1, by rw [k.2]; exact gbRefl _ _⟩
end Go.Proofs.YtdnoidnpiaadaaaGreat

/-
  THE CONTRACTS of package slots: Get, Put, Take.
-/
namespace Go.Proofs.YtdnoidnpiaadaaaGreat
set_option maxRecDepth 10000
open Go.RowKit
set_option linter.unusedVariables false

/-- Both parameters, laid. -/
theorem twoNew (w : World) (n i : Int) (c : C) : ∃ W, (w.alloc (.cells #[.int .i64 n, .int .i64 i] 31)).alloc (.cells #[.int .i64 c.k, .int .i64 c.o, .int .i64 c.r, .int .u64 c.b, .int .u64 c.g, .int .i64 c.n] 25) = W ∧
    SBox W w.heap.size n i ∧ Box W (w.heap.size + 1) c ∧ w.grownBy W none :=
  ⟨_, rfl, (SBox.made w n i).kept (gbAlloc _ _ _), by simpa using Box.made (w.alloc (.cells #[.int .i64 n, .int .i64 i] 31)) c, gbTrans (gbAlloc _ _ _) (gbAlloc _ _ _)⟩

abbrev gFind (w : World) (p : Nat) (n i : Int) (v : Value) : Prop := ∀ W, w.grownBy W none → Calls Tryz.prog 58 #[.pointer (some ⟨p, 0, none⟩), sv n i] W fun e w' => e = .returned v ∧ W.grownBy w' none

set_option maxHeartbeats 400000 in
theorem put_no (w : World) (p : Nat) (n i k o r b g t : Int) (HF : gFind w p n i (.pointer none)) :
    Calls Tryz.prog 76 #[.pointer (some ⟨p, 0, none⟩), sv n i, cv ⟨k, o, r, b, g, t⟩] w fun e w' => e = .returned (.int .i64 6) ∧ w.grownBy w' none := by
  go_enter Tryz.func76, Tryz.ntmps76
  go_upto_region 1 with fail
  obtain ⟨W, hW, X, Y, g0⟩ := twoNew w n i ⟨k, o, r, b, g, t⟩
  simp only at hW
  rw [hW]
  clear hW
  have x0 := X.at0
  have x1 := X.at1
  go_wp2_with fail
  refine (HF _ g0).mono ?_
  rintro _ w1 ⟨rfl, g1⟩
  go_wp2
  go_ret
  exact ⟨rfl, gbTrans g0 g1⟩

set_option maxHeartbeats 400000 in
theorem put_chk (w : World) (p q a : Nat) (n i k o r b g t v : Int) (HF : gFind w p n i (.pointer (some ⟨q, a, none⟩))) (hv : (v != 0) = true)
    (HC : ∀ w, Calls Tryz.prog 89 #[cv ⟨k, o, r, b, g, t⟩] w fun e w' => e = .returned (.int .i64 v) ∧ w.grownBy w' none) :
    Calls Tryz.prog 76 #[.pointer (some ⟨p, 0, none⟩), sv n i, cv ⟨k, o, r, b, g, t⟩] w fun e w' => e = .returned (.int .i64 v) ∧ w.grownBy w' none := by
  go_enter Tryz.func76, Tryz.ntmps76
  go_upto_region 1 with fail
  obtain ⟨W, hW, X, Y, g0⟩ := twoNew w n i ⟨k, o, r, b, g, t⟩
  simp only at hW
  rw [hW]
  clear hW
  have x0 := X.at0
  have x1 := X.at1
  go_wp2_with fail
  refine (HF _ g0).mono ?_
  rintro _ w1 ⟨rfl, g1⟩
  obtain ⟨y0, y1, y2, y3, y4, y5, _, _⟩ := Y.kept g1
  clear x0 x1
  go_wp2_with fail
  refine (HC _).mono ?_
  rintro _ w2 ⟨rfl, g2⟩
  go_wp2
  go_ret
  exact ⟨rfl, gbTrans g0 (gbTrans g1 g2)⟩

set_option maxHeartbeats 400000 in
theorem put_null (w : World) (p q a : Nat) (n i k o r b g t : Int) (HF : gFind w p n i (.pointer (some ⟨q, a, none⟩))) (hk : (k == 0) = true)
    (HC : ∀ w, Calls Tryz.prog 89 #[cv ⟨k, o, r, b, g, t⟩] w fun e w' => e = .returned (.int .i64 0) ∧ w.grownBy w' none) :
    Calls Tryz.prog 76 #[.pointer (some ⟨p, 0, none⟩), sv n i, cv ⟨k, o, r, b, g, t⟩] w fun e w' => e = .returned (.int .i64 3) ∧ w.grownBy w' none := by
  have HE := fun w => empty_is k o r b g t true hk w
  clear hk
  go_enter Tryz.func76, Tryz.ntmps76
  go_upto_region 1 with fail
  obtain ⟨W, hW, X, Y, g0⟩ := twoNew w n i ⟨k, o, r, b, g, t⟩
  simp only at hW
  rw [hW]
  clear hW
  have x0 := X.at0
  have x1 := X.at1
  go_wp2_with fail
  refine (HF _ g0).mono ?_
  rintro _ w1 ⟨rfl, g1⟩
  obtain ⟨y0, y1, y2, y3, y4, y5, _, _⟩ := Y.kept g1
  clear x0 x1
  go_wp2_with fail
  refine (HC _).mono ?_
  rintro _ w2 ⟨rfl, g2⟩
  clear y0 y1 y2 y3 y4 y5
  obtain ⟨y0, y1, y2, y3, y4, y5, _, _⟩ := Y.kept (gbTrans g1 g2)
  go_wp2_with fail
  refine (HE _).mono ?_
  rintro _ w3 ⟨rfl, g3⟩
  go_wp2
  go_ret
  exact ⟨rfl, gbTrans g0 (gbTrans g1 (gbTrans g2 g3))⟩

set_option maxHeartbeats 400000 in
theorem put_twice (w : World) (p q a : Nat) (n i k o r b g t k' o' r' b' g' t' : Int) (HF : gFind w p n i (.pointer (some ⟨q, a, none⟩))) (hk : (k == 0) = false) (hk' : (k' == 0) = false) (Z : Cell6 w q a ⟨k', o', r', b', g', t'⟩)
    (HC : ∀ w, Calls Tryz.prog 89 #[cv ⟨k, o, r, b, g, t⟩] w fun e w' => e = .returned (.int .i64 0) ∧ w.grownBy w' none) :
    Calls Tryz.prog 76 #[.pointer (some ⟨p, 0, none⟩), sv n i, cv ⟨k, o, r, b, g, t⟩] w fun e w' => e = .returned (.int .i64 4) ∧ w.grownBy w' none := by
  have HE := fun w => empty_is k o r b g t false hk w
  have HE' := fun w => empty_is k' o' r' b' g' t' false hk' w
  clear hk hk'
  go_enter Tryz.func76, Tryz.ntmps76
  go_upto_region 1 with fail
  obtain ⟨W, hW, X, Y, g0⟩ := twoNew w n i ⟨k, o, r, b, g, t⟩
  simp only at hW
  rw [hW]
  clear hW
  have x0 := X.at0
  have x1 := X.at1
  go_wp2_with fail
  refine (HF _ g0).mono ?_
  rintro _ w1 ⟨rfl, g1⟩
  obtain ⟨y0, y1, y2, y3, y4, y5, _, _⟩ := Y.kept g1
  clear x0 x1
  go_wp2_with fail
  refine (HC _).mono ?_
  rintro _ w2 ⟨rfl, g2⟩
  clear y0 y1 y2 y3 y4 y5
  obtain ⟨y0, y1, y2, y3, y4, y5, _, _⟩ := Y.kept (gbTrans g1 g2)
  go_wp2_with fail
  refine (HE _).mono ?_
  rintro _ w3 ⟨rfl, g3⟩
  clear y0 y1 y2 y3 y4 y5
  have G3 := gbTrans g0 (gbTrans g1 (gbTrans g2 g3))
  obtain ⟨y0, y1, y2, y3, y4, y5, _⟩ := Z.kept G3
  go_wp2_with fail
  refine (HE' _).mono ?_
  rintro _ w4 ⟨rfl, g4⟩
  go_wp2
  go_ret
  exact ⟨rfl, gbTrans G3 g4⟩

set_option maxHeartbeats 1000000 in
theorem put_yes (w : World) (p q a : Nat) (n i k o r b g t k' o' r' b' g' t' : Int) (HF : gFind w p n i (.pointer (some ⟨q, a, none⟩))) (hk : (k == 0) = false) (hk' : (k' == 0) = true) (Z : Cell6 w q a ⟨k', o', r', b', g', t'⟩)
    (HC : ∀ w, Calls Tryz.prog 89 #[cv ⟨k, o, r, b, g, t⟩] w fun e w' => e = .returned (.int .i64 0) ∧ w.grownBy w' none) :
    Calls Tryz.prog 76 #[.pointer (some ⟨p, 0, none⟩), sv n i, cv ⟨k, o, r, b, g, t⟩] w fun e w' => e = .returned (.int .i64 0) ∧ ∃ W, w.grownBy W none ∧ Put6 W w' q a ⟨k, o, r, b, g, t⟩ := by
  have HE := fun w => empty_is k o r b g t false hk w
  have HE' := fun w => empty_is k' o' r' b' g' t' true hk' w
  clear hk hk'
  go_enter Tryz.func76, Tryz.ntmps76
  go_upto_region 1 with fail
  obtain ⟨W, hW, X, Y, g0⟩ := twoNew w n i ⟨k, o, r, b, g, t⟩
  simp only at hW
  rw [hW]
  clear hW
  have x0 := X.at0
  have x1 := X.at1
  go_wp2_with fail
  refine (HF _ g0).mono ?_
  rintro _ w1 ⟨rfl, g1⟩
  obtain ⟨y0, y1, y2, y3, y4, y5, _, _⟩ := Y.kept g1
  clear x0 x1
  go_wp2_with fail
  refine (HC _).mono ?_
  rintro _ w2 ⟨rfl, g2⟩
  clear y0 y1 y2 y3 y4 y5
  obtain ⟨y0, y1, y2, y3, y4, y5, _, _⟩ := Y.kept (gbTrans g1 g2)
  go_wp2_with fail
  refine (HE _).mono ?_
  rintro _ w3 ⟨rfl, g3⟩
  clear y0 y1 y2 y3 y4 y5
  have G3 := gbTrans g0 (gbTrans g1 (gbTrans g2 g3))
  obtain ⟨y0, y1, y2, y3, y4, y5, _⟩ := Z.kept G3
  go_wp2_with fail
  refine (HE' _).mono ?_
  rintro _ w4 ⟨rfl, g4⟩
  clear y0 y1 y2 y3 y4 y5
  have G4 := gbTrans G3 g4
  obtain ⟨y0, y1, y2, y3, y4, y5, _, _⟩ := Y.kept (gbTrans g1 (gbTrans g2 (gbTrans g3 g4)))
  obtain ⟨z0, z1, z2, z3, z4, z5, zf⟩ := Z.kept G4
  have f0 := zf a
  have f1 := zf (a + 1)
  have f2 := zf (a + 2)
  have f3 := zf (a + 3)
  have f4 := zf (a + 4)
  have f5 := zf (a + 5)
  clear zf
  go_upto_region 12 with fail
  go_wp2
  go_ret
  exact ⟨rfl, w4, G4, rfl⟩

end Go.Proofs.YtdnoidnpiaadaaaGreat
