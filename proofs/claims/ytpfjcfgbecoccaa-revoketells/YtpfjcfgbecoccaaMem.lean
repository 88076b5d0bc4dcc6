/-
  NODES OF SLOTS IN MEMORY: the plain store (what is in which slot), a node's block, the map of nodes, frames by the blocks that a store owns. Speaks of no function of the program.
-/
import Derived.Test.YtpfjcfgbecoccaaG1
import Derived.Maps.OwnSet
import Derived.Maps.OwnOps
import Derived.Deep.MidRow
import Derived.Deep.Cut
import Derived.ChangeKeysEq
namespace Go.Proofs.Ytpfjcfgbecoccaa
set_option maxRecDepth 10000
open Go.RowKit Go.Maps
set_option linter.unusedVariables false

/-! ### Frames -/
/-- Nothing but blocks of O has turned; new blocks may be there. -/
structure Fr (O : Nat → Prop) (w w' : World) : Prop where
  os : w'.os = w.os
  tape : w'.tape = w.tape
  output : w'.output = w.output
  size : w.heap.size ≤ w'.heap.size
  block : ∀ k, k < w.heap.size → ¬ O k → w'.heap[k]? = w.heap[k]?

theorem Fr.refl (O : Nat → Prop) (w : World) : Fr O w w := ⟨rfl, rfl, rfl, Nat.le_refl _, fun _ _ _ => rfl⟩
theorem Fr.trans {O : Nat → Prop} {a b c : World} (h : Fr O a b) (k : Fr O b c) : Fr O a c :=
  ⟨k.os.trans h.os, k.tape.trans h.tape, k.output.trans h.output, Nat.le_trans h.size k.size, fun i hi ho => (k.block i (Nat.lt_of_lt_of_le hi h.size) ho).trans (h.block i hi ho)⟩
/-- The second one may have blocks that were not there for the first one. -/
theorem Fr.join {O O' : Nat → Prop} {a b c : World} (h : Fr O a b) (k : Fr O' b c) (ho : ∀ i, i < a.heap.size → O' i → O i) : Fr O a c :=
  ⟨k.os.trans h.os, k.tape.trans h.tape, k.output.trans h.output, Nat.le_trans h.size k.size, fun i hi hO => (k.block i (Nat.lt_of_lt_of_le hi h.size) (fun e => hO (ho i hi e))).trans (h.block i hi hO)⟩
theorem Fr.grown {O : Nat → Prop} {w w' : World} (h : w.grownBy w' none) : Fr O w w' := ⟨h.os, h.tape, h.output, h.size, fun i hi _ => h.block i hi (by simp)⟩
theorem Fr.at {O : Nat → Prop} {w w' : World} {r : Nat} (h : w.grownBy w' (some r)) (hr : O r) : Fr O w w' :=
  ⟨h.os, h.tape, h.output, h.size, fun i hi ho => h.block i hi (fun e => ho (by cases e; exact hr))⟩
theorem Fr.mono {O O' : Nat → Prop} {w w' : World} (h : Fr O w w') (ho : ∀ i, i < w.heap.size → O i → O' i) : Fr O' w w' := ⟨h.os, h.tape, h.output, h.size, fun i hi k => h.block i hi (fun e => k (ho i hi e))⟩
theorem Fr.below {O : Nat → Prop} {w w' : World} (h : Fr O w w') (B : Nat) (hB : B ≤ w.heap.size) (ho : ∀ i, O i → B ≤ i) : Below B w w' :=
  ⟨h.os, h.tape, h.output, h.size, fun k hk => h.block k (by omega) (fun e => by have := ho k e; omega)⟩
/-- What it turned is new, seen from before. -/
theorem Fr.new {O : Nat → Prop} {w w' : World} (h : Fr O w w') (ho : ∀ i, i < w.heap.size → ¬ O i) : w.grownBy w' none := ⟨h.os, h.tape, h.output, h.size, fun i hi _ => h.block i hi (ho i hi)⟩
theorem Fr.cell {O : Nat → Prop} {w w' : World} (h : Fr O w w') {a : Addr} {v : Value} (ha : w.cell? a = some v) (ho : ¬ O a.block) : w'.cell? a = some v :=
  (World.cell?_of_block (h.block _ (World.block_lt_of_cell? w a ha) ho)).trans ha
theorem Fr.box {O : Nat → Prop} {w w' : World} {x : Nat} {c : C} (h : Fr O w w') (X : Box w x c) (ho : ¬ O x) : Box w' x c :=
  ⟨h.cell X.at0 ho, h.cell X.at1 ho, h.cell X.at2 ho, h.cell X.at3 ho, h.cell X.at4 ho, h.cell X.at5 ho, Nat.lt_of_lt_of_le X.lt h.size, fun i => (World.frozen?_of_block (h.block _ X.lt ho)).trans (X.fr i)⟩

/-! ### Slots' names -/
abbrev sv (n i : Int) : Value := .agg #[.int .i64 n, .int .i64 i]
/-- A block of two cells: a slot's name. -/
structure SBox (w : World) (x : Nat) (n i : Int) : Prop where
  at0 : w.cell? ⟨x, 0, none⟩ = some (.int .i64 n)
  at1 : w.cell? ⟨x, 1, none⟩ = some (.int .i64 i)
  lt : x < w.heap.size
theorem SBox.kept {w w' : World} {x : Nat} {n i : Int} (h : SBox w x n i) (g : w.grownBy w' none) : SBox w' x n i := ⟨g.cell h.at0 (by simp), g.cell h.at1 (by simp), Nat.lt_of_lt_of_le h.lt g.size⟩
theorem Fr.sbox {O : Nat → Prop} {w w' : World} {x : Nat} {n i : Int} (h : Fr O w w') (X : SBox w x n i) (ho : ¬ O x) : SBox w' x n i := ⟨h.cell X.at0 ho, h.cell X.at1 ho, Nat.lt_of_lt_of_le X.lt h.size⟩
theorem SBox.made (w : World) (n i : Int) : SBox (w.alloc (.cells #[.int .i64 n, .int .i64 i] 24)) w.heap.size n i := ⟨by simp, by simp, by simp⟩
theorem sboxNew (w : World) (n i : Int) : ∃ W, w.alloc (.cells #[.int .i64 n, .int .i64 i] 24) = W ∧ SBox W w.heap.size n i ∧ w.grownBy W none := ⟨_, rfl, SBox.made w n i, gbAlloc _ _ _⟩

/-! ### The plain store -/
/-- A node: its radix, and what lies in its slots. -/
structure Nd where
  r : Nat
  f : Nat → C
/-- The nodes that are there, by their ids. -/
abbrev St := Int → Option Nd

/-- What holds of a store. -/
structure Good (S : St) : Prop where
  lo : ∀ id d, S id = some d → 0 ≤ id ∧ id ≤ 63
  rad : ∀ id d, S id = some d → 1 ≤ d.r ∧ d.r ≤ 4
  out : ∀ id d i, S id = some d → 2 ^ d.r ≤ i → d.f i = C.zero
  nul : ∀ id d i, S id = some d → (d.f i).k = 0 → d.f i = C.zero
  chk : ∀ id d i, S id = some d → M.chk (d.f i) = 0

theorem Good.none : Good (fun _ => none) := ⟨by simp, by simp, by simp, by simp, by simp⟩

/-! ### A node's block -/
/-- The fields of a capability, by their numbers. -/
def fld (c : C) (j : Nat) : Value := if j = 0 then .int .i64 c.k else if j = 1 then .int .i64 c.o else if j = 2 then .int .i64 c.r else if j = 3 then .int .u64 c.b else if j = 4 then .int .u64 c.g else .int .i64 c.n
def ndv (d : Nd) (k : Nat) : Value := if k = 0 then .int .i64 d.r else fld (d.f ((k - 1) / 6)) ((k - 1) % 6)

def NodeAt (w : World) (q : Nat) (d : Nd) : Prop := w.rowIs q 74 97 (ndv d)

theorem ndv_fld (d : Nd) (i j : Nat) (hj : j < 6) : ndv d (1 + i * 6 + j) = fld (d.f i) j := by
  unfold ndv
  rw [if_neg (by omega), show 1 + i * 6 + j - 1 = i * 6 + j by omega, show (i * 6 + j) / 6 = i by omega, show (i * 6 + j) % 6 = j by omega]

theorem NodeAt.rad {w : World} {q : Nat} {d : Nd} (h : NodeAt w q d) : w.cell? ⟨q, 0, none⟩ = some (.int .i64 d.r) := World.rowIs.cell h (by omega)
theorem NodeAt.cell {w : World} {q : Nat} {d : Nd} (h : NodeAt w q d) (i j : Nat) (hi : i < 16) (hj : j < 6) : w.cell? ⟨q, 1 + i * 6 + j, none⟩ = some (fld (d.f i) j) := by
  rw [World.rowIs.cell h (by omega), ndv_fld d i j hj]
theorem NodeAt.lt {w : World} {q : Nat} {d : Nd} (h : NodeAt w q d) : q < w.heap.size := World.rowIs.lt h
theorem NodeAt.fr {O : Nat → Prop} {w w' : World} {q : Nat} {d : Nd} (h : NodeAt w q d) (k : Fr O w w') (ho : ¬ O q) : NodeAt w' q d := World.rowIs.of_block h (k.block q h.lt ho)

/-- What lies in a slot, by its place in the block. -/
structure Cell6 (w : World) (q o : Nat) (c : C) : Prop where
  at0 : w.cell? ⟨q, o, none⟩ = some (.int .i64 c.k)
  at1 : w.cell? ⟨q, o + 1, none⟩ = some (.int .i64 c.o)
  at2 : w.cell? ⟨q, o + 2, none⟩ = some (.int .i64 c.r)
  at3 : w.cell? ⟨q, o + 3, none⟩ = some (.int .u64 c.b)
  at4 : w.cell? ⟨q, o + 4, none⟩ = some (.int .u64 c.g)
  at5 : w.cell? ⟨q, o + 5, none⟩ = some (.int .i64 c.n)
  fr : ∀ i, w.frozen? ⟨q, i, none⟩ = false
theorem NodeAt.six {w : World} {q : Nat} {d : Nd} (h : NodeAt w q d) (i : Nat) (hi : i < 16) : Cell6 w q (1 + i * 6) (d.f i) :=
  ⟨h.cell i 0 hi (by omega), h.cell i 1 hi (by omega), h.cell i 2 hi (by omega), h.cell i 3 hi (by omega), h.cell i 4 hi (by omega), h.cell i 5 hi (by omega), World.rowIs.frozen h⟩

theorem Cell6.kept {w w' : World} {q o : Nat} {c : C} (h : Cell6 w q o c) (g : w.grownBy w' none) : Cell6 w' q o c :=
  ⟨g.cell h.at0 (by simp), g.cell h.at1 (by simp), g.cell h.at2 (by simp), g.cell h.at3 (by simp), g.cell h.at4 (by simp), g.cell h.at5 (by simp), fun i => (gbFrozen g (World.block_lt_of_cell? w _ h.at0) (by simp)).trans (h.fr i)⟩
/-- Six cells are written. -/
def Put6 (w w' : World) (q a : Nat) (c : C) : Prop :=
  ((((((w.setCell ⟨q, a, none⟩ (.int .i64 c.k)).setCell ⟨q, a + 1, none⟩ (.int .i64 c.o)).setCell ⟨q, a + 2, none⟩ (.int .i64 c.r)).setCell ⟨q, a + 3, none⟩ (.int .u64 c.b)).setCell ⟨q, a + 4, none⟩ (.int .u64 c.g)).setCell ⟨q, a + 5, none⟩ (.int .i64 c.n)) = w'
theorem Put6.mk (w : World) (q a : Nat) (c : C) : ∃ W, Put6 w W q a c ∧ w.grownBy W (some q) :=
  ⟨_, rfl, gbTrans (gbTrans (gbTrans (gbTrans (gbTrans (gbSetCell _ _ _ _) (gbSetCell _ _ _ _)) (gbSetCell _ _ _ _)) (gbSetCell _ _ _ _)) (gbSetCell _ _ _ _)) (gbSetCell _ _ _ _)⟩
/-- A slot written over. -/
def Nd.set (d : Nd) (i : Nat) (c : C) : Nd := ⟨d.r, fun j => if j = i then c else d.f j⟩

theorem NodeAt.put {w W : World} {q : Nat} {d : Nd} (h : NodeAt w q d) (i : Nat) (c : C) (hi : i < 16) (hW : Put6 w W q (1 + i * 6) c) :
    NodeAt W q (d.set i c) ∧ w.grownBy W (some q) := by
  unfold Put6 at hW
  subst hW
  refine ⟨?_, ?_⟩
  · unfold NodeAt at *
    refine (((((((World.rowIs.set h (1 + i * 6) (.int .i64 c.k)).set (1 + i * 6 + 1) (.int .i64 c.o)).set (1 + i * 6 + 2) (.int .i64 c.r)).set (1 + i * 6 + 3) (.int .u64 c.b)).set (1 + i * 6 + 4) (.int .u64 c.g)).set (1 + i * 6 + 5) (.int .i64 c.n))).congr ?_
    intro k hk
    by_cases hs : 1 + i * 6 ≤ k ∧ k < 1 + i * 6 + 6
    · obtain ⟨j, hj, rfl⟩ : ∃ j, j < 6 ∧ k = 1 + i * 6 + j := ⟨k - (1 + i * 6), by omega, by omega⟩
      rw [ndv_fld (d.set i c) i j hj]
      have hf : (d.set i c).f i = c := by simp [Nd.set]
      rw [hf]
      have : j = 0 ∨ j = 1 ∨ j = 2 ∨ j = 3 ∨ j = 4 ∨ j = 5 := by omega
      rcases this with rfl | rfl | rfl | rfl | rfl | rfl <;> simp [fld]
    · rw [if_neg (by omega), if_neg (by omega), if_neg (by omega), if_neg (by omega), if_neg (by omega), if_neg (by omega)]
      unfold ndv Nd.set
      by_cases h0 : k = 0
      · rw [if_pos h0, if_pos h0]
      · rw [if_neg h0, if_neg h0]
        show fld (d.f ((k - 1) / 6)) ((k - 1) % 6) = fld (if (k - 1) / 6 = i then c else d.f ((k - 1) / 6)) ((k - 1) % 6)
        rw [if_neg (by omega)]
  · exact gbTrans (gbTrans (gbTrans (gbTrans (gbTrans (gbSetCell _ _ _ _) (gbSetCell _ _ _ _)) (gbSetCell _ _ _ _)) (gbSetCell _ _ _ _)) (gbSetCell _ _ _ _)) (gbSetCell _ _ _ _)

/-! ### The map of nodes -/
/-- How a pointer to a node reads. -/
def ptrElem (v : Value) : Option (DataW Unit × List MemPlace) :=
  match v with
  | .pointer none => some (.nil, [])
  | .pointer (some ⟨q, 0, none⟩) => some (.lit (.int .i64 q), [])
  | _ => none
def ptrD : Option Nat → DataW Unit
  | none => .nil
  | some q => .lit (.int .i64 q)
abbrev ptr : Option Nat → Value
  | none => .pointer none
  | some q => .pointer (some ⟨q, 0, none⟩)
theorem ptrElem_inv {v : Value} {k : Option Nat} {ps : List MemPlace} (h : ptrElem v = some (ptrD k, ps)) : v = ptr k := by
  unfold ptrElem at h
  split at h
  · cases k
    · rfl
    · simp [ptrD] at h
  · cases k
    · simp [ptrD] at h
    · simp only [ptrD, Option.some.injEq, Prod.mk.injEq, DataW.lit.injEq, Lit.int.injEq, true_and] at h
      have h1 := h.1
      simp only [Int.natCast_inj] at h1
      subst h1; rfl
  · cases h

theorem Try.keyInt : Keyed Try.prog 3 := int_keyed Try.underlying3
/-- A number that an int can be. -/
abbrev I64 (a : Int) : Prop := (Lit.int .i64 a).wf = true
theorem i64_of {a : Int} (h : -9223372036854775808 ≤ a) (k : a ≤ 9223372036854775807) : I64 a := WalkArith.wf_i64 ⟨h, k⟩

def KMap (w : World) (b n : Nat) (K : Int → Option Nat) : Prop := ∃ D : DataW Unit, w.ownsMap Try.prog 3 ptrElem b n D ∧ ∀ id, D.atKey (.int .i64 id) .nil = ptrD (K id)

theorem KMap.lt {w : World} {b n : Nat} {K : Int → Option Nat} (h : KMap w b n K) : b < w.heap.size := by obtain ⟨D, h, _⟩ := h; exact h.lt
theorem KMap.fr {O : Nat → Prop} {w w' : World} {b n : Nat} {K : Int → Option Nat} (h : KMap w b n K) (k : Fr O w w') (ho : ¬ O b) : KMap w' b n K := by
  have hlt := h.lt
  obtain ⟨D, ⟨es, clock, hb, F, hs, hD⟩, h2⟩ := h
  exact ⟨D, ⟨es, clock, (k.block b hlt ho).trans hb, F, hs, hD⟩, h2⟩
theorem KMap.mono {w : World} {b n m : Nat} {K : Int → Option Nat} (h : KMap w b n K) (hn : n ≤ m) : KMap w b m K := by obtain ⟨D, h, k⟩ := h; exact ⟨D, h.mono hn, k⟩
theorem KMap.made (w : World) : KMap (w.alloc (.map #[] 0)) w.heap.size 0 (fun _ => none) := ⟨.map [], World.ownsMap_made _ _ _ _, fun _ => rfl⟩

theorem zeroPtr (w : World) : (zeroValue 67).run Try.prog w = .ok (.pointer none) w := by kernel_rfl

theorem KMap.look {w : World} {b n : Nat} {K : Int → Option Nat} (h : KMap w b n K) (id : Int) (hid : I64 id) :
    (Instr.lookup 68 (.map (some b)) (.int .i64 id) false).run Try.prog w = .ok (ptr (K id)) w := by
  obtain ⟨D, h1, h2⟩ := h
  obtain ⟨v, ps, hr, hv⟩ := h1.lookup Try.keyInt Try.underlying68 (zeroPtr w) (zd := .nil) (zp := []) rfl (keyOf_int_mk Try.underlying3 hid)
  rw [h2] at hv
  rw [hr, ptrElem_inv hv]

theorem KMap.put {w : World} {b n : Nat} {K : Int → Option Nat} (h : KMap w b n K) (id : Int) (q : Nat) (hid : I64 id) (hn : n ≤ 1000) :
    ∃ w', (Instr.mapUpdate 68 (.map (some b)) (.int .i64 id) (.pointer (some ⟨q, 0, none⟩))).run Try.prog w = .ok () w' ∧ KMap w' b (n + 1) (fun j => if j = id then some q else K j) ∧ w.grownBy w' (some b) := by
  obtain ⟨D, h1, h2⟩ := h
  obtain ⟨w', hr, ho, hg⟩ := h1.update Try.keyInt Try.underlying68 (by unfold maxLen; omega) (d := .lit (.int .i64 q)) (ps := []) (val := .pointer (some ⟨q, 0, none⟩)) (keyOf_int_mk Try.underlying3 hid) rfl
  refine ⟨w', hr, ⟨_, ho, fun j => ?_⟩, hg⟩
  show _ = ptrD (if j = id then some q else K j)
  by_cases e : j = id
  · subst e
    rw [if_pos rfl, atKey_put_same h1.isMap (Try.keyInt.key (keyOf_int_mk Try.underlying3 hid))]; rfl
  · rw [if_neg e, atKey_put_other (by simpa using e), h2]

theorem KMap.del {w : World} {b n : Nat} {K : Int → Option Nat} (h : KMap w b n K) (id : Int) (hid : I64 id) (ty : TypeId) :
    ∃ w', (Builtin.delete_ #[68, 3] ty #[.map (some b), .int .i64 id]).run Try.prog w = .ok (.tuple #[]) w' ∧ KMap w' b n (fun j => if j = id then none else K j) ∧ w.grownBy w' (some b) := by
  obtain ⟨D, h1, h2⟩ := h
  obtain ⟨w', hr, ho, hg⟩ := h1.drop Try.keyInt Try.underlying68 (keyOf_int_mk Try.underlying3 hid) ty
  refine ⟨w', hr, ⟨_, ho, fun j => ?_⟩, hg.grown⟩
  show _ = ptrD (if j = id then none else K j)
  by_cases e : j = id
  · subst e
    rw [if_pos rfl, atKey_del_same]; rfl
  · rw [if_neg e, atKey_del_other (by simpa using e), h2]

/-! ### The store -/
structure SA (w : World) (p b n : Nat) (K : Int → Option Nat) (S : St) : Prop where
  box : w.heap[p]? = some (.cells #[.map (some b)] 70)
  map : KMap w b n K
  gone : ∀ id, K id = none → S id = none
  node : ∀ id q, K id = some q → ∃ d, S id = some d ∧ NodeAt w q d
  inj : ∀ id id' q, K id = some q → K id' = some q → id = id'

theorem SA.cell {w : World} {p b n : Nat} {K : Int → Option Nat} {S : St} (h : SA w p b n K S) : w.cell? ⟨p, 0, none⟩ = some (.map (some b)) := by simp [World.cell?, h.box]
theorem SA.plt {w : World} {p b n : Nat} {K : Int → Option Nat} {S : St} (h : SA w p b n K S) : p < w.heap.size := (Array.getElem?_eq_some_iff.1 h.box).1
theorem SA.pb {w : World} {p b n : Nat} {K : Int → Option Nat} {S : St} (h : SA w p b n K S) : p ≠ b := by
  rintro rfl
  obtain ⟨D, ⟨es, clock, hb, _⟩, _⟩ := h.map
  rw [h.box] at hb; cases hb
theorem SA.qb {w : World} {p b n : Nat} {K : Int → Option Nat} {S : St} (h : SA w p b n K S) {id : Int} {q : Nat} (hq : K id = some q) : q ≠ b := by
  rintro rfl
  obtain ⟨D, ⟨es, clock, hb, _⟩, _⟩ := h.map
  obtain ⟨d, _, ⟨c, hc, _⟩⟩ := h.node id _ hq
  rw [hc] at hb; cases hb
theorem SA.qp {w : World} {p b n : Nat} {K : Int → Option Nat} {S : St} (h : SA w p b n K S) {id : Int} {q : Nat} (hq : K id = some q) : q ≠ p := by
  rintro rfl
  obtain ⟨d, _, ⟨c, hc, hs, _⟩⟩ := h.node id _ hq
  rw [h.box] at hc
  cases hc
theorem SA.fr {O : Nat → Prop} {w w' : World} {p b n : Nat} {K : Int → Option Nat} {S : St} (h : SA w p b n K S) (k : Fr O w w') (op : ¬ O p) (ob : ¬ O b) (oq : ∀ id q, K id = some q → ¬ O q) : SA w' p b n K S :=
  ⟨(k.block p h.plt op).trans h.box, h.map.fr k ob, h.gone, fun id q hq => by obtain ⟨d, h1, h2⟩ := h.node id q hq; exact ⟨d, h1, h2.fr k (oq id q hq)⟩, h.inj⟩

/-- A store whose blocks are among O. -/
def SAt (w : World) (p n : Nat) (O : Nat → Prop) (S : St) : Prop := ∃ b K, SA w p b n K S ∧ O p ∧ O b ∧ ∀ id q, K id = some q → O q
theorem SAt.fr {O O' : Nat → Prop} {w w' : World} {p n : Nat} {S : St} (h : SAt w p n O S) (k : Fr O' w w') (ho : ∀ i, O i → ¬ O' i) : SAt w' p n O S := by
  obtain ⟨b, K, h1, h2, h3, h4⟩ := h
  exact ⟨b, K, h1.fr k (ho _ h2) (ho _ h3) (fun id q hq => ho _ (h4 id q hq)), h2, h3, h4⟩
theorem SAt.kept {O : Nat → Prop} {w w' : World} {p n : Nat} {S : St} (h : SAt w p n O S) (k : w.grownBy w' none) : SAt w' p n O S := h.fr (O' := fun _ => False) (Fr.grown k) (fun _ _ e => e)
theorem SAt.mono {O O' : Nat → Prop} {w : World} {p n m : Nat} {S : St} (h : SAt w p n O S) (ho : ∀ i, O i → O' i) (hn : n ≤ m) : SAt w p m O' S := by
  obtain ⟨b, K, h1, h2, h3, h4⟩ := h
  exact ⟨b, K, ⟨h1.box, h1.map.mono hn, h1.gone, h1.node, h1.inj⟩, ho _ h2, ho _ h3, fun id q hq => ho _ (h4 id q hq)⟩

end Go.Proofs.Ytpfjcfgbecoccaa
