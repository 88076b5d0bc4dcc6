/-
  WORLDS THAT ONLY GROW, frames by the blocks that something owns, slots' names as values, in boxes, in lists and as keys of a map. Speaks of no function of the program.
-/
import Derived.Test.YtdnoidnpiaadaaaGreatG1
import Derived.Test.YtdnoidnpiaadaaaGreatG2
import Derived.Test.YtdnoidnpiaadaaaGreatG4
import Derived.Test.YtdnoidnpiaadaaaGreatFull
import Derived.WalkKit
import Derived.WalkSpells
import Derived.WalkLawsBesides
import Derived.Deep.OwnRows
import Derived.Deep.Draws
import Derived.Deep.QuietTactic
import Derived.BigQuiet
import Derived.Laws.StructEq
import Derived.Laws.AppendOwn
import Derived.Laws.OwnMore
import Derived.Maps.OwnSet
import Derived.Maps.OwnOps
import Derived.Maps.AppendAt
import Derived.Deep.MidRow
import Derived.Deep.Cut
import Derived.Deep.LoopGhost
import Derived.ChangeKeysEq
import Derived.DeepKeys4
import Derived.Test.YtdnoidnpiaadaaaGreatRows
import Derived.Test.YtdnoidnpiaadaaaGreatTPlain
namespace Go.Proofs.YtdnoidnpiaadaaaGreat
set_option maxRecDepth 10000
namespace T9
open Go.RowKit Go.Maps
set_option linter.unusedVariables false

/-! ### Worlds -/

/-! ### Regions that read, with calls that make memory -/

/-! ### Frames -/

/-! ### Slots' names -/

/-- Two slots' names held against one another. -/
def M.seq (a0 a1 b0 b1 : Int) : Bool := a0 == b0 && a1 == b1
theorem run_equal_slots (w : World) (a0 a1 b0 b1 : Int) : (Op.equalIn 10000 31 (.agg #[.int .i64 a0, .int .i64 a1]) (.agg #[.int .i64 b0, .int .i64 b1])).run Tryz.prog w = .ok (M.seq a0 a1 b0 b1) w := by
  rw [run_equalIn_agg w 9999 31 _ _ (by kernel_rfl) (by kernel_rfl)]
  simp only [go_sem, Program.fieldsOf, Tryz.underlying31]
  by_cases h0 : a0 = b0
  · by_cases h1 : a1 = b1
    all_goals simp [M.seq, go_sem, Tryz.underlying3, h0, h1]
  · simp [M.seq, go_sem, Tryz.underlying3, h0]
theorem run_eql_slots (w : World) (a0 a1 b0 b1 : Int) : (binOp .eql 31 (.agg #[.int .i64 a0, .int .i64 a1]) (.agg #[.int .i64 b0, .int .i64 b1])).run Tryz.prog w = .ok (.bool (M.seq a0 a1 b0 b1)) w := by
  rw [run_eql_struct, run_equal_slots]; rfl
theorem run_neq_slots (w : World) (a0 a1 b0 b1 : Int) : (binOp .neq 31 (.agg #[.int .i64 a0, .int .i64 a1]) (.agg #[.int .i64 b0, .int .i64 b1])).run Tryz.prog w = .ok (.bool (!M.seq a0 a1 b0 b1)) w := by
  rw [run_neq_struct, run_equal_slots]; rfl
theorem M.seq_refl (a b : Int) : M.seq a b a b = true := by simp [M.seq]
theorem M.seq_iff {a b c d : Int} : M.seq a b c d = true ↔ (a, b) = (c, d) := by simp [M.seq]
theorem M.seq_not {a b c d : Int} : M.seq a b c d = false ↔ (a, b) ≠ (c, d) := by rw [Ne, ← M.seq_iff]; cases M.seq a b c d <;> simp
theorem eqGuardSlots : Tryz.prog.eqGuardType Tryz.prog.depth 31 = false := by kernel_rfl

/-! ### Lists of slots -/

theorem cellsL_set (L : List (Int × Int)) (j : Nat) (A B : Int) : ((cellsL L).set (j * 2) (.int .i64 A)).set (j * 2 + 1) (.int .i64 B) = cellsL (L.set j (A, B)) := by
  induction L generalizing j with
  | nil => simp [cellsL]
  | cons q L ih =>
    cases j with
    | zero => simp [cellsL_cons]
    | succ j =>
      rw [show (j + 1) * 2 = j * 2 + 1 + 1 by omega]
      simp only [List.set_cons_succ, cellsL_cons]
      rw [ih]

theorem _root_.Go.Proofs.YtdnoidnpiaadaaaGreat.Lst.store {w : World} {B g n cap : Nat} {L : List (Int × Int)} (h : Lst w B (.slice (some ⟨g, 0, none⟩) n cap) L) (hn : L.length = n) (j : Nat) (A D : Int) :
    Lst ((w.setCell ⟨g, j * 2, none⟩ (.int .i64 A)).setCell ⟨g, j * 2 + 1, none⟩ (.int .i64 D)) B (.slice (some ⟨g, 0, none⟩) n cap) (L.set j (A, D)) := by
  subst hn
  unfold Lst at *
  have h1 := (World.ownsRow.stored h (j * 2) (.int .i64 A)).1
  have h2 := (World.ownsRow.stored h1 (j * 2 + 1) (.int .i64 D)).1
  rw [cellsL_set] at h2
  rw [List.length_set]; exact h2
/-- The cells of an element of a list of the call's own. -/
theorem _root_.Go.Proofs.YtdnoidnpiaadaaaGreat.Lst.el {w : World} {B g n cap : Nat} {L : List (Int × Int)} (h : Lst w B (.slice (some ⟨g, 0, none⟩) n cap) L) (hn : L.length = n) (j : Nat) (p : Int × Int) (hj : L[j]? = some p) :
    w.cell? ⟨g, j * 2, none⟩ = some (.int .i64 p.1) ∧ w.cell? ⟨g, j * 2 + 1, none⟩ = some (.int .i64 p.2) ∧ w.frozen? ⟨g, j * 2, none⟩ = false ∧ w.frozen? ⟨g, j * 2 + 1, none⟩ = false := by
  subst hn
  unfold Lst at h
  have hlt : j < L.length := (List.getElem?_eq_some_iff.1 hj).1
  obtain ⟨h1, h2⟩ := cellsL_get L j p hj
  exact ⟨(World.ownsRow.cellAt h _ (by omega)).trans h1, (World.ownsRow.cellAt h _ (by omega)).trans h2, World.ownsRow.frozenAt h _, World.ownsRow.frozenAt h _⟩

/-- append of one slot's name, and where the list lies then. -/
theorem wpList_append_slot_at {w : World} {ops : Array Oper} {rest : List Oper} {o : Oper} {a : Act} {Q : Exit → Act → World → Prop} (hgd : o.guard = none) (s x : Operand)
    (ho : o.op = .call { callee := .builtin .append, args := #[s, x], argTypes := #[51, 51] })
    (B : Nat) (v : Value) (L : List (Int × Int)) (hs : a.eval s = v) (hown : Lst w B v L)
    (ad : Addr) (m c : Nat) (K : List (Int × Int)) (hx : a.eval x = .slice (some ad) m c) (hm : K.length = m) (hnews : Row w ad K)
    (hn : L.length + m ≤ 1000000) (hB : B ≤ w.heap.size)
    (h : ∀ v' w', Lst w' B v' (L ++ K) → w.grownBy w' v.ownBlock → (v'.ownBlock = v.ownBlock ∨ v'.ownBlock = some w.heap.size) → wpList Tryz.prog ops Q rest (a.put o.dst v') w') : wpList Tryz.prog ops Q (o :: rest) a w := by
  obtain ⟨i, hi, hx0⟩ := Option.map_eq_some_iff.1 Tryz.infoSlot
  simp only [Prod.mk.injEq] at hx0
  obtain ⟨hz0, hz1, hz2⟩ := hx0
  refine wpList_append_own_at w hgd s x 51 ho B 31 i (.agg #[.int .i64 0, .int .i64 0]) 2 16 Tryz.underlying51 hi hz0 hz1 hz2 (by kernel_rfl) (by decide) v L.length (cellsL L) hs hown ad m c (cellsL K) hx (by rw [cellsL_len, hm]) hnews.cells (cellsL_one K) (by unfold maxLen; omega) (by omega) hB ?_
  intro v' w' h2 h3 _ h5
  refine h v' w' ?_ h3 h5
  unfold Lst
  rw [← cellsL_app, List.length_append, hm]
  exact h2

theorem Tryz.laidOut7 : laidOutB Tryz.prog = true := by kernel_rfl
theorem Tryz.keySlot : Keyed Tryz.prog 31 := Keyed.of_law (deep_law_laid Tryz.laidOut7 (m := 2) (by omega) (of_decide_eq_true (by kernel_rfl)) (by kernel_rfl) (by kernel_rfl))

/-- A slot's name as a key. -/
def kl (n i : Int) : Lit := .string (keyBytes [.int .i64 n, .int .i64 i])
theorem keyLits_one {P : Program} {e : TypeId} (he : P.underlying e = some (.int .i64)) (d : Nat) (n : Int) (hn : (Lit.int IntKind.i64 n).wf = true) : P.keyLits (d + 1) e [.int .i64 n] = some [.int .i64 n] := by
  simp [Program.keyLits, he, hn]
theorem keyLits_two {P : Program} {k e : TypeId} (f0 f1 : Field) (hu : P.underlying k = some (.struct #[f0, f1])) (t0 : f0.type = e) (t1 : f1.type = e) (o0 : f0.offset = 0) (o1 : f1.offset = 1) (hnm : (#[f0, f1] : Array Field).all (·.name != "_") = true)
    (hc : P.cellsOf k = 2) (he : P.underlying e = some (.int .i64)) (hce : P.cellsOf e = 1) (d : Nat) (n i : Int) (hn : (Lit.int IntKind.i64 n).wf = true) (hi : (Lit.int IntKind.i64 i).wf = true) :
    P.keyLits (d + 1 + 1) k [.int .i64 n, .int .i64 i] = some [.int .i64 n, .int .i64 i] := by
  have e0 := keyLits_one he d n hn
  have e1 := keyLits_one he d i hi
  unfold Program.keyLits
  rw [hu]
  dsimp only
  rw [if_pos ⟨by rw [hc]; rfl, hnm⟩]
  simp [t0, t1, o0, o1, hce, e0, e1]
theorem keyOf_slot {n i : Int} (hn : I64 n) (hi : I64 i) : keyOf Tryz.prog 31 (sv n i) = some (kl n i) := by
  have h1 : Tryz.prog.keyType 31 = true := by kernel_rfl
  have h2 : Tryz.prog.cellsOf 31 = 2 := by kernel_rfl
  have h3 : Tryz.prog.cellsOf 3 = 1 := by kernel_rfl
  obtain ⟨m, hm⟩ : ∃ m, Tryz.prog.types.size + 1 = m + 1 + 1 := ⟨Tryz.prog.types.size - 1, by have : 1 ≤ Tryz.prog.types.size := of_decide_eq_true (by kernel_rfl); omega⟩
  have hk := keyLits_two _ _ Tryz.underlying31 rfl rfl rfl rfl (by decide +kernel) h2 Tryz.underlying3 h3 m n i hn hi
  have hf : (sv n i).formed Tryz.prog 31 = true := by simp [Value.formed, Tryz.underlying31, h2]
  unfold keyOf
  rw [Tryz.underlying31]
  simp only [h1, hf, Bool.and_self, if_true, hm]
  show (Tryz.prog.keyLits (m + 1 + 1) 31 [.int .i64 n, .int .i64 i]).map _ = _
  rw [hk]
  rfl
theorem kl_inj {n i n' i' : Int} (hn : I64 n) (hi : I64 i) (hn' : I64 n') (hi' : I64 i') (h : kl n i = kl n' i') : n = n' ∧ i = i' := by
  have := Tryz.keySlot.inj (keyOf_slot hn hi) (h ▸ keyOf_slot hn' hi')
  simpa [sv] using this
theorem kl_key {n i : Int} (hn : I64 n) (hi : I64 i) : WideAt.IsKeyLit (kl n i) := Tryz.keySlot.key (keyOf_slot hn hi)

/-! ### A map from slots' names to pointers -/
def KMap (w : World) (b n : Nat) (K : Int × Int → Option Nat) : Prop :=
  ∃ D : DataW Unit, w.ownsMap Tryz.prog 31 ptrElem b n D ∧ Maps.size D = n ∧ ∀ s : Int × Int, I64 s.1 → I64 s.2 → D.atKey (kl s.1 s.2) .nil = ptrD (K s) ∧ Maps.has D (kl s.1 s.2) = (K s).isSome

theorem KMap.lt {w : World} {b n : Nat} {K : Int × Int → Option Nat} (h : KMap w b n K) : b < w.heap.size := by obtain ⟨D, h, _⟩ := h; exact h.lt
theorem KMap.fr {O : Nat → Prop} {w w' : World} {b n : Nat} {K : Int × Int → Option Nat} (h : KMap w b n K) (k : Fr O w w') (ho : ¬ O b) : KMap w' b n K := by
  have hlt := h.lt
  obtain ⟨D, ⟨es, clock, hb, F, hs, hD⟩, h2⟩ := h
  exact ⟨D, ⟨es, clock, (k.block b hlt ho).trans hb, F, hs, hD⟩, h2⟩
theorem KMap.made (w : World) : KMap (w.alloc (.map #[] 0)) w.heap.size 0 (fun _ => none) := ⟨.map [], World.ownsMap_made _ _ _ _, rfl, fun _ _ _ => ⟨rfl, rfl⟩⟩

theorem zeroPtr (w : World) : (zeroValue 127).run Tryz.prog w = .ok (.pointer none) w := by kernel_rfl

theorem KMap.look {w : World} {b n : Nat} {K : Int × Int → Option Nat} (h : KMap w b n K) (s t : Int) (hs : I64 s) (ht : I64 t) :
    (Instr.lookup 117 (.map (some b)) (sv s t) false).run Tryz.prog w = .ok (ptr (K (s, t))) w := by
  obtain ⟨D, h1, _, h2⟩ := h
  obtain ⟨v, ps, hr, hv⟩ := h1.lookup Tryz.keySlot Tryz.underlying117 (zeroPtr w) (zd := .nil) (zp := []) rfl (keyOf_slot hs ht)
  rw [(h2 (s, t) hs ht).1] at hv
  rw [hr, ptrElem_inv hv]
theorem KMap.len {w : World} {b n : Nat} {K : Int × Int → Option Nat} (h : KMap w b n K) (ty : TypeId) : (Builtin.len_ #[117] ty #[.map (some b)]).run Tryz.prog w = .ok (.int .i64 n) w := by
  obtain ⟨D, h1, h3, h2⟩ := h
  rw [h1.len Tryz.underlying117 ty, h3]

theorem KMap.put {w : World} {b n : Nat} {K : Int × Int → Option Nat} (h : KMap w b n K) (s t : Int) (q : Nat) (hs : I64 s) (ht : I64 t) (hn : n ≤ 1000) (hK : K (s, t) = none) :
    ∃ w', (Instr.mapUpdate 117 (.map (some b)) (sv s t) (.pointer (some ⟨q, 0, none⟩))).run Tryz.prog w = .ok () w' ∧ KMap w' b (n + 1) (fun j => if j = (s, t) then some q else K j) ∧ w.grownBy w' (some b) := by
  obtain ⟨D, h1, h3, h2⟩ := h
  obtain ⟨w', hr, ho, hg⟩ := h1.update Tryz.keySlot Tryz.underlying117 (by unfold maxLen; omega) (d := .lit (.int .i64 q)) (ps := []) (val := .pointer (some ⟨q, 0, none⟩)) (keyOf_slot hs ht) rfl
  refine ⟨w', hr, ⟨_, ho, ?_, fun j hj hj' => ?_⟩, hg⟩
  · rw [size_put (h1.tidy Tryz.keySlot), (h2 (s, t) hs ht).2, hK, h3]; rfl
  · show _ = ptrD (if j = (s, t) then some q else K j) ∧ _ = (if j = (s, t) then some q else K j).isSome
    by_cases e : j = (s, t)
    · subst e
      rw [if_pos rfl, atKey_put_same h1.isMap (kl_key hs ht), has_put_same h1.isMap (kl_key hs ht)]; exact ⟨rfl, rfl⟩
    · have hne : kl j.1 j.2 ≠ kl s t := fun x => e (by obtain ⟨a, b⟩ := kl_inj hj hj' hs ht x; obtain ⟨j1, j2⟩ := j; simp at a b; rw [a, b])
      rw [if_neg e, atKey_put_other hne, has_put_other hne]
      exact h2 j hj hj'

theorem KMap.del {w : World} {b n : Nat} {K : Int × Int → Option Nat} (h : KMap w b (n + 1) K) (s t : Int) (hs : I64 s) (ht : I64 t) (ty : TypeId) (hK : K (s, t) ≠ none) :
    ∃ w', (Builtin.delete_ #[117, 31] ty #[.map (some b), sv s t]).run Tryz.prog w = .ok (.tuple #[]) w' ∧ KMap w' b n (fun j => if j = (s, t) then none else K j) ∧ w.grownBy w' (some b) := by
  obtain ⟨D, h1, h3, h2⟩ := h
  obtain ⟨w', hr, ho, hg⟩ := h1.drop Tryz.keySlot Tryz.underlying117 (keyOf_slot hs ht) ty
  have hsz : Maps.size (D.del (kl s t)) = n := by
    have := size_del (k := kl s t) (h1.tidy Tryz.keySlot)
    rw [(h2 (s, t) hs ht).2, h3] at this
    cases hk : K (s, t) with
    | none => exact absurd hk hK
    | some q => rw [hk] at this; simpa using this
  refine ⟨w', hr, ⟨_, ?_, hsz, fun j hj hj' => ?_⟩, hg.grown⟩
  · obtain ⟨es, clock, hb, F, hs, hD⟩ := ho
    refine ⟨es, clock, hb, F, ?_, hD⟩
    rw [hD] at hsz
    simpa [Maps.size, length_sorted] using Nat.le_of_eq hsz
  · show _ = ptrD (if j = (s, t) then none else K j) ∧ _ = (if j = (s, t) then none else K j).isSome
    by_cases e : j = (s, t)
    · subst e
      rw [if_pos rfl, atKey_del_same, has_del_same]; exact ⟨rfl, rfl⟩
    · have hne : kl j.1 j.2 ≠ kl s t := fun x => e (by obtain ⟨a, b⟩ := kl_inj hj hj' hs ht x; obtain ⟨j1, j2⟩ := j; simp at a b; rw [a, b])
      rw [if_neg e, atKey_del_other hne, has_del_other hne]
      exact h2 j hj hj'

end T9
end Go.Proofs.YtdnoidnpiaadaaaGreat

/-
  A TREE IN MEMORY: the members' blocks, their lists of children, the map; what becomes of it where a member's cells are written, a member is laid in or taken out. Speaks of no function of the program.
-/
namespace Go.Proofs.YtdnoidnpiaadaaaGreat
set_option maxRecDepth 10000
namespace T9
open Go.RowKit Go.Maps
set_option linter.unusedVariables false

/-! ### What a slot comes of, as three cells -/
def oN : Option (Int × Int) → Int
  | none => 0
  | some s => s.1
def oA : Option (Int × Int) → Int
  | none => 0
  | some s => s.2
def oB : Option (Int × Int) → Bool
  | none => false
  | some _ => true
/-- A member's block. -/
def MemAt (w : World) (q : Nat) (o : Option (Int × Int)) (v : Value) : Prop := w.heap[q]? = some (.cells #[.int .i64 (oN o), .int .i64 (oA o), .bool (oB o), v] 131)
theorem MemAt.lt {w : World} {q : Nat} {o : Option (Int × Int)} {v : Value} (h : MemAt w q o v) : q < w.heap.size := (Array.getElem?_eq_some_iff.1 h).1
theorem MemAt.fr {O : Nat → Prop} {w w' : World} {q : Nat} {o : Option (Int × Int)} {v : Value} (h : MemAt w q o v) (k : Fr O w w') (ho : ¬ O q) : MemAt w' q o v := (k.block q h.lt ho).trans h
theorem MemAt.c0 {w : World} {q : Nat} {o : Option (Int × Int)} {v : Value} (h : MemAt w q o v) : w.cell? ⟨q, 0, none⟩ = some (.int .i64 (oN o)) := by unfold MemAt at h; simp [World.cell?, h]
theorem MemAt.c1 {w : World} {q : Nat} {o : Option (Int × Int)} {v : Value} (h : MemAt w q o v) : w.cell? ⟨q, 1, none⟩ = some (.int .i64 (oA o)) := by unfold MemAt at h; simp [World.cell?, h]
theorem MemAt.c2 {w : World} {q : Nat} {o : Option (Int × Int)} {v : Value} (h : MemAt w q o v) : w.cell? ⟨q, 2, none⟩ = some (.bool (oB o)) := by unfold MemAt at h; simp [World.cell?, h]
theorem MemAt.c3 {w : World} {q : Nat} {o : Option (Int × Int)} {v : Value} (h : MemAt w q o v) : w.cell? ⟨q, 3, none⟩ = some v := by unfold MemAt at h; simp [World.cell?, h]
theorem MemAt.fz {w : World} {q : Nat} {o : Option (Int × Int)} {v : Value} (h : MemAt w q o v) (i : Nat) : w.frozen? ⟨q, i, none⟩ = false := by unfold MemAt at h; simp [World.frozen?, h]
theorem blkSet {w : World} {q : Nat} {cur : Array Value} {t : TypeId} {fr : Nat × Nat} (h : w.heap[q]? = some (.cells cur t fr)) (i : Nat) (v : Value) : (w.setCell ⟨q, i, none⟩ v).heap[q]? = some (.cells (cur.setIfInBounds i v) t fr) := by
  rw [setCell_eq_setRow w q i cur t fr v h]; exact setRow_heap w q cur _ t fr h
theorem MemAt.put3 {w : World} {q : Nat} {o : Option (Int × Int)} {v : Value} (h : MemAt w q o v) (v' : Value) : MemAt (w.setCell ⟨q, 3, none⟩ v') q o v' ∧ w.grownBy (w.setCell ⟨q, 3, none⟩ v') (some q) := by
  refine ⟨?_, gbSetCell _ _ _ _⟩
  unfold MemAt at h ⊢
  exact blkSet h 3 v'
theorem MemAt.put0 {w : World} {q : Nat} {o : Option (Int × Int)} {v : Value} (h : MemAt w q o v) (o' : Option (Int × Int)) :
    MemAt (((w.setCell ⟨q, 0, none⟩ (.int .i64 (oN o'))).setCell ⟨q, 1, none⟩ (.int .i64 (oA o'))).setCell ⟨q, 2, none⟩ (.bool (oB o'))) q o' v ∧ w.grownBy (((w.setCell ⟨q, 0, none⟩ (.int .i64 (oN o'))).setCell ⟨q, 1, none⟩ (.int .i64 (oA o'))).setCell ⟨q, 2, none⟩ (.bool (oB o'))) (some q) := by
  refine ⟨?_, gbTrans (gbTrans (gbSetCell _ _ _ _) (gbSetCell _ _ _ _)) (gbSetCell _ _ _ _)⟩
  unfold MemAt at h ⊢
  exact blkSet (blkSet (blkSet h 0 _) 1 _) 2 _
theorem MemAt.new (w : World) (o : Option (Int × Int)) (v : Value) : MemAt (w.alloc (.cells #[.int .i64 (oN o), .int .i64 (oA o), .bool (oB o), v] 131)) w.heap.size o v := Deep.blk_alloc_new _ _

theorem _root_.Go.Proofs.YtdnoidnpiaadaaaGreat.Lst.fr {O : Nat → Prop} {w w' : World} {B : Nat} {v : Value} {L : List (Int × Int)} (h : Lst w B v L) (k : Fr O w w') (ho : ∀ g, v.ownBlock = some g → ¬ O g) : Lst w' B v L := by
  obtain ⟨h1, h2⟩ := h
  refine ⟨h1, ?_⟩
  rcases h2 with h2 | ⟨g, cap, cur, rfl, hb, hg, h3⟩
  · exact .inl h2
  · exact .inr ⟨g, cap, cur, rfl, hb, (k.block g (Array.getElem?_eq_some_iff.1 hg).1 (ho g rfl)).trans hg, h3⟩
theorem _root_.Go.Proofs.YtdnoidnpiaadaaaGreat.Lst.zero {w : World} {B : Nat} {v : Value} {L : List (Int × Int)} (h : Lst w B v L) : Lst w 0 v L := by
  obtain ⟨h1, h2⟩ := h
  refine ⟨h1, ?_⟩
  rcases h2 with h2 | ⟨g, cap, cur, rfl, hb, hg, h3⟩
  · exact .inl h2
  · exact .inr ⟨g, cap, cur, rfl, Nat.zero_le _, hg, h3⟩
theorem _root_.Go.Proofs.YtdnoidnpiaadaaaGreat.Lst.blk {w : World} {B g : Nat} {v : Value} {L : List (Int × Int)} (h : Lst w B v L) (e : v.ownBlock = some g) : ∃ cur, w.heap[g]? = some (.cells cur 31 (0, 0)) := by
  obtain ⟨h1, h2⟩ := h
  rcases h2 with ⟨rfl, _⟩ | ⟨g', cap, cur, rfl, hb, hg, h3⟩
  · cases e
  · cases e; exact ⟨cur, hg⟩

/-! ### The tree -/
/-- What is told of the slots that are there: what each comes of, and what comes of it. -/
abbrev Vw := Int × Int → Option (Option (Int × Int) × List (Int × Int))

structure TA (w : World) (p b n : Nat) (K : Int × Int → Option Nat) (V : Int × Int → Value) (P : Vw) : Prop where
  box : w.heap[p]? = some (.cells #[.map (some b)] 119)
  map : KMap w b n K
  gone : ∀ s, P s = none → K s = none
  mem : ∀ s y, P s = some y → ∃ q, K s = some q ∧ MemAt w q y.1 (V s) ∧ Lst w 0 (V s) y.2
  inj : ∀ s t q, K s = some q → K t = some q → s = t
  vinj : ∀ s t g, K s ≠ none → K t ≠ none → (V s).ownBlock = some g → (V t).ownBlock = some g → s = t

theorem TA.cell {w : World} {p b n : Nat} {K : Int × Int → Option Nat} {V : Int × Int → Value} {P : Vw} (h : TA w p b n K V P) : w.cell? ⟨p, 0, none⟩ = some (.map (some b)) := by simp [World.cell?, h.box]
theorem TA.plt {w : World} {p b n : Nat} {K : Int × Int → Option Nat} {V : Int × Int → Value} {P : Vw} (h : TA w p b n K V P) : p < w.heap.size := (Array.getElem?_eq_some_iff.1 h.box).1
theorem TA.has {w : World} {p b n : Nat} {K : Int × Int → Option Nat} {V : Int × Int → Value} {P : Vw} (h : TA w p b n K V P) {s : Int × Int} {q : Nat} (hq : K s = some q) : ∃ y, P s = some y ∧ MemAt w q y.1 (V s) ∧ Lst w 0 (V s) y.2 := by
  cases hp : P s with
  | none => rw [h.gone s hp] at hq; cases hq
  | some y =>
    obtain ⟨q', h1, h2, h3⟩ := h.mem s y hp
    rw [hq] at h1; cases h1
    exact ⟨y, rfl, h2, h3⟩
/-- The blocks are of several sorts. -/
theorem TA.pb {w : World} {p b n : Nat} {K : Int × Int → Option Nat} {V : Int × Int → Value} {P : Vw} (h : TA w p b n K V P) : p ≠ b := by
  rintro rfl
  obtain ⟨D, ⟨es, clock, hb, _⟩, _⟩ := h.map
  rw [h.box] at hb; cases hb
theorem TA.qb {w : World} {p b n : Nat} {K : Int × Int → Option Nat} {V : Int × Int → Value} {P : Vw} (h : TA w p b n K V P) {s : Int × Int} {q : Nat} (hq : K s = some q) : q ≠ b := by
  rintro rfl
  obtain ⟨D, ⟨es, clock, hb, _⟩, _⟩ := h.map
  obtain ⟨y, _, hc, _⟩ := h.has hq
  rw [hc] at hb; cases hb
theorem TA.qp {w : World} {p b n : Nat} {K : Int × Int → Option Nat} {V : Int × Int → Value} {P : Vw} (h : TA w p b n K V P) {s : Int × Int} {q : Nat} (hq : K s = some q) : q ≠ p := by
  rintro rfl
  obtain ⟨y, _, hc, _⟩ := h.has hq
  have := h.box
  rw [hc] at this; cases this
theorem TA.gp {w : World} {p b n : Nat} {K : Int × Int → Option Nat} {V : Int × Int → Value} {P : Vw} (h : TA w p b n K V P) {s : Int × Int} {q g : Nat} (hq : K s = some q) (hg : (V s).ownBlock = some g) : g ≠ p := by
  rintro rfl
  obtain ⟨y, _, _, hl⟩ := h.has hq
  obtain ⟨cur, hc⟩ := hl.blk hg
  have := h.box
  rw [hc] at this; cases this
theorem TA.gb {w : World} {p b n : Nat} {K : Int × Int → Option Nat} {V : Int × Int → Value} {P : Vw} (h : TA w p b n K V P) {s : Int × Int} {q g : Nat} (hq : K s = some q) (hg : (V s).ownBlock = some g) : g ≠ b := by
  rintro rfl
  obtain ⟨y, _, _, hl⟩ := h.has hq
  obtain ⟨cur, hc⟩ := hl.blk hg
  obtain ⟨D, ⟨es, clock, hb, _⟩, _⟩ := h.map
  rw [hc] at hb; cases hb
theorem TA.gq {w : World} {p b n : Nat} {K : Int × Int → Option Nat} {V : Int × Int → Value} {P : Vw} (h : TA w p b n K V P) {s t : Int × Int} {q q' g : Nat} (hq : K s = some q) (hg : (V s).ownBlock = some g) (hq' : K t = some q') : g ≠ q' := by
  rintro rfl
  obtain ⟨y, _, _, hl⟩ := h.has hq
  obtain ⟨y', _, hm, _⟩ := h.has hq'
  obtain ⟨cur, hc⟩ := hl.blk hg
  unfold MemAt at hm
  rw [hc] at hm; cases hm

theorem TA.fr {O : Nat → Prop} {w w' : World} {p b n : Nat} {K : Int × Int → Option Nat} {V : Int × Int → Value} {P : Vw} (h : TA w p b n K V P) (k : Fr O w w') (op : ¬ O p) (ob : ¬ O b) (oq : ∀ s q, K s = some q → ¬ O q) (og : ∀ s q g, K s = some q → (V s).ownBlock = some g → ¬ O g) : TA w' p b n K V P :=
  ⟨(k.block p h.plt op).trans h.box, h.map.fr k ob, h.gone, fun s y hy => by obtain ⟨q, h1, h2, h3⟩ := h.mem s y hy; exact ⟨q, h1, h2.fr k (oq s q h1), h3.fr k (fun g hg => og s q g h1 hg)⟩, h.inj, h.vinj⟩
theorem TA.kept {w w' : World} {p b n : Nat} {K : Int × Int → Option Nat} {V : Int × Int → Value} {P : Vw} (h : TA w p b n K V P) (k : w.grownBy w' none) : TA w' p b n K V P :=
  h.fr (O := fun _ => False) (Fr.grown k) (fun e => e) (fun e => e) (fun _ _ _ e => e) (fun _ _ _ _ _ e => e)

/-- What a slot comes of is written anew. -/
theorem TA.setOf {w : World} {p b n q : Nat} {K : Int × Int → Option Nat} {V : Int × Int → Value} {P : Vw} (h : TA w p b n K V P) {s : Int × Int} {o : Option (Int × Int)} {l : List (Int × Int)} (hq : K s = some q) (hs : P s = some (o, l)) (o' : Option (Int × Int)) :
    TA (((w.setCell ⟨q, 0, none⟩ (.int .i64 (oN o'))).setCell ⟨q, 1, none⟩ (.int .i64 (oA o'))).setCell ⟨q, 2, none⟩ (.bool (oB o'))) p b n K V (fun t => if t = s then some (o', l) else P t) ∧
    w.grownBy (((w.setCell ⟨q, 0, none⟩ (.int .i64 (oN o'))).setCell ⟨q, 1, none⟩ (.int .i64 (oA o'))).setCell ⟨q, 2, none⟩ (.bool (oB o'))) (some q) := by
  obtain ⟨y, hy, hm, hl⟩ := h.has hq
  rw [hs] at hy; cases hy
  obtain ⟨M1, G1⟩ := hm.put0 o'
  have k : Fr (fun i => i = q) w _ := Fr.at G1 rfl
  refine ⟨⟨(k.block p h.plt (Ne.symm (h.qp hq))).trans h.box, h.map.fr k (Ne.symm (h.qb hq)), fun t ht => ?_, fun t y hy => ?_, h.inj, h.vinj⟩, G1⟩
  · by_cases e : t = s
    · simp [e] at ht
    · exact h.gone t (by simpa [e] using ht)
  · by_cases e : t = s
    · subst e
      simp at hy; subst hy
      exact ⟨q, hq, M1, hl.fr k (fun g hg e => h.gq hq hg hq e)⟩
    · obtain ⟨q', h1, h2, h3⟩ := h.mem t y (by simpa [e] using hy)
      exact ⟨q', h1, h2.fr k (fun e2 => e (h.inj t s q (e2 ▸ h1) hq)), h3.fr k (fun g hg e2 => h.gq h1 hg hq e2)⟩
/-- The list of what comes of a slot has become another one, at the same block or at a new one; then it is stored. -/
theorem TA.setCh {w w1 : World} {p b n q : Nat} {K : Int × Int → Option Nat} {V : Int × Int → Value} {P : Vw} (h : TA w p b n K V P) {s : Int × Int} {o : Option (Int × Int)} {l l' : List (Int × Int)} {v' : Value} (hq : K s = some q) (hs : P s = some (o, l))
    (g1 : w.grownBy w1 (V s).ownBlock) (hv : Lst w1 0 v' l') (hb : v'.ownBlock = (V s).ownBlock ∨ ∀ g, v'.ownBlock = some g → w.heap.size ≤ g) :
    TA (w1.setCell ⟨q, 3, none⟩ v') p b n K (fun t => if t = s then v' else V t) (fun t => if t = s then some (o, l') else P t) ∧ Fr (fun i => i = q ∨ (V s).ownBlock = some i) w (w1.setCell ⟨q, 3, none⟩ v') := by
  obtain ⟨y, hy, hm, hl⟩ := h.has hq
  rw [hs] at hy; cases hy
  have F1 : Fr (fun i => (V s).ownBlock = some i) w w1 := by
    cases e : (V s).ownBlock with
    | none => rw [e] at g1; exact Fr.grown g1
    | some g => rw [e] at g1; exact Fr.at g1 rfl
  have hm1 : MemAt w1 q o (V s) := hm.fr F1 (fun e => h.gq hq e hq rfl)
  obtain ⟨M1, G1⟩ := hm1.put3 v'
  have k : Fr (fun i => i = q ∨ (V s).ownBlock = some i) w (w1.setCell ⟨q, 3, none⟩ v') := (F1.mono (fun i _ e => .inr e)).join (Fr.at (O := fun i => i = q) G1 rfl) (fun i _ e => .inl e)
  have k1 : Fr (fun i => i = q) w1 (w1.setCell ⟨q, 3, none⟩ v') := Fr.at G1 rfl
  have hvb : ∀ t q' g, t ≠ s → K t = some q' → (V t).ownBlock = some g → v'.ownBlock = some g → False := fun t q' g ht h1 hg hg' => by
    rcases hb with e | e
    · exact ht (h.vinj t s g (by rw [h1]; simp) (by rw [hq]; simp) hg (e ▸ hg'))
    · have h2 := e g hg'
      obtain ⟨y, _, _, hl⟩ := h.has h1
      have := (hl.lt g hg).2
      omega
  refine ⟨⟨(k.block p h.plt (fun e => ?_)).trans h.box, h.map.fr k (fun e => ?_), fun t ht => ?_, fun t y hy => ?_, h.inj, fun t t' g ht ht' hg hg' => ?_⟩, k⟩
  · rcases e with e | e
    · exact h.qp hq e.symm
    · exact h.gp hq e rfl
  · rcases e with e | e
    · exact h.qb hq e.symm
    · exact h.gb hq e rfl
  · by_cases e : t = s
    · simp [e] at ht
    · exact h.gone t (by simpa [e] using ht)
  · by_cases e : t = s
    · subst e
      simp at hy; subst hy
      refine ⟨q, hq, by simpa using M1, ?_⟩
      have : Lst (w1.setCell ⟨q, 3, none⟩ v') 0 v' l' := hv.fr k1 (fun g hg e => by
        obtain ⟨cur, hc⟩ := hv.blk hg
        rw [e] at hc; rw [hm1] at hc; cases hc)
      simpa using this
    · obtain ⟨q', h1, h2, h3⟩ := h.mem t y (by simpa [e] using hy)
      refine ⟨q', h1, ?_, ?_⟩
      · simp only [if_neg e]
        exact h2.fr k (fun e2 => by
          rcases e2 with e2 | e2
          · exact e (h.inj t s q (e2 ▸ h1) hq)
          · exact h.gq hq e2 h1 rfl)
      · simp only [if_neg e]
        exact h3.fr k (fun g hg e2 => by
          rcases e2 with e2 | e2
          · exact h.gq h1 hg hq e2
          · exact e (h.vinj t s g (by rw [h1]; simp) (by rw [hq]; simp) hg e2))
  · by_cases e : t = s
    · by_cases e' : t' = s
      · rw [e, e']
      · simp only [if_pos e] at hg
        simp only [if_neg e'] at hg'
        cases hk : K t' with
        | none => exact absurd hk ht'
        | some q' => exact (hvb t' q' g e' hk hg' hg).elim
    · by_cases e' : t' = s
      · simp only [if_neg e] at hg
        simp only [if_pos e'] at hg'
        cases hk : K t with
        | none => exact absurd hk ht
        | some q' => exact (hvb t q' g e hk hg hg').elim
      · simp only [if_neg e] at hg
        simp only [if_neg e'] at hg'
        exact h.vinj t t' g ht ht' hg hg'
/-- A member is laid in that was just made. -/
theorem TA.put {w w1 w2 : World} {p b n q : Nat} {K : Int × Int → Option Nat} {V : Int × Int → Value} {P : Vw} (h : TA w p b n K V P) {s : Int × Int} (hs : P s = none) {o : Option (Int × Int)} (g1 : w.grownBy w1 none) (hm : MemAt w1 q o (.slice none 0 0)) (hq : w.heap.size ≤ q)
    (g2 : w1.grownBy w2 (some b)) (hk : KMap w2 b (n + 1) (fun j => if j = s then some q else K j)) :
    TA w2 p b (n + 1) (fun j => if j = s then some q else K j) (fun t => if t = s then .slice none 0 0 else V t) (fun t => if t = s then some (o, []) else P t) ∧ Fr (fun i => i = b) w w2 := by
  have k2 : Fr (fun i => i = b) w1 w2 := Fr.at g2 rfl
  have k : Fr (fun i => i = b) w w2 := (Fr.grown g1).trans k2
  have hlt : ∀ t q', K t = some q' → q' < w.heap.size := fun t q' hq' => by obtain ⟨y, _, hm, _⟩ := h.has hq'; exact hm.lt
  have hbl := h.map.lt
  refine ⟨⟨(k.block p h.plt h.pb).trans h.box, hk, fun t ht => ?_, fun t y hy => ?_, fun t t' r ht ht' => ?_, fun t t' g ht ht' hg hg' => ?_⟩, k⟩
  · by_cases e : t = s
    · simp [e] at ht
    · simp only [if_neg e] at ht ⊢; exact h.gone t ht
  · by_cases e : t = s
    · subst e
      simp at hy; subst hy
      refine ⟨q, by simp, ?_, ?_⟩
      · simpa using hm.fr k2 (by omega)
      · simpa using Lst.nil w2 0
    · obtain ⟨q', h1, h2, h3⟩ := h.mem t y (by simpa [e] using hy)
      refine ⟨q', by simpa [e] using h1, ?_, ?_⟩
      · simp only [if_neg e]; exact h2.fr k (h.qb h1)
      · simp only [if_neg e]; exact h3.fr k (fun g hg => h.gb h1 hg)
  · by_cases e : t = s
    · by_cases e' : t' = s
      · rw [e, e']
      · simp only [if_pos e] at ht
        simp only [if_neg e'] at ht'
        have := hlt t' r ht'
        cases ht; omega
    · by_cases e' : t' = s
      · simp only [if_neg e] at ht
        simp only [if_pos e'] at ht'
        have := hlt t r ht
        cases ht'; omega
      · simp only [if_neg e] at ht
        simp only [if_neg e'] at ht'
        exact h.inj t t' r ht ht'
  · by_cases e : t = s
    · simp only [if_pos e] at hg; cases hg
    · by_cases e' : t' = s
      · simp only [if_pos e'] at hg'; cases hg'
      · simp only [if_neg e] at hg ht
        simp only [if_neg e'] at hg' ht'
        exact h.vinj t t' g ht ht' hg hg'
/-- A member is laid in under another name, which it had no longer. -/
theorem TA.back {w w2 : World} {p b n q : Nat} {K : Int × Int → Option Nat} {V : Int × Int → Value} {P : Vw} (h : TA w p b n K V P) {s : Int × Int} (hs : P s = none) {y : Option (Int × Int) × List (Int × Int)} {v : Value} (hm : MemAt w q y.1 v) (hl : Lst w 0 v y.2) (hq : ∀ t, K t ≠ some q) (hg : ∀ t q' g, K t = some q' → (V t).ownBlock = some g → v.ownBlock ≠ some g)
    (g2 : w.grownBy w2 (some b)) (hk : KMap w2 b (n + 1) (fun j => if j = s then some q else K j)) :
    TA w2 p b (n + 1) (fun j => if j = s then some q else K j) (fun t => if t = s then v else V t) (fun t => if t = s then some y else P t) ∧ Fr (fun i => i = b) w w2 := by
  have k : Fr (fun i => i = b) w w2 := Fr.at g2 rfl
  have hqb : q ≠ b := by
    rintro rfl
    obtain ⟨D, ⟨es, clock, hb, _⟩, _⟩ := h.map
    rw [hm] at hb; cases hb
  have hgb : ∀ g, v.ownBlock = some g → g ≠ b := by
    rintro g hg rfl
    obtain ⟨D, ⟨es, clock, hb, _⟩, _⟩ := h.map
    obtain ⟨cur, hc⟩ := hl.blk hg
    rw [hc] at hb; cases hb
  refine ⟨⟨(k.block p h.plt h.pb).trans h.box, hk, fun t ht => ?_, fun t y' hy => ?_, fun t t' r ht ht' => ?_, fun t t' g ht ht' hg1 hg2 => ?_⟩, k⟩
  · by_cases e : t = s
    · simp [e] at ht
    · simp only [if_neg e] at ht ⊢; exact h.gone t ht
  · by_cases e : t = s
    · subst e
      simp at hy; subst hy
      refine ⟨q, by simp, ?_, ?_⟩
      · simpa using hm.fr k hqb
      · simpa using hl.fr k hgb
    · obtain ⟨q', h1, h2, h3⟩ := h.mem t y' (by simpa [e] using hy)
      refine ⟨q', by simpa [e] using h1, ?_, ?_⟩
      · simp only [if_neg e]; exact h2.fr k (h.qb h1)
      · simp only [if_neg e]; exact h3.fr k (fun g hg => h.gb h1 hg)
  · by_cases e : t = s
    · by_cases e' : t' = s
      · rw [e, e']
      · simp only [if_pos e] at ht
        simp only [if_neg e'] at ht'
        cases ht; exact absurd ht' (hq t')
    · by_cases e' : t' = s
      · simp only [if_neg e] at ht
        simp only [if_pos e'] at ht'
        cases ht'; exact absurd ht (hq t)
      · simp only [if_neg e] at ht
        simp only [if_neg e'] at ht'
        exact h.inj t t' r ht ht'
  · by_cases e : t = s
    · by_cases e' : t' = s
      · rw [e, e']
      · simp only [if_pos e] at hg1
        simp only [if_neg e'] at hg2 ht'
        cases hk : K t' with
        | none => exact absurd hk ht'
        | some q' => exact absurd hg1 (hg t' q' g hk hg2)
    · by_cases e' : t' = s
      · simp only [if_neg e] at hg1 ht
        simp only [if_pos e'] at hg2
        cases hk : K t with
        | none => exact absurd hk ht
        | some q' => exact absurd hg2 (hg t q' g hk hg1)
      · simp only [if_neg e] at hg1 ht
        simp only [if_neg e'] at hg2 ht'
        exact h.vinj t t' g ht ht' hg1 hg2
/-- A member is taken out. -/
theorem TA.del {w w2 : World} {p b n m : Nat} {K : Int × Int → Option Nat} {V : Int × Int → Value} {P : Vw} (h : TA w p b n K V P) {s : Int × Int} (g2 : w.grownBy w2 (some b)) (hk : KMap w2 b m (fun j => if j = s then none else K j)) :
    TA w2 p b m (fun j => if j = s then none else K j) V (fun t => if t = s then none else P t) ∧ Fr (fun i => i = b) w w2 := by
  have k : Fr (fun i => i = b) w w2 := Fr.at g2 rfl
  refine ⟨⟨(k.block p h.plt h.pb).trans h.box, hk, fun t ht => ?_, fun t y hy => ?_, fun t t' r ht ht' => ?_, fun t t' g ht ht' hg hg' => ?_⟩, k⟩
  · by_cases e : t = s
    · simp [e]
    · simp only [if_neg e] at ht ⊢; exact h.gone t ht
  · by_cases e : t = s
    · simp [e] at hy
    · obtain ⟨q', h1, h2, h3⟩ := h.mem t y (by simpa [e] using hy)
      exact ⟨q', by simpa [e] using h1, h2.fr k (h.qb h1), h3.fr k (fun g hg => h.gb h1 hg)⟩
  · by_cases e : t = s
    · simp [e] at ht
    · by_cases e' : t' = s
      · simp [e'] at ht'
      · simp only [if_neg e] at ht
        simp only [if_neg e'] at ht'
        exact h.inj t t' r ht ht'
  · by_cases e : t = s
    · simp [e] at ht
    · by_cases e' : t' = s
      · simp [e'] at ht'
      · simp only [if_neg e] at ht
        simp only [if_neg e'] at ht'
        exact h.vinj t t' g ht ht' hg hg'
theorem TA.congr {w : World} {p b n m : Nat} {K : Int × Int → Option Nat} {V : Int × Int → Value} {P Q : Vw} (h : TA w p b n K V P) (e : ∀ s, P s = Q s) (hn : n = m) : TA w p b m K V Q := by
  have : P = Q := funext e
  subst this hn; exact h

/-- A tree whose blocks are among O. -/
def TAt (w : World) (p : Nat) (O : Nat → Prop) (f : Fo) : Prop :=
  ∃ b K V, TA w p b f.pre.length K V (f.view none) ∧ O p ∧ O b ∧ (∀ s q, K s = some q → O q) ∧ ∀ s q g, K s = some q → (V s).ownBlock = some g → O g
theorem TAt.fr {O O' : Nat → Prop} {w w' : World} {p : Nat} {f : Fo} (h : TAt w p O f) (k : Fr O' w w') (ho : ∀ i, O i → ¬ O' i) : TAt w' p O f := by
  obtain ⟨b, K, V, h1, h2, h3, h4, h5⟩ := h
  exact ⟨b, K, V, h1.fr k (ho _ h2) (ho _ h3) (fun s q hq => ho _ (h4 s q hq)) (fun s q g hq hg => ho _ (h5 s q g hq hg)), h2, h3, h4, h5⟩
theorem TAt.kept {O : Nat → Prop} {w w' : World} {p : Nat} {f : Fo} (h : TAt w p O f) (k : w.grownBy w' none) : TAt w' p O f := h.fr (O' := fun _ => False) (Fr.grown k) (fun _ _ e => e)
theorem TAt.mono {O O' : Nat → Prop} {w : World} {p : Nat} {f : Fo} (h : TAt w p O f) (ho : ∀ i, O i → O' i) : TAt w p O' f := by
  obtain ⟨b, K, V, h1, h2, h3, h4, h5⟩ := h
  exact ⟨b, K, V, h1, ho _ h2, ho _ h3, fun s q hq => ho _ (h4 s q hq), fun s q g hq hg => ho _ (h5 s q g hq hg)⟩

/-- What holds of a tree. -/
structure Good (f : Fo) : Prop where
  nd : f.pre.Nodup
  num : ∀ s ∈ f.pre, I64 s.1 ∧ I64 s.2
theorem Good.nil : Good .nil := ⟨by simp [Fo.pre], by simp [Fo.pre]⟩
/-- What was there, and what is new. -/
abbrev wide (O : Nat → Prop) (w w' : World) : Nat → Prop := fun i => O i ∨ (w.heap.size ≤ i ∧ i < w'.heap.size)

end T9
end Go.Proofs.YtdnoidnpiaadaaaGreat
