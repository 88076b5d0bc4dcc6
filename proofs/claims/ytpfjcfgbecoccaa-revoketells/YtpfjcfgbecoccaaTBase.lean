/-
  WORLDS THAT ONLY GROW, frames by the blocks that something owns, slots' names as values, in boxes, in lists and as keys of a map. Speaks of no function of the program.
-/
import Derived.Test.YtpfjcfgbecoccaaBase
import Derived.Test.YtpfjcfgbecoccaaMem
import Derived.Test.YtpfjcfgbecoccaaLists
import Derived.Test.YtpfjcfgbecoccaaFull
import Derived.WalkKit
import Derived.WalkSpells
import Derived.WalkLawsBesides
import Derived.Deep.OwnRows
import Derived.Deep.Draws
import Derived.Deep.QuietTactic
import Derived.BigQuiet
import Derived.Laws.StructEq
import Derived.Laws.AppendOwn
import Derived.Laws.OwnMore
import Derived.Maps.OwnSet
import Derived.Maps.OwnOps
import Derived.Maps.AppendAt
import Derived.Deep.MidRow
import Derived.Deep.Cut
import Derived.Deep.LoopGhost
import Derived.ChangeKeysEq
import Derived.DeepKeys4
import Derived.Test.YtpfjcfgbecoccaaRows
import Derived.Test.YtpfjcfgbecoccaaTPlain
namespace Go.Proofs.Ytpfjcfgbecoccaa
set_option maxRecDepth 10000
namespace T9
open Go.RowKit Go.Maps
set_option linter.unusedVariables false


/-! ### Worlds -/

/-! ### Regions that read, with calls that make memory -/



/-! ### Frames -/


/-! ### Slots' names -/

/-- Two slots' names held against one another. -/
def M.seq (a0 a1 b0 b1 : Int) : Bool := a0 == b0 && a1 == b1
theorem run_equal_slots (w : World) (a0 a1 b0 b1 : Int) : (Op.equalIn 10000 24 (.agg #[.int .i64 a0, .int .i64 a1]) (.agg #[.int .i64 b0, .int .i64 b1])).run Try.prog w = .ok (M.seq a0 a1 b0 b1) w := by
  rw [run_equalIn_agg w 9999 24 _ _ (by kernel_rfl) (by kernel_rfl)]
  simp only [go_sem, Program.fieldsOf, Try.underlying24]
  by_cases h0 : a0 = b0
  · by_cases h1 : a1 = b1
    all_goals simp [M.seq, go_sem, Try.underlying3, h0, h1]
  · simp [M.seq, go_sem, Try.underlying3, h0]
theorem run_eql_slots (w : World) (a0 a1 b0 b1 : Int) : (binOp .eql 24 (.agg #[.int .i64 a0, .int .i64 a1]) (.agg #[.int .i64 b0, .int .i64 b1])).run Try.prog w = .ok (.bool (M.seq a0 a1 b0 b1)) w := by
  rw [run_eql_struct, run_equal_slots]; rfl
theorem run_neq_slots (w : World) (a0 a1 b0 b1 : Int) : (binOp .neq 24 (.agg #[.int .i64 a0, .int .i64 a1]) (.agg #[.int .i64 b0, .int .i64 b1])).run Try.prog w = .ok (.bool (!M.seq a0 a1 b0 b1)) w := by
  rw [run_neq_struct, run_equal_slots]; rfl
theorem M.seq_refl (a b : Int) : M.seq a b a b = true := by simp [M.seq]
theorem M.seq_iff {a b c d : Int} : M.seq a b c d = true ↔ (a, b) = (c, d) := by simp [M.seq]
theorem M.seq_not {a b c d : Int} : M.seq a b c d = false ↔ (a, b) ≠ (c, d) := by rw [Ne, ← M.seq_iff]; cases M.seq a b c d <;> simp
theorem eqGuardSlots : Try.prog.eqGuardType Try.prog.depth 24 = false := by kernel_rfl

/-! ### Lists of slots -/







theorem cellsL_set (L : List (Int × Int)) (j : Nat) (A B : Int) : ((cellsL L).set (j * 2) (.int .i64 A)).set (j * 2 + 1) (.int .i64 B) = cellsL (L.set j (A, B)) := by
  induction L generalizing j with
  | nil => simp [cellsL]
  | cons q L ih =>
    cases j with
    | zero => simp [cellsL_cons]
    | succ j =>
      rw [show (j + 1) * 2 = j * 2 + 1 + 1 by omega]
      simp only [List.set_cons_succ, cellsL_cons]
      rw [ih]

theorem _root_.Go.Proofs.Ytpfjcfgbecoccaa.Lst.store {w : World} {B g n cap : Nat} {L : List (Int × Int)} (h : Lst w B (.slice (some ⟨g, 0, none⟩) n cap) L) (hn : L.length = n) (j : Nat) (A D : Int) :
    Lst ((w.setCell ⟨g, j * 2, none⟩ (.int .i64 A)).setCell ⟨g, j * 2 + 1, none⟩ (.int .i64 D)) B (.slice (some ⟨g, 0, none⟩) n cap) (L.set j (A, D)) := by
  subst hn
  unfold Lst at *
  have h1 := (World.ownsRow.stored h (j * 2) (.int .i64 A)).1
  have h2 := (World.ownsRow.stored h1 (j * 2 + 1) (.int .i64 D)).1
  rw [cellsL_set] at h2
  rw [List.length_set]; exact h2
/-- The cells of an element of a list of the call's own. -/
theorem _root_.Go.Proofs.Ytpfjcfgbecoccaa.Lst.el {w : World} {B g n cap : Nat} {L : List (Int × Int)} (h : Lst w B (.slice (some ⟨g, 0, none⟩) n cap) L) (hn : L.length = n) (j : Nat) (p : Int × Int) (hj : L[j]? = some p) :
    w.cell? ⟨g, j * 2, none⟩ = some (.int .i64 p.1) ∧ w.cell? ⟨g, j * 2 + 1, none⟩ = some (.int .i64 p.2) ∧ w.frozen? ⟨g, j * 2, none⟩ = false ∧ w.frozen? ⟨g, j * 2 + 1, none⟩ = false := by
  subst hn
  unfold Lst at h
  have hlt : j < L.length := (List.getElem?_eq_some_iff.1 hj).1
  obtain ⟨h1, h2⟩ := cellsL_get L j p hj
  exact ⟨(World.ownsRow.cellAt h _ (by omega)).trans h1, (World.ownsRow.cellAt h _ (by omega)).trans h2, World.ownsRow.frozenAt h _, World.ownsRow.frozenAt h _⟩


/-- append of one slot's name, and where the list lies then. -/
theorem wpList_append_slot_at {w : World} {ops : Array Oper} {rest : List Oper} {o : Oper} {a : Act} {Q : Exit → Act → World → Prop} (hgd : o.guard = none) (s x : Operand)
    (ho : o.op = .call { callee := .builtin .append, args := #[s, x], argTypes := #[29, 29] })
    (B : Nat) (v : Value) (L : List (Int × Int)) (hs : a.eval s = v) (hown : Lst w B v L)
    (ad : Addr) (m c : Nat) (K : List (Int × Int)) (hx : a.eval x = .slice (some ad) m c) (hm : K.length = m) (hnews : Row w ad K)
    (hn : L.length + m ≤ 1000000) (hB : B ≤ w.heap.size)
    (h : ∀ v' w', Lst w' B v' (L ++ K) → w.grownBy w' v.ownBlock → (v'.ownBlock = v.ownBlock ∨ v'.ownBlock = some w.heap.size) → wpList Try.prog ops Q rest (a.put o.dst v') w') : wpList Try.prog ops Q (o :: rest) a w := by
  obtain ⟨i, hi, hx0⟩ := Option.map_eq_some_iff.1 Try.infoSlot
  simp only [Prod.mk.injEq] at hx0
  obtain ⟨hz0, hz1, hz2⟩ := hx0
  refine wpList_append_own_at w hgd s x 29 ho B 24 i (.agg #[.int .i64 0, .int .i64 0]) 2 16 Try.underlying29 hi hz0 hz1 hz2 (by kernel_rfl) (by decide) v L.length (cellsL L) hs hown ad m c (cellsL K) hx (by rw [cellsL_len, hm]) hnews.cells (cellsL_one K) (by unfold maxLen; omega) (by omega) hB ?_
  intro v' w' h2 h3 _ h5
  refine h v' w' ?_ h3 h5
  unfold Lst
  rw [← cellsL_app, List.length_append, hm]
  exact h2



theorem Try.laidOut7 : laidOutB Try.prog = true := by kernel_rfl
theorem Try.keySlot : Keyed Try.prog 24 := Keyed.of_law (deep_law_laid Try.laidOut7 (m := 2) (by omega) (of_decide_eq_true (by kernel_rfl)) (by kernel_rfl) (by kernel_rfl))

/-- A slot's name as a key. -/
def kl (n i : Int) : Lit := .string (keyBytes [.int .i64 n, .int .i64 i])
theorem keyLits_one {P : Program} {e : TypeId} (he : P.underlying e = some (.int .i64)) (d : Nat) (n : Int) (hn : (Lit.int IntKind.i64 n).wf = true) : P.keyLits (d + 1) e [.int .i64 n] = some [.int .i64 n] := by
  simp [Program.keyLits, he, hn]
theorem keyLits_two {P : Program} {k e : TypeId} (f0 f1 : Field) (hu : P.underlying k = some (.struct #[f0, f1])) (t0 : f0.type = e) (t1 : f1.type = e) (o0 : f0.offset = 0) (o1 : f1.offset = 1) (hnm : (#[f0, f1] : Array Field).all (·.name != "_") = true)
    (hc : P.cellsOf k = 2) (he : P.underlying e = some (.int .i64)) (hce : P.cellsOf e = 1) (d : Nat) (n i : Int) (hn : (Lit.int IntKind.i64 n).wf = true) (hi : (Lit.int IntKind.i64 i).wf = true) :
    P.keyLits (d + 1 + 1) k [.int .i64 n, .int .i64 i] = some [.int .i64 n, .int .i64 i] := by
  have e0 := keyLits_one he d n hn
  have e1 := keyLits_one he d i hi
  unfold Program.keyLits
  rw [hu]
  dsimp only
  rw [if_pos ⟨by rw [hc]; rfl, hnm⟩]
  simp [t0, t1, o0, o1, hce, e0, e1]
theorem keyOf_slot {n i : Int} (hn : I64 n) (hi : I64 i) : keyOf Try.prog 24 (sv n i) = some (kl n i) := by
  have h1 : Try.prog.keyType 24 = true := by kernel_rfl
  have h2 : Try.prog.cellsOf 24 = 2 := by kernel_rfl
  have h3 : Try.prog.cellsOf 3 = 1 := by kernel_rfl
  obtain ⟨m, hm⟩ : ∃ m, Try.prog.types.size + 1 = m + 1 + 1 := ⟨Try.prog.types.size - 1, by have : 1 ≤ Try.prog.types.size := of_decide_eq_true (by kernel_rfl); omega⟩
  have hk := keyLits_two _ _ Try.underlying24 rfl rfl rfl rfl (by decide +kernel) h2 Try.underlying3 h3 m n i hn hi
  have hf : (sv n i).formed Try.prog 24 = true := by simp [Value.formed, Try.underlying24, h2]
  unfold keyOf
  rw [Try.underlying24]
  simp only [h1, hf, Bool.and_self, if_true, hm]
  show (Try.prog.keyLits (m + 1 + 1) 24 [.int .i64 n, .int .i64 i]).map _ = _
  rw [hk]
  rfl
theorem kl_inj {n i n' i' : Int} (hn : I64 n) (hi : I64 i) (hn' : I64 n') (hi' : I64 i') (h : kl n i = kl n' i') : n = n' ∧ i = i' := by
  have := Try.keySlot.inj (keyOf_slot hn hi) (h ▸ keyOf_slot hn' hi')
  simpa [sv] using this
theorem kl_key {n i : Int} (hn : I64 n) (hi : I64 i) : WideAt.IsKeyLit (kl n i) := Try.keySlot.key (keyOf_slot hn hi)


/-! ### A map from slots' names to pointers -/
def KMap (w : World) (b n : Nat) (K : Int × Int → Option Nat) : Prop :=
  ∃ D : DataW Unit, w.ownsMap Try.prog 24 ptrElem b n D ∧ Maps.size D = n ∧ ∀ s : Int × Int, I64 s.1 → I64 s.2 → D.atKey (kl s.1 s.2) .nil = ptrD (K s) ∧ Maps.has D (kl s.1 s.2) = (K s).isSome

theorem KMap.lt {w : World} {b n : Nat} {K : Int × Int → Option Nat} (h : KMap w b n K) : b < w.heap.size := by obtain ⟨D, h, _⟩ := h; exact h.lt
theorem KMap.fr {O : Nat → Prop} {w w' : World} {b n : Nat} {K : Int × Int → Option Nat} (h : KMap w b n K) (k : Fr O w w') (ho : ¬ O b) : KMap w' b n K := by
  have hlt := h.lt
  obtain ⟨D, ⟨es, clock, hb, F, hs, hD⟩, h2⟩ := h
  exact ⟨D, ⟨es, clock, (k.block b hlt ho).trans hb, F, hs, hD⟩, h2⟩
theorem KMap.made (w : World) : KMap (w.alloc (.map #[] 0)) w.heap.size 0 (fun _ => none) := ⟨.map [], World.ownsMap_made _ _ _ _, rfl, fun _ _ _ => ⟨rfl, rfl⟩⟩

theorem zeroPtr (w : World) : (zeroValue 103).run Try.prog w = .ok (.pointer none) w := by kernel_rfl

theorem KMap.look {w : World} {b n : Nat} {K : Int × Int → Option Nat} (h : KMap w b n K) (s t : Int) (hs : I64 s) (ht : I64 t) :
    (Instr.lookup 98 (.map (some b)) (sv s t) false).run Try.prog w = .ok (ptr (K (s, t))) w := by
  obtain ⟨D, h1, _, h2⟩ := h
  obtain ⟨v, ps, hr, hv⟩ := h1.lookup Try.keySlot Try.underlying98 (zeroPtr w) (zd := .nil) (zp := []) rfl (keyOf_slot hs ht)
  rw [(h2 (s, t) hs ht).1] at hv
  rw [hr, ptrElem_inv hv]
theorem KMap.len {w : World} {b n : Nat} {K : Int × Int → Option Nat} (h : KMap w b n K) (ty : TypeId) : (Builtin.len_ #[98] ty #[.map (some b)]).run Try.prog w = .ok (.int .i64 n) w := by
  obtain ⟨D, h1, h3, h2⟩ := h
  rw [h1.len Try.underlying98 ty, h3]

theorem KMap.put {w : World} {b n : Nat} {K : Int × Int → Option Nat} (h : KMap w b n K) (s t : Int) (q : Nat) (hs : I64 s) (ht : I64 t) (hn : n ≤ 1000) (hK : K (s, t) = none) :
    ∃ w', (Instr.mapUpdate 98 (.map (some b)) (sv s t) (.pointer (some ⟨q, 0, none⟩))).run Try.prog w = .ok () w' ∧ KMap w' b (n + 1) (fun j => if j = (s, t) then some q else K j) ∧ w.grownBy w' (some b) := by
  obtain ⟨D, h1, h3, h2⟩ := h
  obtain ⟨w', hr, ho, hg⟩ := h1.update Try.keySlot Try.underlying98 (by unfold maxLen; omega) (d := .lit (.int .i64 q)) (ps := []) (val := .pointer (some ⟨q, 0, none⟩)) (keyOf_slot hs ht) rfl
  refine ⟨w', hr, ⟨_, ho, ?_, fun j hj hj' => ?_⟩, hg⟩
  · rw [size_put (h1.tidy Try.keySlot), (h2 (s, t) hs ht).2, hK, h3]; rfl
  · show _ = ptrD (if j = (s, t) then some q else K j) ∧ _ = (if j = (s, t) then some q else K j).isSome
    by_cases e : j = (s, t)
    · subst e
      rw [if_pos rfl, atKey_put_same h1.isMap (kl_key hs ht), has_put_same h1.isMap (kl_key hs ht)]; exact ⟨rfl, rfl⟩
    · have hne : kl j.1 j.2 ≠ kl s t := fun x => e (by obtain ⟨a, b⟩ := kl_inj hj hj' hs ht x; obtain ⟨j1, j2⟩ := j; simp at a b; rw [a, b])
      rw [if_neg e, atKey_put_other hne, has_put_other hne]
      exact h2 j hj hj'

theorem KMap.del {w : World} {b n : Nat} {K : Int × Int → Option Nat} (h : KMap w b (n + 1) K) (s t : Int) (hs : I64 s) (ht : I64 t) (ty : TypeId) (hK : K (s, t) ≠ none) :
    ∃ w', (Builtin.delete_ #[98, 24] ty #[.map (some b), sv s t]).run Try.prog w = .ok (.tuple #[]) w' ∧ KMap w' b n (fun j => if j = (s, t) then none else K j) ∧ w.grownBy w' (some b) := by
  obtain ⟨D, h1, h3, h2⟩ := h
  obtain ⟨w', hr, ho, hg⟩ := h1.drop Try.keySlot Try.underlying98 (keyOf_slot hs ht) ty
  have hsz : Maps.size (D.del (kl s t)) = n := by
    have := size_del (k := kl s t) (h1.tidy Try.keySlot)
    rw [(h2 (s, t) hs ht).2, h3] at this
    cases hk : K (s, t) with
    | none => exact absurd hk hK
    | some q => rw [hk] at this; simpa using this
  refine ⟨w', hr, ⟨_, ?_, hsz, fun j hj hj' => ?_⟩, hg.grown⟩
  · obtain ⟨es, clock, hb, F, hs, hD⟩ := ho
    refine ⟨es, clock, hb, F, ?_, hD⟩
    rw [hD] at hsz
    simpa [Maps.size, length_sorted] using Nat.le_of_eq hsz
  · show _ = ptrD (if j = (s, t) then none else K j) ∧ _ = (if j = (s, t) then none else K j).isSome
    by_cases e : j = (s, t)
    · subst e
      rw [if_pos rfl, atKey_del_same, has_del_same]; exact ⟨rfl, rfl⟩
    · have hne : kl j.1 j.2 ≠ kl s t := fun x => e (by obtain ⟨a, b⟩ := kl_inj hj hj' hs ht x; obtain ⟨j1, j2⟩ := j; simp at a b; rw [a, b])
      rw [if_neg e, atKey_del_other hne, has_del_other hne]
      exact h2 j hj hj'

end T9
end Go.Proofs.Ytpfjcfgbecoccaa
