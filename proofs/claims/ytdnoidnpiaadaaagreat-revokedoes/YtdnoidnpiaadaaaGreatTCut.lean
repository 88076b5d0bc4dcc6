/-
  WHAT slices.Replace IS MADE OF, at slots' names: rows known whole, copy, clear, append onto a cut row, what overlaps tells.
-/
import Derived.Test.YtdnoidnpiaadaaaGreatTRev
import Derived.Laws.CopyOwn
import Derived.Lib.Overlaps
import Derived.Lib.AppendZerosOnto
namespace Go.Proofs.YtdnoidnpiaadaaaGreat
set_option maxRecDepth 10000
namespace T9
open Go.RowKit
set_option linter.unusedVariables false

theorem cellsL_take : ∀ (L : List (Int × Int)) (i : Nat), cellsL (L.take i) = (cellsL L).take (i * 2)
  | [], i => by simp [cellsL]
  | p :: L, 0 => by simp [cellsL]
  | p :: L, i + 1 => by rw [List.take_succ_cons, cellsL_cons, cellsL_cons, show (i + 1) * 2 = i * 2 + 1 + 1 by omega, List.take_succ_cons, List.take_succ_cons, cellsL_take L i]
theorem cellsL_drop : ∀ (L : List (Int × Int)) (i : Nat), cellsL (L.drop i) = (cellsL L).drop (i * 2)
  | [], i => by simp [cellsL]
  | p :: L, 0 => by simp
  | p :: L, i + 1 => by rw [List.drop_succ_cons, cellsL_cons, show (i + 1) * 2 = i * 2 + 1 + 1 by omega, List.drop_succ_cons, List.drop_succ_cons, cellsL_drop L i]
theorem _root_.Go.Proofs.YtdnoidnpiaadaaaGreat.Lst.cutTo {w : World} {B g n cap : Nat} {L : List (Int × Int)} (h : Lst w B (.slice (some ⟨g, 0, none⟩) n cap) L) (hn : L.length = n) (i : Nat) (hi : i ≤ n) : Lst w B (.slice (some ⟨g, 0, none⟩) i cap) (L.take i) := by
  obtain ⟨h1, h2⟩ := h
  rcases h2 with ⟨e, _⟩ | ⟨g', cap', cur, e, hb, hg, hc, hm, hs, ht⟩
  · cases e
  · cases e
    have hl : (L.take i).length = i := by rw [List.length_take]; omega
    refine ⟨by rw [cellsL_len], .inr ⟨g, cap, cur, by rw [hl], hb, hg, by rw [hl]; omega, hm, hs, ?_⟩⟩
    rw [hl]
    have e2 := cellsL_take L i
    rw [e2, ← ht, List.take_take, Nat.min_eq_left (by omega)]

/-! ### A row that is known whole -/
theorem _root_.Go.Proofs.YtdnoidnpiaadaaaGreat.Lst.open {w : World} {B g n cap : Nat} {L : List (Int × Int)} (h : Lst w B (.slice (some ⟨g, 0, none⟩) n cap) L) (hn : L.length = n) :
    ∃ cur : List Value, w.heap[g]? = some (.cells cur.toArray 31 (0, 0)) ∧ cur.length = cap * 2 ∧ cap ≤ maxLen ∧ cur.take (n * 2) = cellsL L ∧ B ≤ g ∧ n ≤ cap := by
  obtain ⟨h1, h2⟩ := h
  rcases h2 with ⟨e, _⟩ | ⟨g', cap', cur, e, hb, hg, hc, hm, hs, ht⟩
  · cases e
  · cases e
    exact ⟨cur.toList, by simpa using hg, by simpa using hs, hm, ht, hb, hc⟩
theorem _root_.Go.Proofs.YtdnoidnpiaadaaaGreat.Lst.of {w : World} {B g n cap : Nat} {L : List (Int × Int)} {cur : List Value} (hB : B ≤ g) (hg : w.heap[g]? = some (.cells cur.toArray 31 (0, 0))) (hc : cur.length = cap * 2) (hm : cap ≤ maxLen) (hn : n ≤ cap) (hL : L.length = n) (ht : cur.take (n * 2) = cellsL L) : Lst w B (.slice (some ⟨g, 0, none⟩) n cap) L := by
  subst hL
  exact ⟨cellsL_len L, .inr ⟨g, cap, cur.toArray, rfl, hB, hg, hn, hm, by simpa using hc, by simpa using ht⟩⟩
theorem _root_.Go.Proofs.YtdnoidnpiaadaaaGreat.Lst.rowOf {w : World} {B g n cap : Nat} {L : List (Int × Int)} (h : Lst w B (.slice (some ⟨g, 0, none⟩) n cap) L) : Row w ⟨g, 0, none⟩ L := Row.ofCells (World.ownsRow.cells h rfl)
theorem blkCell {w : World} {g : Nat} {cur : List Value} {t : TypeId} (h : w.heap[g]? = some (.cells cur.toArray t (0, 0))) (j : Nat) : w.cell? ⟨g, j, none⟩ = cur[j]? := by simp [World.cell?, h]
theorem _root_.Go.Proofs.YtdnoidnpiaadaaaGreat.Lst.shape {w : World} {B k : Nat} {v : Value} {L : List (Int × Int)} (h : Lst w B v L) (hl : L.length = k) (hk : 0 < k) : ∃ g cap, v = .slice (some ⟨g, 0, none⟩) k cap := by
  rcases h.form with ⟨_, rfl⟩ | ⟨g, cap, rfl, _⟩
  · simp at hl; omega
  · exact ⟨g, cap, by rw [hl]⟩

theorem take_splice {α : Type} (L : List α) (off : Nat) (cs : List α) (h : off + cs.length ≤ L.length) : (splice L off cs).take (off + cs.length) = L.take off ++ cs := by
  unfold splice
  rw [← List.append_assoc, List.take_append_of_le_length (by simp; omega), List.take_of_length_le (by simp; omega)]
theorem take_splice' {α : Type} (L : List α) (off : Nat) (cs : List α) (h : off ≤ L.length) : (splice L off cs).take off = L.take off := by
  unfold splice
  rw [List.take_append_of_le_length (by simp; omega), List.take_take, Nat.min_self]
theorem drop_splice {α : Type} (L : List α) (off : Nat) (cs : List α) (h : off + cs.length ≤ L.length) : (splice L off cs).drop (off + cs.length) = L.drop (off + cs.length) := by
  unfold splice
  rw [← List.append_assoc, List.drop_append, List.drop_eq_nil_of_le (by simp; omega)]
  simp
  congr 1
  omega
/-- First the new, then what lies behind it. -/
theorem splice_a {α : Type} (C K Z : List α) (x : Nat) (h : x + K.length + Z.length ≤ C.length) : (splice (splice C x K) (x + K.length) Z).take (x + K.length + Z.length) = C.take x ++ (K ++ Z) := by
  rw [take_splice _ _ _ (by rw [length_splice _ _ _ (by omega)]; omega), take_splice _ _ _ (by omega), List.append_assoc]
/-- First what lies behind it, then the new. -/
theorem splice_b {α : Type} (C K Z : List α) (x : Nat) (h : x + K.length + Z.length ≤ C.length) : (splice (splice C (x + K.length) Z) x K).take (x + K.length + Z.length) = C.take x ++ (K ++ Z) := by
  have h1 : (splice C (x + K.length) Z).length = C.length := length_splice _ _ _ (by omega)
  have h2 := take_splice C (x + K.length) Z (by omega)
  generalize splice C (x + K.length) Z = D at h1 h2
  have e1 : D.take x = C.take x := by
    have := congrArg (List.take x) h2
    rw [List.take_take, Nat.min_eq_left (by omega)] at this
    rw [this, List.take_append_of_le_length (by simp; omega), List.take_take, Nat.min_eq_left (by omega)]
  have e2 : (D.drop (x + K.length)).take Z.length = Z := by
    have := congrArg (List.drop (x + K.length)) h2
    rw [List.drop_take] at this
    rw [show x + K.length + Z.length - (x + K.length) = Z.length by omega] at this
    rw [this, List.drop_append, List.drop_eq_nil_of_le (by simp; omega)]
    simp
    rw [show x + K.length - min (x + K.length) C.length = 0 by omega]
    rfl
  unfold splice
  rw [e1, ← List.append_assoc, List.take_append, List.take_of_length_le (by simp; omega)]
  rw [show x + K.length + Z.length - (List.take x C ++ K).length = Z.length by simp; omega, e2, List.append_assoc]

/-! ### copy, clear -/
theorem run_copy2 (w : World) (ty : TypeId) (g o dLen dCap : Nat) (a : Addr) (sLen sCap : Nat) (cur cs : List Value) (hg : w.heap[g]? = some (.cells cur.toArray 31 (0, 0))) (hn : cs.length = Nat.min sLen dLen * 2)
    (hsrc : ∀ j v, cs[j]? = some v → w.cell? (a.add j) = some v) (hfit : o + cs.length ≤ cur.length) (h1 : ∀ v ∈ cs, v.oneCell' = true) :
    (Builtin.copy_ #[51, 51] ty #[.slice (some ⟨g, o, none⟩) dLen dCap, .slice (some a) sLen sCap]).run Tryz.prog w = .ok (goInt (Nat.min sLen dLen)) (w.setRow g (splice cur o cs).toArray) := by
  have hl := run_loadCells_list (P := Tryz.prog) w a cs hsrc
  have hst := run_storeCells_at Tryz.prog g o 31 cs 0 cur.toArray w hg (by simpa using hfit) h1
  obtain ⟨i, hi, hx0⟩ := Option.map_eq_some_iff.1 Tryz.infoSlot
  simp only [Prod.mk.injEq] at hx0
  obtain ⟨hz0, hz1, hz2⟩ := hx0
  simp [Builtin.copy_, run_underlying Tryz.underlying51, Builtin.lenOf, Builtin.firstCells, sizeOf, typeInfo, hi, hz1, ← hn, hl, hst, splice]
theorem run_copy2_none (w : World) (ty : TypeId) (dp sp : Option Addr) (dLen dCap sLen sCap : Nat) (hn : Nat.min sLen dLen = 0) :
    (Builtin.copy_ #[51, 51] ty #[.slice dp dLen dCap, .slice sp sLen sCap]).run Tryz.prog w = .ok (goInt (Nat.min sLen dLen)) w := by
  obtain ⟨i, hi, hx0⟩ := Option.map_eq_some_iff.1 Tryz.infoSlot
  cases sp <;> cases dp <;> simp [Builtin.copy_, run_underlying Tryz.underlying51, Builtin.lenOf, Builtin.firstCells, sizeOf, typeInfo, hi, hn, loadCells, loadCellsFrom, storeCells]
theorem copied2 (w : World) (ty : TypeId) (dp sp : Option Addr) (dLen dCap sLen sCap : Nat) (g off : Nat) (cur : List Value) (hg : w.heap[g]? = some (.cells cur.toArray 31 (0, 0))) (cs : List Value) (hn : cs.length = Nat.min sLen dLen * 2)
    (hpos : 0 < cs.length → dp = some ⟨g, off, none⟩ ∧ ∃ ad, sp = some ad ∧ ∀ j v, cs[j]? = some v → w.cell? (ad.add j) = some v) (hfit : off + cs.length ≤ cur.length) (h1 : ∀ v ∈ cs, v.oneCell' = true) :
    ∃ w', (Builtin.copy_ #[51, 51] ty #[.slice dp dLen dCap, .slice sp sLen sCap]).run Tryz.prog w = .ok (goInt (Nat.min sLen dLen)) w' ∧ w'.heap[g]? = some (.cells (splice cur off cs).toArray 31 (0, 0)) ∧ w.grownBy w' (some g) := by
  by_cases h0 : cs.length = 0
  · obtain rfl : cs = [] := List.eq_nil_of_length_eq_zero h0
    refine ⟨w, run_copy2_none w ty dp sp dLen dCap sLen sCap (by rw [h0] at hn; omega), ?_, gbRefl _ _⟩
    simpa [splice] using hg
  · obtain ⟨rfl, ad, rfl, hsrc⟩ := hpos (by omega)
    exact ⟨_, run_copy2 w ty g off dLen dCap ad sLen sCap cur cs hg hn hsrc hfit h1, setRow_heap w g _ _ _ _ hg, ⟨rfl, rfl, rfl, by simp [World.setRow], fun k _ hk => setRow_other w g k _ (fun e => hk (by rw [e]))⟩⟩
theorem clear1_run (w : World) (ty : TypeId) (g off c : Nat) (cur : List Value) (hg : w.heap[g]? = some (.cells cur.toArray 31 (0, 0))) (hfit : off + 2 ≤ cur.length) :
    ∃ w', (Builtin.clear_ #[51] ty #[.slice (some ⟨g, off, none⟩) 1 c]).run Tryz.prog w = .ok (.tuple #[]) w' ∧ Hid (w'.heap[g]? = some (.cells (splice cur off [.int .i64 0, .int .i64 0]).toArray 31 (0, 0))) ∧ w.grownBy w' (some g) := by
  have hst := run_storeCells_at Tryz.prog g off 31 [.int .i64 0, .int .i64 0] 0 cur.toArray w hg (by simpa using hfit) (by simp [Value.oneCell'])
  have hzc : (Builtin.zeroCells (Value.agg #[.int .i64 0, .int .i64 0]).cells 1).toList = [.int .i64 0, .int .i64 0] := by kernel_rfl
  have hr : (Builtin.clear_ #[51] ty #[.slice (some ⟨g, off, none⟩) 1 c]).run Tryz.prog w = .ok (.tuple #[]) (w.setRow g (splice cur off [.int .i64 0, .int .i64 0]).toArray) := by
    simp only [Nat.add_zero] at hst
    simp [Builtin.clear_, run_underlying Tryz.underlying51, hzc, hst, splice]
  exact ⟨_, hr, hideIt (setRow_heap w g _ _ _ _ hg), ⟨rfl, rfl, rfl, by simp [World.setRow], fun k _ hk => setRow_other w g k _ (fun e => hk (by rw [e]))⟩⟩
theorem clear0_run (w : World) (ty : TypeId) (p : Option Addr) (c : Nat) : (Builtin.clear_ #[51] ty #[.slice p 0 c]).run Tryz.prog w = .ok (.tuple #[]) w := by
  cases p <;> simp [Builtin.clear_, run_underlying Tryz.underlying51]
/-- append of nothing. -/
theorem wpList_append_zero {w : World} {ops : Array Oper} {rest : List Oper} {o : Oper} {a : Act} {Q : Exit → Act → World → Prop} (hgd : o.guard = none) (s x : Operand)
    (ho : o.op = .call { callee := .builtin .append, args := #[s, x], argTypes := #[51, 51] })
    (g i cap : Nat) (hic : i ≤ cap) (ox : Option Addr) (c : Nat) (hs : a.eval s = .slice (some ⟨g, 0, none⟩) i cap) (hx : a.eval x = .slice ox 0 c)
    (h : wpList Tryz.prog ops Q rest (a.put o.dst (.slice (some ⟨g, 0, none⟩) i cap)) w) : wpList Tryz.prog ops Q (o :: rest) a w := by
  refine wpList_plain hgd fun K' hK' => ?_
  obtain ⟨j, hj, hx0⟩ := Option.map_eq_some_iff.1 Tryz.infoSlot
  have hr : (Builtin.append_ #[51, 51] o.type #[.slice (some ⟨g, 0, none⟩) i cap, .slice ox 0 c]).run Tryz.prog w = .ok (.slice (some ⟨g, 0, none⟩) i cap) w := by
    cases ox <;> simp [Builtin.append_, run_underlying Tryz.underlying51, sizeOf, typeInfo, hj, Builtin.lenOf, Builtin.firstCells, storeCells, loadCells, loadCellsFrom, hic]
  unfold Oper.wp execOp
  simp only [ho, resolve, invoke, builtin, Sem.run_bind, Sem.run_pure, Result.andThen_ok, List.map_toArray, List.map_cons, List.map_nil, hs, hx, hr]
  exact hK' _ _ h
/-- append of zeros onto a cut row that has no room for them. -/
theorem wpList_append_zeros {w : World} {ops : Array Oper} {rest : List Oper} {o : Oper} {a : Act} {Q : Exit → Act → World → Prop} (hgd : o.guard = none) (s x : Operand)
    (ho : o.op = .call { callee := .builtin .append, args := #[s, x], argTypes := #[51, 3] })
    (g i cap k : Nat) (L : List (Int × Int)) (hs : a.eval s = .slice (some ⟨g, 0, none⟩) i cap) (hx : a.eval x = .int .i64 k) (hL : L.length = i) (HR : Row w ⟨g, 0, none⟩ L) (h0 : 0 < k) (hk : k ≤ 100000) (hi : i ≤ 100000) (tot : Nat) (hik : i + k = tot) (hg : cap < tot)
    (h : ∀ w' cap' cur, Hid (w'.heap[w.heap.size]? = some (.cells (cur : List Value).toArray 31 (0, 0))) → cur.length = cap' * 2 → cap' ≤ maxLen → tot ≤ cap' → Hid (cur.take (i * 2) = cellsL L) → w.grownBy w' none →
      wpList Tryz.prog ops Q rest (a.put o.dst (.slice (some ⟨w.heap.size, 0, none⟩) tot cap')) w') : wpList Tryz.prog ops Q (o :: rest) a w := by
  subst hik
  obtain ⟨j, hj, hx0⟩ := Option.map_eq_some_iff.1 Tryz.infoSlot
  simp only [Prod.mk.injEq] at hx0
  obtain ⟨hz0, hz1, hz2⟩ := hx0
  have hold : (Builtin.firstCells j.size i (.slice (some ⟨g, 0, none⟩) i cap)).run Tryz.prog w.drew = .ok (cellsL L).toArray w.drew := by
    have := run_firstCells_some (P := Tryz.prog) w.drew j.size i ⟨g, 0, none⟩ i cap (cellsL L) (by rw [cellsL_len, hL, hz1]) (fun q v hv => (HR.kept (gbDrewN w 1 none)).cells q v hv)
    exact this
  have hr := Lib.run_append_grow_zeros (P := Tryz.prog) w 51 3 o.type 31 j (.agg #[.int .i64 0, .int .i64 0]) .i64 .i64 Tryz.underlying51 Tryz.underlying3 hj hz0 (some ⟨g, 0, none⟩) i cap (cellsL L) hold k h0 (by rw [hz1]; decide) hg (by omega) (by rw [hz2]; omega) (growslice_fits (by omega) (by rw [hz2]; omega))
  have hge := grownCap_ge w (i + k) cap 31
  have hcm := grownCap_le_maxLen w (i + k) cap 31 (by unfold maxLen; omega)
  refine Lib.wpList_append_run w hgd s x 51 3 ho _ _ hs hx _ _ hr ?_
  have hzs : ∀ q, (Builtin.zeroCells (Value.agg #[.int .i64 0, .int .i64 0]).cells q).size = q * 2 := fun q => size_zeroCells _ q
  refine h _ (grownCap w (i + k) cap 31) (cellsL L ++ ((Builtin.zeroCells (Value.agg #[.int .i64 0, .int .i64 0]).cells k).toList ++ (Builtin.zeroCells (Value.agg #[.int .i64 0, .int .i64 0]).cells (grownCap w (i + k) cap 31 - (i + k))).toList)) ?_ ?_ hcm hge ?_ ?_
  · refine hideIt ((Deep.blk_alloc_new _ _).trans ?_)
    simp
  · simp only [List.length_append, cellsL_len, Array.length_toList, hzs, hL]; omega
  · refine hideIt ?_
    rw [List.take_append_of_le_length (by rw [cellsL_len]; omega), List.take_of_length_le (by rw [cellsL_len]; omega)]
  · exact gbTrans (gbDrewN w 1 none) (gbAlloc _ _ _)

/-- Two rows in two blocks do not overlap. -/
theorem sizeSlot (w : World) : (sizeOf 31).run Tryz.prog w = .ok 2 w := by kernel_rfl
theorem overlaps_run (w : World) (g h off la ca lb cb : Nat) (cur cur' : List Value) (hne : g ≠ h) (hg : w.heap[g]? = some (.cells cur.toArray 31 (0, 0))) (hh : w.heap[h]? = some (.cells cur'.toArray 31 (0, 0))) (h0 : cur' ≠ []) :
    (callFunc 139 #[.slice (some ⟨g, off, none⟩) la ca, .slice (some ⟨h, 0, none⟩) lb cb]).run Tryz.prog w = .ok (.value (.bool false)) w := by
  rw [run_callFunc_extern Tryz.func139 (by kernel_rfl) (by kernel_rfl) (by kernel_rfl) (e := Extern.SlicesOverlaps.overlaps #[51, 51] #[4]) (by kernel_rfl),
    Lib.run_overlaps_apart w 51 4 31 Tryz.underlying51 2 sizeSlot ⟨g, off, none⟩ ⟨h, 0, none⟩ la ca lb cb hne 31 31 cur.length cur'.length (by simp [World.shape?, hg]) (by simp [World.shape?, hh]) (by simpa using h0) (by simp [World.frozen?, hg]) (by simp [World.frozen?, hg])]
  rfl

end T9
end Go.Proofs.YtdnoidnpiaadaaaGreat
