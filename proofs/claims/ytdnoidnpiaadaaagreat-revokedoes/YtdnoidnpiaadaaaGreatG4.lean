/-
  THE CONTRACTS of package slots: Add, Drop.
-/
import Derived.Test.YtdnoidnpiaadaaaGreatG3
import Derived.Laws.AppendOwn
namespace Go.Proofs.YtdnoidnpiaadaaaGreat
set_option maxRecDepth 10000
open Go.RowKit Go.Maps
set_option linter.unusedVariables false

/-- A new node's cells. -/
def newCells (r : Int) : Array Value := #[.int .i64 r, .int .i64 0, .int .i64 0, .int .i64 0, .int .u64 0, .int .u64 0, .int .i64 0, .int .i64 0, .int .i64 0, .int .i64 0, .int .u64 0, .int .u64 0, .int .i64 0, .int .i64 0, .int .i64 0, .int .i64 0, .int .u64 0, .int .u64 0, .int .i64 0, .int .i64 0, .int .i64 0, .int .i64 0, .int .u64 0, .int .u64 0, .int .i64 0, .int .i64 0, .int .i64 0, .int .i64 0, .int .u64 0, .int .u64 0, .int .i64 0, .int .i64 0, .int .i64 0, .int .i64 0, .int .u64 0, .int .u64 0, .int .i64 0, .int .i64 0, .int .i64 0, .int .i64 0, .int .u64 0, .int .u64 0, .int .i64 0, .int .i64 0, .int .i64 0, .int .i64 0, .int .u64 0, .int .u64 0, .int .i64 0, .int .i64 0, .int .i64 0, .int .i64 0, .int .u64 0, .int .u64 0, .int .i64 0, .int .i64 0, .int .i64 0, .int .i64 0, .int .u64 0, .int .u64 0, .int .i64 0, .int .i64 0, .int .i64 0, .int .i64 0, .int .u64 0, .int .u64 0, .int .i64 0, .int .i64 0, .int .i64 0, .int .i64 0, .int .u64 0, .int .u64 0, .int .i64 0, .int .i64 0, .int .i64 0, .int .i64 0, .int .u64 0, .int .u64 0, .int .i64 0, .int .i64 0, .int .i64 0, .int .i64 0, .int .u64 0, .int .u64 0, .int .i64 0, .int .i64 0, .int .i64 0, .int .i64 0, .int .u64 0, .int .u64 0, .int .i64 0, .int .i64 0, .int .i64 0, .int .i64 0, .int .u64 0, .int .u64 0, .int .i64 0]

theorem zeroNode (w : World) : (zeroValue 96).run Tryz.prog w = .ok (.agg (newCells 0)) w := by kernel_rfl
theorem newCells_ne : (newCells 0 = #[]) = False := by simp [newCells]
theorem newCells_set (r : Int) : (newCells 0).setIfInBounds 0 (.int .i64 r) = newCells r := by rfl
theorem newCells_is (r : Nat) (i : Nat) (hi : i < 97) : (newCells r)[i]? = some (ndv ⟨r, fun _ => C.zero⟩ i) := by
  have h : (newCells r).toList = (List.range 97).map (ndv ⟨r, fun _ => C.zero⟩) := by rfl
  rw [← Array.getElem?_toList, h]
  simp [hi]
theorem wpList_put_node {w : World} {ops : Array Oper} {rest : List Oper} {o : Oper} {a : Act} {Q : Exit → Act → World → Prop} (hg : o.guard = none) (m x v : Operand) (hop : o.op = Op.mapUpdate 90 m x v)
    (b n q : Nat) (K : Int → Option Nat) (id : Int) (hm : a.eval m = .map (some b)) (hx : a.eval x = .int .i64 id) (hv : a.eval v = .pointer (some ⟨q, 0, none⟩)) (h : KMap w b n K) (hid : I64 id) (hn : n ≤ 1000)
    (hK : ∀ w', KMap w' b (n + 1) (fun j => if j = id then some q else K j) → w.grownBy w' (some b) → wpList Tryz.prog ops Q rest (a.put o.dst undef) w') : wpList Tryz.prog ops Q (o :: rest) a w := by
  refine wpList_plain hg fun K' hK' => ?_
  obtain ⟨w', hrun, r1, r2⟩ := h.put id q hid hn
  unfold Oper.wp
  simp [execOp, hop, hm, hx, hv, hrun, Result.andThen]
  exact hK' _ _ (hK w' r1 r2)

theorem wpList_del_node {w : World} {ops : Array Oper} {rest : List Oper} {o : Oper} {a : Act} {Q : Exit → Act → World → Prop} (hg : o.guard = none) (m x : Operand) (hop : o.op = Op.call { callee := Callee.builtin Builtin.delete, args := #[m, x], argTypes := #[90, 3] })
    (b n : Nat) (K : Int → Option Nat) (id : Int) (hm : a.eval m = .map (some b)) (hx : a.eval x = .int .i64 id) (h : KMap w b n K) (hid : I64 id)
    (hK : ∀ w', KMap w' b n (fun j => if j = id then none else K j) → w.grownBy w' (some b) → wpList Tryz.prog ops Q rest (a.put o.dst (.tuple #[])) w') : wpList Tryz.prog ops Q (o :: rest) a w := by
  refine wpList_plain hg fun K' hK' => ?_
  obtain ⟨w', hrun, r1, r2⟩ := h.del id hid o.type
  unfold Oper.wp
  simp [execOp, hop, resolve, invoke, builtin, hm, hx, hrun, Result.andThen]
  exact hK' _ _ (hK w' r1 r2)

set_option maxHeartbeats 400000 in
theorem add_range (w : World) (p : Nat) (id r : Int) (h : ¬ (0 ≤ id ∧ id ≤ 63 ∧ 1 ≤ r ∧ r ≤ 4)) :
    Calls Tryz.prog 74 #[.pointer (some ⟨p, 0, none⟩), .int .i64 id, .int .i64 r] w fun e w' => e = .returned (.int .i64 1) ∧ w' = w := by
  by_cases c1 : id < 0
  · clear h
    go_enter Tryz.func74, Tryz.ntmps74
    go_wp2
    go_ret
    exact ⟨rfl, rfl⟩
  · by_cases c2 : 64 ≤ id
    · clear h
      go_enter Tryz.func74, Tryz.ntmps74
      go_wp2
      go_ret
      exact ⟨rfl, rfl⟩
    · by_cases c3 : r < 1
      · clear h
        go_enter Tryz.func74, Tryz.ntmps74
        go_wp2
        go_ret
        exact ⟨rfl, rfl⟩
      · have c4 : 4 < r := by omega
        clear h
        go_enter Tryz.func74, Tryz.ntmps74
        go_wp2
        go_ret
        exact ⟨rfl, rfl⟩

set_option maxHeartbeats 400000 in
theorem add_twice (w : World) (p b q : Nat) (id r : Int) (c1 : ¬ id < 0) (c2 : ¬ 64 ≤ id) (c3 : ¬ r < 1) (c4 : ¬ 4 < r) (hc : w.cell? ⟨p, 0, none⟩ = some (.map (some b)))
    (hl : (Instr.lookup 90 (.map (some b)) (.int .i64 id) false).run Tryz.prog w = .ok (.pointer (some ⟨q, 0, none⟩)) w) :
    Calls Tryz.prog 74 #[.pointer (some ⟨p, 0, none⟩), .int .i64 id, .int .i64 r] w fun e w' => e = .returned (.int .i64 4) ∧ w' = w := by
  go_enter Tryz.func74, Tryz.ntmps74
  go_wp2
  go_ret
  exact ⟨rfl, rfl⟩

/-- A node was laid, and its pointer into the map. -/
def Added (w w' : World) (b n r : Nat) (K : Int → Option Nat) (id : Int) : Prop :=
  ∃ W, NodeAt W w.heap.size ⟨r, fun _ => C.zero⟩ ∧ w.grownBy W none ∧ W.heap.size = w.heap.size + 1 ∧ W.grownBy w' (some b) ∧ KMap w' b (n + 1) (fun j => if j = id then some w.heap.size else K j)

set_option maxHeartbeats 1000000 in
theorem add_yes (w : World) (p b n r : Nat) (K : Int → Option Nat) (id : Int) (c1 : ¬ id < 0) (c2 : ¬ 64 ≤ id) (c3 : ¬ (r : Int) < 1) (c4 : ¬ 4 < (r : Int)) (hc : w.cell? ⟨p, 0, none⟩ = some (.map (some b)))
    (hl : (Instr.lookup 90 (.map (some b)) (.int .i64 id) false).run Tryz.prog w = .ok (.pointer none) w) (hM : KMap w b n K) (hid : I64 id) (hn : n ≤ 1000) :
    Calls Tryz.prog 74 #[.pointer (some ⟨p, 0, none⟩), .int .i64 id, .int .i64 r] w fun e w' => e = .returned (.int .i64 0) ∧ Added w w' b n r K id := by
  have z0 := zeroNode
  have z1 := newCells_ne
  have z2 := newCells_set r
  go_enter Tryz.func74, Tryz.ntmps74
  go_wp2_with (at_mapUpdate; refine wpList_put_node rfl _ _ _ rfl b n w.heap.size K id rfl rfl rfl (hM.fr (O := fun _ => False) (Fr.grown (gbAlloc _ _ _)) (fun e => e)) hid hn ?_; intro w' hM' hg')
  go_ret
  exact ⟨rfl, _, World.rowIs_alloc w (newCells r) 96 _ (fun i hi => newCells_is r i hi), gbAlloc _ _ _, by simp, hg', hM'⟩

/-! ### A node's slots as one value -/
def rowCells (d : Nd) : Array Value := #[.int .i64 (d.f 0).k, .int .i64 (d.f 0).o, .int .i64 (d.f 0).r, .int .u64 (d.f 0).b, .int .u64 (d.f 0).g, .int .i64 (d.f 0).n, .int .i64 (d.f 1).k, .int .i64 (d.f 1).o, .int .i64 (d.f 1).r, .int .u64 (d.f 1).b, .int .u64 (d.f 1).g, .int .i64 (d.f 1).n, .int .i64 (d.f 2).k, .int .i64 (d.f 2).o, .int .i64 (d.f 2).r, .int .u64 (d.f 2).b, .int .u64 (d.f 2).g, .int .i64 (d.f 2).n, .int .i64 (d.f 3).k, .int .i64 (d.f 3).o, .int .i64 (d.f 3).r, .int .u64 (d.f 3).b, .int .u64 (d.f 3).g, .int .i64 (d.f 3).n, .int .i64 (d.f 4).k, .int .i64 (d.f 4).o, .int .i64 (d.f 4).r, .int .u64 (d.f 4).b, .int .u64 (d.f 4).g, .int .i64 (d.f 4).n, .int .i64 (d.f 5).k, .int .i64 (d.f 5).o, .int .i64 (d.f 5).r, .int .u64 (d.f 5).b, .int .u64 (d.f 5).g, .int .i64 (d.f 5).n, .int .i64 (d.f 6).k, .int .i64 (d.f 6).o, .int .i64 (d.f 6).r, .int .u64 (d.f 6).b, .int .u64 (d.f 6).g, .int .i64 (d.f 6).n, .int .i64 (d.f 7).k, .int .i64 (d.f 7).o, .int .i64 (d.f 7).r, .int .u64 (d.f 7).b, .int .u64 (d.f 7).g, .int .i64 (d.f 7).n, .int .i64 (d.f 8).k, .int .i64 (d.f 8).o, .int .i64 (d.f 8).r, .int .u64 (d.f 8).b, .int .u64 (d.f 8).g, .int .i64 (d.f 8).n, .int .i64 (d.f 9).k, .int .i64 (d.f 9).o, .int .i64 (d.f 9).r, .int .u64 (d.f 9).b, .int .u64 (d.f 9).g, .int .i64 (d.f 9).n, .int .i64 (d.f 10).k, .int .i64 (d.f 10).o, .int .i64 (d.f 10).r, .int .u64 (d.f 10).b, .int .u64 (d.f 10).g, .int .i64 (d.f 10).n, .int .i64 (d.f 11).k, .int .i64 (d.f 11).o, .int .i64 (d.f 11).r, .int .u64 (d.f 11).b, .int .u64 (d.f 11).g, .int .i64 (d.f 11).n, .int .i64 (d.f 12).k, .int .i64 (d.f 12).o, .int .i64 (d.f 12).r, .int .u64 (d.f 12).b, .int .u64 (d.f 12).g, .int .i64 (d.f 12).n, .int .i64 (d.f 13).k, .int .i64 (d.f 13).o, .int .i64 (d.f 13).r, .int .u64 (d.f 13).b, .int .u64 (d.f 13).g, .int .i64 (d.f 13).n, .int .i64 (d.f 14).k, .int .i64 (d.f 14).o, .int .i64 (d.f 14).r, .int .u64 (d.f 14).b, .int .u64 (d.f 14).g, .int .i64 (d.f 14).n, .int .i64 (d.f 15).k, .int .i64 (d.f 15).o, .int .i64 (d.f 15).r, .int .u64 (d.f 15).b, .int .u64 (d.f 15).g, .int .i64 (d.f 15).n]
theorem rowCells_is (d : Nd) : (rowCells d).toList = (List.range 96).map (fun k => ndv d (1 + k)) := by rfl
theorem rowCells_part (d : Nd) : ∀ i, i < 16 → (rowCells d).extract (i * 6) (i * 6 + 6) = #[.int .i64 (d.f i).k, .int .i64 (d.f i).o, .int .i64 (d.f i).r, .int .u64 (d.f i).b, .int .u64 (d.f i).g, .int .i64 (d.f i).n]
  | 0, _ => rfl
  | 1, _ => rfl
  | 2, _ => rfl
  | 3, _ => rfl
  | 4, _ => rfl
  | 5, _ => rfl
  | 6, _ => rfl
  | 7, _ => rfl
  | 8, _ => rfl
  | 9, _ => rfl
  | 10, _ => rfl
  | 11, _ => rfl
  | 12, _ => rfl
  | 13, _ => rfl
  | 14, _ => rfl
  | 15, _ => rfl
  | n + 16, h => absurd h (by omega)
theorem Tryz.sizeRow : (Tryz.prog.info? 94).map (·.size) = some 96 := by kernel_rfl
theorem NodeAt.load {w : World} {q : Nat} {d : Nd} (h : NodeAt w q d) : (Instr.loadAt 94 (.pointer (some ⟨q, 1, none⟩))).run Tryz.prog w = .ok (.agg (rowCells d)) w := by
  have := run_loadAt_mid (P := Tryz.prog) w q 1 94 (rowCells d).toList _ (fun j v hv => by
    rw [rowCells_is] at hv
    simp only [List.getElem?_map, Option.map_eq_some_iff] at hv
    obtain ⟨k, hk, rfl⟩ := hv
    obtain ⟨hk1, rfl⟩ := List.getElem?_eq_some_iff.1 hk
    simp at hk1
    simp only [List.getElem_range]
    exact World.rowIs.cell h (by omega)) Tryz.underlying94 rfl (by rw [Tryz.sizeRow, rowCells_is]; simp)
  simpa using this
def emptyRow : Nd := ⟨0, fun _ => C.zero⟩
theorem zeroRow (w : World) : (Instr.build 94 #[]).run Tryz.prog w = .ok (.agg (rowCells emptyRow)) w := by kernel_rfl

theorem run_equal_cap_in (w : World) (d : Nat) (a0 a1 a2 a3 a4 a5 b0 b1 b2 b3 b4 b5 : Int) : (Op.equalIn (d + 2) 25 (.agg #[.int .i64 a0, .int .i64 a1, .int .i64 a2, .int .u64 a3, .int .u64 a4, .int .i64 a5]) (.agg #[.int .i64 b0, .int .i64 b1, .int .i64 b2, .int .u64 b3, .int .u64 b4, .int .i64 b5])).run Tryz.prog w = .ok (M.eq ⟨a0, a1, a2, a3, a4, a5⟩ ⟨b0, b1, b2, b3, b4, b5⟩) w := by
  rw [run_equalIn_agg w (d + 1) 25 _ _ (by kernel_rfl) (by kernel_rfl)]
  simp only [go_sem, Program.fieldsOf, Tryz.underlying25]
  by_cases h0 : a0 = b0
  · by_cases h1 : a1 = b1
    · by_cases h2 : a2 = b2
      · by_cases h3 : a3 = b3
        · by_cases h4 : a4 = b4
          · by_cases h5 : a5 = b5
            all_goals simp [M.eq, go_sem, Tryz.underlying3, Tryz.underlying23, h0, h1, h2, h3, h4, h5]
          · simp [M.eq, go_sem, Tryz.underlying3, Tryz.underlying23, h0, h1, h2, h3, h4]
        · simp [M.eq, go_sem, Tryz.underlying3, Tryz.underlying23, h0, h1, h2, h3]
      · simp [M.eq, go_sem, Tryz.underlying3, Tryz.underlying23, h0, h1, h2]
    · simp [M.eq, go_sem, Tryz.underlying3, Tryz.underlying23, h0, h1]
  · simp [M.eq, go_sem, Tryz.underlying3, Tryz.underlying23, h0]

theorem part_row (w : World) (d : Nd) (i : Nat) (hi : i < 16) : (part 25 (rowCells d) (i * 6)).run Tryz.prog w = .ok (cv (d.f i)) w := by
  have h1 : (isAgg 25).run Tryz.prog w = .ok true w := by kernel_rfl
  simp [part, Sem.run_bind, h1, rowCells_part d i hi]

theorem eqItems_row (w : World) (d e : Nd) (m : Nat) : ∀ l : List Nat, (∀ i ∈ l, i < 16) → (Op.eqItems (m + 2) 25 6 (rowCells d) (rowCells e) l).run Tryz.prog w = .ok (l.all fun i => M.eq (d.f i) (e.f i)) w
  | [], _ => by simp [Op.eqItems]
  | i :: l, h => by
    have hi := h i (by simp)
    have ih := eqItems_row w d e m l (fun j hj => h j (by simp [hj]))
    simp only [Op.eqItems, Sem.run_bind, part_row w d i hi, part_row w e i hi, Result.andThen_ok, run_equal_cap_in]
    cases hq : M.eq (d.f i) (e.f i)
    · simp [hq]
    · simp [hq, ih]

theorem run_neq_row (w : World) (d e : Nd) : (binOp .neq 94 (.agg (rowCells d)) (.agg (rowCells e))).run Tryz.prog w = .ok (.bool (!(List.range 16).all fun i => M.eq (d.f i) (e.f i))) w := by
  have hc : Tryz.prog.cellsOf 25 = 6 := by kernel_rfl
  obtain ⟨i, hi⟩ : ∃ i, Tryz.prog.info? 25 = some i := Option.isSome_iff_exists.1 (by kernel_rfl)
  rw [run_neq_struct, run_equalIn_array w 9999 _ _ Tryz.underlying94 hi, hc, eqItems_row w d e 9997 _ (by simp)]
  rfl
theorem eqGuardRow : Tryz.prog.eqGuardType Tryz.prog.depth 94 = false := by kernel_rfl

/-! ### At the operations -/
theorem wpList_row_load {w : World} {ops : Array Oper} {rest : List Oper} {o : Oper} {a : Act} {Q : Exit → Act → World → Prop} (hg : o.guard = none) (x : Operand) (ho : o.op = .load 94 x)
    (q : Nat) (A : Array Value) (hx : a.eval x = .pointer (some ⟨q, 1, none⟩)) (hl : (Instr.loadAt 94 (.pointer (some ⟨q, 1, none⟩))).run Tryz.prog w = .ok (.agg A) w)
    (h : wpList Tryz.prog ops Q rest (a.put o.dst (.agg A)) w) : wpList Tryz.prog ops Q (o :: rest) a w :=
  wpList_plain hg fun K' hK' => by
    unfold Oper.wp execOp
    simp only [ho, hx, Sem.run_bind, hl, Result.andThen_ok, Sem.run_pure]
    exact hK' _ _ h
theorem wpList_row_zero {w : World} {ops : Array Oper} {rest : List Oper} {o : Oper} {a : Act} {Q : Exit → Act → World → Prop} (hg : o.guard = none) (ho : o.op = .build 94 #[])
    (Z : Array Value) (hz : (Instr.build 94 #[]).run Tryz.prog w = .ok (.agg Z) w)
    (h : wpList Tryz.prog ops Q rest (a.put o.dst (.agg Z)) w) : wpList Tryz.prog ops Q (o :: rest) a w :=
  wpList_plain hg fun K' hK' => by
    unfold Oper.wp execOp
    simp only [ho, Sem.run_bind, List.map_toArray, List.map_nil, hz, Result.andThen_ok, Sem.run_pure]
    exact hK' _ _ h
theorem wpList_row_neq {w : World} {ops : Array Oper} {rest : List Oper} {o : Oper} {a : Act} {Q : Exit → Act → World → Prop} (hg : o.guard = none) (x y : Operand) (ho : o.op = .binOp .neq 94 x y 94)
    (A Z : Array Value) (v : Bool) (hx : a.eval x = .agg A) (hy : a.eval y = .agg Z) (hr : (binOp .neq 94 (.agg A) (.agg Z)).run Tryz.prog w = .ok (.bool v) w)
    (h : wpList Tryz.prog ops Q rest (a.put o.dst (.bool v)) w) : wpList Tryz.prog ops Q (o :: rest) a w :=
  wpList_plain hg fun K' hK' => by
    unfold Oper.wp execOp
    simp only [ho, hx, hy, Sem.run_bind, run_eqGuard_agg w _ _ _ _ _ _ eqGuardRow, hr, Result.andThen_ok, Sem.run_pure]
    exact hK' _ _ h

set_option maxHeartbeats 400000 in
theorem drop_no (w : World) (p b : Nat) (id : Int) (hc : w.cell? ⟨p, 0, none⟩ = some (.map (some b)))
    (hl : (Instr.lookup 90 (.map (some b)) (.int .i64 id) false).run Tryz.prog w = .ok (.pointer none) w) :
    Calls Tryz.prog 75 #[.pointer (some ⟨p, 0, none⟩), .int .i64 id] w fun e w' => e = .returned (.int .i64 3) ∧ w' = w := by
  go_enter Tryz.func75, Tryz.ntmps75
  go_wp2
  go_ret
  exact ⟨rfl, rfl⟩

set_option maxHeartbeats 400000 in
theorem drop_state (w : World) (p b q : Nat) (d : Nd) (id : Int) (hc : w.cell? ⟨p, 0, none⟩ = some (.map (some b))) (N : NodeAt w q d)
    (hl : (Instr.lookup 90 (.map (some b)) (.int .i64 id) false).run Tryz.prog w = .ok (.pointer (some ⟨q, 0, none⟩)) w) (he : ((List.range 16).all fun i => M.eq (d.f i) (emptyRow.f i)) = false) :
    Calls Tryz.prog 75 #[.pointer (some ⟨p, 0, none⟩), .int .i64 id] w fun e w' => e = .returned (.int .i64 8) ∧ w' = w := by
  have h1 := N.load
  have h2 := zeroRow
  have h3 := fun w => run_neq_row w d emptyRow
  have qe := eqGuardRow
  rw [he] at h3
  clear N he
  generalize rowCells d = A at h1 h3
  generalize rowCells emptyRow = Z at h2 h3
  go_enter Tryz.func75, Tryz.ntmps75
  go_wp2_with (first | (refine wpList_row_load rfl _ rfl q A rfl h1 ?_) | (refine wpList_row_zero rfl rfl Z (h2 _) ?_) | (refine wpList_row_neq rfl _ _ rfl A Z _ rfl rfl (h3 _) ?_))
  go_ret
  exact ⟨rfl, rfl⟩

set_option maxHeartbeats 400000 in
theorem drop_yes (w : World) (p b q n : Nat) (K : Int → Option Nat) (d : Nd) (id : Int) (hc : w.cell? ⟨p, 0, none⟩ = some (.map (some b))) (N : NodeAt w q d) (hM : KMap w b n K) (hid : I64 id)
    (hl : (Instr.lookup 90 (.map (some b)) (.int .i64 id) false).run Tryz.prog w = .ok (.pointer (some ⟨q, 0, none⟩)) w) (he : ((List.range 16).all fun i => M.eq (d.f i) (emptyRow.f i)) = true) :
    Calls Tryz.prog 75 #[.pointer (some ⟨p, 0, none⟩), .int .i64 id] w fun e w' => e = .returned (.int .i64 0) ∧ KMap w' b n (fun j => if j = id then none else K j) ∧ w.grownBy w' (some b) := by
  have h1 := N.load
  have h2 := zeroRow
  have h3 := fun w => run_neq_row w d emptyRow
  have qe := eqGuardRow
  rw [he] at h3
  clear N he
  generalize rowCells d = A at h1 h3
  generalize rowCells emptyRow = Z at h2 h3
  go_enter Tryz.func75, Tryz.ntmps75
  go_wp2_with (first | (at_delete; refine wpList_del_node rfl _ _ rfl b n K id rfl rfl hM hid ?_; intro w' hM' hg') | (refine wpList_row_load rfl _ rfl q A rfl h1 ?_) | (refine wpList_row_zero rfl rfl Z (h2 _) ?_) | (refine wpList_row_neq rfl _ _ rfl A Z _ rfl rfl (h3 _) ?_))
  go_ret
  exact ⟨rfl, hM', hg'⟩

/-! ### In the chapter's words -/
namespace M
def inB (id r : Int) : Bool := decide (0 ≤ id) && decide (id ≤ 63) && decide (1 ≤ r) && decide (r ≤ 4)
def addE (S : St) (id r : Int) : Int := if inB id r then (match S id with | none => 0 | some _ => 4) else 1
def addS (S : St) (id r : Int) : St := if addE S id r = 0 then fun j => if j = id then some ⟨r.toNat, fun _ => C.zero⟩ else S j else S
/-- Whether all slots are empty. -/
def nulN (d : Nd) : Bool := (List.range 16).all fun i => (d.f i).k == 0
def dropE (S : St) (id : Int) : Int := match S id with
  | none => 3
  | some d => if nulN d then 0 else 8
def dropS (S : St) (id : Int) : St := if dropE S id = 0 then fun j => if j = id then none else S j else S
theorem addE_ok {S : St} {id r : Int} (h : addE S id r = 0) : inB id r = true ∧ S id = none := by
  unfold addE at h
  split at h
  · rename_i h1
    cases hs : S id with
    | none => exact ⟨h1, rfl⟩
    | some d => rw [hs] at h; cases h
  · cases h
theorem inB_yes {id r : Int} (h : inB id r = true) : 0 ≤ id ∧ id ≤ 63 ∧ ∃ n : Nat, r = n ∧ 1 ≤ n ∧ n ≤ 4 := by
  simp only [inB, Bool.and_eq_true, decide_eq_true_eq] at h
  exact ⟨by omega, by omega, r.toNat, by omega, by omega, by omega⟩
end M

theorem Good.add {S : St} (G : Good S) (id r : Int) : Good (M.addS S id r) := by
  unfold M.addS
  split
  · rename_i h
    obtain ⟨h1, _⟩ := M.addE_ok h
    obtain ⟨i0, i1, n, rfl, n1, n4⟩ := M.inB_yes h1
    have key : ∀ j d, (if j = id then some (⟨(n : Int).toNat, fun _ => C.zero⟩ : Nd) else S j) = some d → (j = id ∧ d = ⟨n, fun _ => C.zero⟩) ∨ S j = some d := by
      intro j d h
      split at h
      · rename_i e; simp at h; exact .inl ⟨e, h.symm⟩
      · exact .inr h
    refine ⟨?_, ?_, ?_, ?_, ?_⟩
    · intro j d h
      rcases key j d h with ⟨rfl, _⟩ | h
      · exact ⟨i0, i1⟩
      · exact G.lo _ _ h
    · intro j d h
      rcases key j d h with ⟨_, rfl⟩ | h
      · exact ⟨n1, n4⟩
      · exact G.rad _ _ h
    · intro j d i h hi
      rcases key j d h with ⟨_, rfl⟩ | h
      · rfl
      · exact G.out _ _ i h hi
    · intro j d i h
      rcases key j d h with ⟨_, rfl⟩ | h
      · exact fun _ => rfl
      · exact G.nul _ _ i h
    · intro j d i h
      rcases key j d h with ⟨_, rfl⟩ | h
      · exact M.chk_zero
      · exact G.chk _ _ i h
  · exact G
theorem Good.drop {S : St} (G : Good S) (id : Int) : Good (M.dropS S id) := by
  unfold M.dropS
  split
  · have key : ∀ j d, (if j = id then (Option.none : Option Nd) else S j) = some d → S j = some d := by
      intro j d h
      split at h
      · cases h
      · exact h
    exact ⟨fun j d h => G.lo _ _ (key j d h), fun j d h => G.rad _ _ (key j d h), fun j d i h => G.out _ _ i (key j d h), fun j d i h => G.nul _ _ i (key j d h), fun j d i h => G.chk _ _ i (key j d h)⟩
  · exact G

theorem SAt.still {w : World} {p m : Nat} {O : Nat → Prop} {S : St} (h : SAt w p m O S) : SAt w p (m + 1) (fun i => O i ∨ (i = w.heap.size ∧ i < w.heap.size)) S := h.mono (fun i hi => .inl hi) (by omega)

theorem add_is {w : World} {p m : Nat} {O : Nat → Prop} {S : St} (h : SAt w p m O S) (G : Good S) (id r e : Int) (hid : I64 id) (hm : m ≤ 1000) (he : M.addE S id r = e) :
    Calls Tryz.prog 74 #[.pointer (some ⟨p, 0, none⟩), .int .i64 id, .int .i64 r] w fun x w' => x = .returned (.int .i64 e) ∧ SAt w' p (m + 1) (fun i => O i ∨ (i = w.heap.size ∧ i < w'.heap.size)) (M.addS S id r) ∧ Fr O w w' := by
  subst he
  have H := h
  obtain ⟨b, K, h, op, ob, oq⟩ := h
  have hl := h.map.look id hid
  cases hB : M.inB id r
  · have e : M.addE S id r = 1 := by unfold M.addE; rw [hB]; rfl
    have es : M.addS S id r = S := by unfold M.addS; rw [if_neg (by rw [e]; decide)]
    rw [e, es]
    refine (add_range w p id r ?_).mono ?_
    · simp only [M.inB, Bool.and_eq_false_iff, decide_eq_false_iff_not] at hB; omega
    · rintro x w' ⟨rfl, rfl⟩; exact ⟨rfl, H.still, Fr.refl _ _⟩
  · obtain ⟨i0, i1, n, rfl, n1, n4⟩ := M.inB_yes hB
    cases hk : K id with
    | some q =>
      rw [hk] at hl
      obtain ⟨d, hd, _⟩ := h.node id q hk
      have e : M.addE S id n = 4 := by unfold M.addE; rw [hB, hd]; rfl
      have es : M.addS S id n = S := by unfold M.addS; rw [if_neg (by rw [e]; decide)]
      rw [e, es]
      refine (add_twice w p b q id n (by omega) (by omega) (by omega) (by omega) h.cell hl).mono ?_
      rintro x w' ⟨rfl, rfl⟩; exact ⟨rfl, H.still, Fr.refl _ _⟩
    | none =>
      rw [hk] at hl
      have hs := h.gone id hk
      have e : M.addE S id n = 0 := by unfold M.addE; rw [hB, hs]; rfl
      have es : M.addS S id n = fun j => if j = id then some ⟨n, fun _ => C.zero⟩ else S j := by unfold M.addS; rw [if_pos e]; simp
      rw [e, es]
      refine (add_yes w p b m n K id (by omega) (by omega) (by omega) (by omega) h.cell hl h.map hid hm).mono ?_
      rintro x w' ⟨rfl, W, N, g0, hz, g1, KM⟩
      have F1 : Fr (fun i => i = b) W w' := Fr.at g1 rfl
      have h1 := h.kept g0
      have hnew : w.heap.size < w'.heap.size := by have := g1.size; omega
      refine ⟨rfl, ⟨b, _, ⟨(F1.block p h1.plt h1.pb).trans h1.box, KM, ?_, ?_, ?_⟩, .inl op, .inl ob, ?_⟩, (Fr.grown g0).trans (Fr.at g1 ob)⟩
      · intro j hj
        split at hj
        · cases hj
        · rename_i hne; rw [if_neg hne]; exact h.gone j hj
      · intro j q hj
        split at hj
        · rename_i he
          cases hj
          rw [if_pos he]
          exact ⟨_, rfl, N.fr F1 (fun e2 => by have := h.map.lt; omega)⟩
        · rename_i hne
          rw [if_neg hne]
          obtain ⟨d, hd, N2⟩ := h1.node j q hj
          exact ⟨d, hd, N2.fr F1 (h1.qb hj)⟩
      · have lt : ∀ j q, K j = some q → q < w.heap.size := fun j q hj => by obtain ⟨_, _, N2⟩ := h.node j q hj; exact N2.lt
        intro j j' q hj hj'
        split at hj
        · rename_i e1
          cases hj
          split at hj'
          · rename_i e2; rw [e1, e2]
          · exact absurd (lt _ _ hj') (Nat.lt_irrefl _)
        · split at hj'
          · cases hj'; exact absurd (lt _ _ hj) (Nat.lt_irrefl _)
          · exact h.inj j j' q hj hj'
      · intro j q hj
        split at hj
        · cases hj; exact .inr ⟨rfl, hnew⟩
        · exact .inl (oq j q hj)

theorem M.nulN_is {S : St} (G : Good S) {id : Int} {d : Nd} (hd : S id = some d) : ((List.range 16).all fun i => M.eq (d.f i) (emptyRow.f i)) = M.nulN d := by
  unfold M.nulN
  congr 1
  funext i
  have hz : emptyRow.f i = C.zero := rfl
  rw [hz]
  by_cases h : (d.f i).k = 0
  · rw [G.nul id d i hd h]; rfl
  · have h1 : ((d.f i).k == 0) = false := by simpa using h
    rw [h1]
    cases hq : M.eq (d.f i) C.zero
    · rfl
    · rw [M.eq_iff.1 hq] at h; exact absurd rfl h

theorem drop_is {w : World} {p m : Nat} {O : Nat → Prop} {S : St} (h : SAt w p m O S) (G : Good S) (id e : Int) (hid : I64 id) (he : M.dropE S id = e) :
    Calls Tryz.prog 75 #[.pointer (some ⟨p, 0, none⟩), .int .i64 id] w fun x w' => x = .returned (.int .i64 e) ∧ SAt w' p m O (M.dropS S id) ∧ Fr O w w' := by
  subst he
  have H := h
  obtain ⟨b, K, h, op, ob, oq⟩ := h
  have hl := h.map.look id hid
  cases hk : K id with
  | none =>
    rw [hk] at hl
    have e : M.dropE S id = 3 := by unfold M.dropE; rw [h.gone id hk]
    have es : M.dropS S id = S := by unfold M.dropS; rw [if_neg (by rw [e]; decide)]
    rw [e, es]
    refine (drop_no w p b id h.cell hl).mono ?_
    rintro x w' ⟨rfl, rfl⟩; exact ⟨rfl, H, Fr.refl _ _⟩
  | some q =>
    rw [hk] at hl
    obtain ⟨d, hd, N⟩ := h.node id q hk
    have hn := M.nulN_is G hd
    cases hz : M.nulN d
    · have e : M.dropE S id = 8 := by unfold M.dropE; rw [hd]; simp [hz]
      have es : M.dropS S id = S := by unfold M.dropS; rw [if_neg (by rw [e]; decide)]
      rw [e, es]
      refine (drop_state w p b q d id h.cell N hl (hn.trans hz)).mono ?_
      rintro x w' ⟨rfl, rfl⟩; exact ⟨rfl, H, Fr.refl _ _⟩
    · have e : M.dropE S id = 0 := by unfold M.dropE; rw [hd]; simp [hz]
      have es : M.dropS S id = fun j => if j = id then none else S j := by unfold M.dropS; rw [if_pos e]
      rw [e, es]
      refine (drop_yes w p b q m K d id h.cell N h.map hid hl (hn.trans hz)).mono ?_
      rintro x w' ⟨rfl, KM, g⟩
      have F1 : Fr (fun i => i = b) w w' := Fr.at g rfl
      refine ⟨rfl, ⟨b, _, ⟨(F1.block p h.plt h.pb).trans h.box, KM, ?_, ?_, ?_⟩, op, ob, ?_⟩, Fr.at g ob⟩
      · intro j hj
        split
        · rfl
        · rename_i hne; rw [if_neg hne] at hj; exact h.gone j hj
      · intro j q hj
        split at hj
        · cases hj
        · rename_i hne
          rw [if_neg hne]
          obtain ⟨d, hd, N2⟩ := h.node j q hj
          exact ⟨d, hd, N2.fr F1 (h.qb hj)⟩
      · intro j j' q hj hj'
        split at hj
        · cases hj
        · split at hj'
          · cases hj'
          · exact h.inj j j' q hj hj'
      · intro j q hj
        split at hj
        · cases hj
        · exact oq j q hj

end Go.Proofs.YtdnoidnpiaadaaaGreat

/-
  LISTS OF SLOTS IN MEMORY: two cells an element; lists of the call's own, and what append makes of them. Speaks of no function of the program.
-/
namespace Go.Proofs.YtdnoidnpiaadaaaGreat
set_option maxRecDepth 10000
open Go.RowKit

def cellsL (L : List (Int × Int)) : List Value := L.flatMap fun p => [.int .i64 p.1, .int .i64 p.2]
theorem cellsL_cons (p : Int × Int) (L : List (Int × Int)) : cellsL (p :: L) = .int .i64 p.1 :: .int .i64 p.2 :: cellsL L := rfl
theorem cellsL_app (L K : List (Int × Int)) : cellsL L ++ cellsL K = cellsL (L ++ K) := by unfold cellsL; simp
theorem cellsL_len (L : List (Int × Int)) : (cellsL L).length = L.length * 2 := by
  induction L with
  | nil => rfl
  | cons p L ih => rw [cellsL_cons]; simp [ih]; omega
theorem cellsL_get (L : List (Int × Int)) (i : Nat) (p : Int × Int) (h : L[i]? = some p) : (cellsL L)[i * 2]? = some (.int .i64 p.1) ∧ (cellsL L)[i * 2 + 1]? = some (.int .i64 p.2) := by
  induction L generalizing i with
  | nil => simp at h
  | cons q L ih =>
    rw [cellsL_cons]
    cases i with
    | zero => simp at h; subst h; exact ⟨rfl, rfl⟩
    | succ i =>
      have := ih i (by simpa using h)
      rw [show (i + 1) * 2 = i * 2 + 1 + 1 by omega]
      simpa using this
theorem cellsL_of (L : List (Int × Int)) (j : Nat) (u : Value) (h : (cellsL L)[j]? = some u) : ∃ i p, L[i]? = some p ∧ (j = i * 2 ∧ u = .int .i64 p.1 ∨ j = i * 2 + 1 ∧ u = .int .i64 p.2) := by
  have hj : j < (cellsL L).length := (List.getElem?_eq_some_iff.1 h).1
  rw [cellsL_len] at hj
  have hi : j / 2 < L.length := by omega
  obtain ⟨h1, h2⟩ := cellsL_get L (j / 2) L[j / 2] (List.getElem?_eq_getElem hi)
  refine ⟨j / 2, L[j / 2], List.getElem?_eq_getElem hi, ?_⟩
  by_cases e : j % 2 = 0
  · left; have e2 : j / 2 * 2 = j := by omega
    rw [e2, h] at h1; exact ⟨e2.symm, by simpa using h1⟩
  · right; have e2 : j / 2 * 2 + 1 = j := by omega
    rw [e2, h] at h2; exact ⟨e2.symm, by simpa using h2⟩
theorem cellsL_one (L : List (Int × Int)) : ∀ u ∈ cellsL L, u.oneCell' = true := by
  intro u hu
  unfold cellsL at hu
  simp at hu
  obtain ⟨a, b, _, rfl | rfl⟩ := hu <;> rfl

/-- One element at an address. -/
structure El (w : World) (y : Addr) (A B : Int) : Prop where
  at0 : w.cell? y = some (.int .i64 A)
  at1 : w.cell? ⟨y.block, y.off + 1, none⟩ = some (.int .i64 B)
theorem El.kept {w w' : World} {y : Addr} {A B : Int} (h : El w y A B) (g : w.grownBy w' none) : El w' y A B :=
  ⟨g.cell h.at0 (by simp), g.cell h.at1 (by simp)⟩
theorem El.keep {w w' : World} {y : Addr} {A B : Int} {r : Option Nat} (h : El w y A B) (g : w.grownBy w' r) (hr : some y.block ≠ r) : El w' y A B :=
  ⟨g.cell h.at0 hr, g.cell h.at1 hr⟩
theorem add_block (x : Addr) (n : Nat) : (x.add n).block = x.block := by unfold Addr.add; split <;> rfl
theorem add_off (x : Addr) (n : Nat) : (x.add n).off = x.off + n := by
  unfold Addr.add; split
  · rename_i h; simp [h]
  · rfl
theorem add_one (x : Addr) (n : Nat) : x.add (n + 1) = ⟨(x.add n).block, (x.add n).off + 1, none⟩ := by
  rw [add_block, add_off]; unfold Addr.add; simp; omega

/-- The elements of L lie from x on. -/
def Row (w : World) (x : Addr) (L : List (Int × Int)) : Prop := ∀ i p, L[i]? = some p → El w (x.add (i * 2)) p.1 p.2
theorem Row.kept {w w' : World} {x : Addr} {L : List (Int × Int)} (h : Row w x L) (g : w.grownBy w' none) : Row w' x L := fun i p hp => (h i p hp).kept g
theorem Row.keep {w w' : World} {x : Addr} {L : List (Int × Int)} {r : Option Nat} (h : Row w x L) (g : w.grownBy w' r) (hr : some x.block ≠ r) : Row w' x L :=
  fun i p hp => (h i p hp).keep g (by rw [add_block]; exact hr)
theorem Row.cells {w : World} {x : Addr} {L : List (Int × Int)} (h : Row w x L) : ∀ j u, (cellsL L)[j]? = some u → w.cell? (x.add j) = some u := by
  intro j u hu
  obtain ⟨i, p, hp, ⟨rfl, rfl⟩ | ⟨rfl, rfl⟩⟩ := cellsL_of L j u hu
  · exact (h i p hp).at0
  · rw [add_one]; exact (h i p hp).at1
theorem Row.ofCells {w : World} {x : Addr} {L : List (Int × Int)} (h : ∀ j u, (cellsL L)[j]? = some u → w.cell? (x.add j) = some u) : Row w x L := by
  intro i p hp
  obtain ⟨h1, h2⟩ := cellsL_get L i p hp
  refine ⟨h _ _ h1, ?_⟩
  have := h _ _ h2
  rwa [add_one] at this

/-- A list of the call's own. -/
def Lst (w : World) (B : Nat) (v : Value) (L : List (Int × Int)) : Prop := w.ownsRow B 31 2 v L.length (cellsL L)
theorem Lst.nil (w : World) (B : Nat) : Lst w B (.slice none 0 0) [] := World.ownsRow_nil w B 31 2
theorem Lst.kept {w w' : World} {B : Nat} {v : Value} {L : List (Int × Int)} (h : Lst w B v L) (g : w.grownBy w' none) : Lst w' B v L :=
  World.ownsRow.kept h g (by cases v.ownBlock <;> simp)
theorem Lst.lt {w : World} {B : Nat} {v : Value} {L : List (Int × Int)} (h : Lst w B v L) : ∀ k, v.ownBlock = some k → B ≤ k ∧ k < w.heap.size := World.ownsRow.lt h
/-- What it looks like. -/
theorem Lst.form {w : World} {B : Nat} {v : Value} {L : List (Int × Int)} (h : Lst w B v L) :
    (v = .slice none 0 0 ∧ L = []) ∨ ∃ g cap, v = .slice (some ⟨g, 0, none⟩) L.length cap ∧ L.length ≤ cap ∧ B ≤ g ∧ g < w.heap.size ∧ cap ≤ 9223372036854775807 ∧ Row w ⟨g, 0, none⟩ L := by
  have h0 := h.2
  rcases h0 with ⟨rfl, hn⟩ | ⟨g, cap, cur, rfl, hB, hg, hn, hm, _, _⟩
  · exact .inl ⟨rfl, List.eq_nil_of_length_eq_zero hn⟩
  · exact .inr ⟨g, cap, rfl, hn, hB, (World.ownsRow.lt h g rfl).2, by unfold maxLen at hm; omega, Row.ofCells (World.ownsRow.cells h (g := g) rfl)⟩

theorem Tryz.infoSlot : (Tryz.prog.info? 31).map (fun i => (i.zero, i.size, i.bytes)) = some (some (.agg #[.int .i64 0, .int .i64 0]), 2, 16) := by kernel_rfl

/-- append of the elements of K onto a list of the call's own. -/
theorem wpList_append_slot {w : World} {ops : Array Oper} {rest : List Oper} {o : Oper} {a : Act} {Q : Exit → Act → World → Prop} (hw : Region.wanted o (yielded ops a.tmps) = true) (s x : Operand)
    (ho : o.op = .call { callee := .builtin .append, args := #[s, x], argTypes := #[51, 51] })
    (B : Nat) (v : Value) (L : List (Int × Int)) (hs : a.eval s = v) (hown : Lst w B v L)
    (ad : Addr) (m c : Nat) (K : List (Int × Int)) (hx : a.eval x = .slice (some ad) m c) (hm : K.length = m) (hnews : Row w ad K)
    (hn : L.length + m ≤ 1000000) (hB : B ≤ w.heap.size)
    (h : ∀ v' w', Lst w' B v' (L ++ K) → w.grownBy w' v.ownBlock → wpList Tryz.prog ops Q rest (a.put o.dst v') w') : wpList Tryz.prog ops Q (o :: rest) a w := by
  obtain ⟨i, hi, hx0⟩ := Option.map_eq_some_iff.1 Tryz.infoSlot
  simp only [Prod.mk.injEq] at hx0
  obtain ⟨hz0, hz1, hz2⟩ := hx0
  refine BigFrame.wpList_want hw fun K' hK => ?_
  refine wp_append_own w s x 51 ho B 31 i (.agg #[.int .i64 0, .int .i64 0]) 2 16 Tryz.underlying51 hi hz0 hz1 hz2 (by kernel_rfl) (by decide) v L.length (cellsL L) hs hown ad m c (cellsL K) hx (by rw [cellsL_len, hm]) hnews.cells (cellsL_one K) (by unfold maxLen; omega) (by omega) hB ?_
  intro v' w' h2 h3 _
  refine hK _ _ (h v' w' ?_ h3)
  unfold Lst
  rw [← cellsL_app, List.length_append, hm]
  exact h2

theorem gbNews {a b : World} {r : Option Nat} (h : a.grownBy b r) (hr : ∀ k, r = some k → a.heap.size ≤ k) : a.grownBy b none :=
  ⟨h.os, h.tape, h.output, h.size, fun i hi _ => h.block i hi (fun e => by have := hr i e.symm; omega)⟩

end Go.Proofs.YtdnoidnpiaadaaaGreat
