/-
  THE CONTRACTS of package slots: Add, Drop.
-/
import Derived.Test.YtkpcdfiebjigbaaGet
namespace Go.Proofs.Ytkpcdfiebjigbaa
set_option maxRecDepth 10000
open Go.RowKit Go.Maps
set_option linter.unusedVariables false

/-- A new node's cells. -/
def newCells (r : Int) : Array Value := #[.int .i64 r, .int .i64 0, .int .i64 0, .int .i64 0, .int .u64 0, .int .u64 0, .int .i64 0, .int .i64 0, .int .i64 0, .int .i64 0, .int .u64 0, .int .u64 0, .int .i64 0, .int .i64 0, .int .i64 0, .int .i64 0, .int .u64 0, .int .u64 0, .int .i64 0, .int .i64 0, .int .i64 0, .int .i64 0, .int .u64 0, .int .u64 0, .int .i64 0, .int .i64 0, .int .i64 0, .int .i64 0, .int .u64 0, .int .u64 0, .int .i64 0, .int .i64 0, .int .i64 0, .int .i64 0, .int .u64 0, .int .u64 0, .int .i64 0, .int .i64 0, .int .i64 0, .int .i64 0, .int .u64 0, .int .u64 0, .int .i64 0, .int .i64 0, .int .i64 0, .int .i64 0, .int .u64 0, .int .u64 0, .int .i64 0, .int .i64 0, .int .i64 0, .int .i64 0, .int .u64 0, .int .u64 0, .int .i64 0, .int .i64 0, .int .i64 0, .int .i64 0, .int .u64 0, .int .u64 0, .int .i64 0, .int .i64 0, .int .i64 0, .int .i64 0, .int .u64 0, .int .u64 0, .int .i64 0, .int .i64 0, .int .i64 0, .int .i64 0, .int .u64 0, .int .u64 0, .int .i64 0, .int .i64 0, .int .i64 0, .int .i64 0, .int .u64 0, .int .u64 0, .int .i64 0, .int .i64 0, .int .i64 0, .int .i64 0, .int .u64 0, .int .u64 0, .int .i64 0, .int .i64 0, .int .i64 0, .int .i64 0, .int .u64 0, .int .u64 0, .int .i64 0, .int .i64 0, .int .i64 0, .int .i64 0, .int .u64 0, .int .u64 0, .int .i64 0]

theorem zeroNode (w : World) : (zeroValue 73).run Try.prog w = .ok (.agg (newCells 0)) w := by kernel_rfl
theorem newCells_ne : (newCells 0 = #[]) = False := by simp [newCells]
theorem newCells_set (r : Int) : (newCells 0).setIfInBounds 0 (.int .i64 r) = newCells r := by rfl
theorem newCells_is (r : Nat) (i : Nat) (hi : i < 97) : (newCells r)[i]? = some (ndv ⟨r, fun _ => C.zero⟩ i) := by
  have h : (newCells r).toList = (List.range 97).map (ndv ⟨r, fun _ => C.zero⟩) := by rfl
  rw [← Array.getElem?_toList, h]
  simp [hi]
theorem nodeNew (w : World) (r : Nat) : ∃ W, w.alloc (.cells (newCells r) 73) = W ∧ NodeAt W w.heap.size ⟨r, fun _ => C.zero⟩ ∧ w.grownBy W none :=
  ⟨_, rfl, World.rowIs_alloc w (newCells r) 73 _ (fun i hi => newCells_is r i hi), gbAlloc _ _ _⟩

theorem wpList_put_node {w : World} {ops : Array Oper} {rest : List Oper} {o : Oper} {a : Act} {Q : Exit → Act → World → Prop} (hg : o.guard = none) (m x v : Operand) (hop : o.op = Op.mapUpdate 67 m x v)
    (b n q : Nat) (K : Int → Option Nat) (id : Int) (hm : a.eval m = .map (some b)) (hx : a.eval x = .int .i64 id) (hv : a.eval v = .pointer (some ⟨q, 0, none⟩)) (h : KMap w b n K) (hid : I64 id) (hn : n ≤ 1000)
    (hK : ∀ w', KMap w' b (n + 1) (fun j => if j = id then some q else K j) → w.grownBy w' (some b) → wpList Try.prog ops Q rest (a.put o.dst undef) w') : wpList Try.prog ops Q (o :: rest) a w := by
  refine wpList_plain hg fun K' hK' => ?_
  obtain ⟨w', hrun, r1, r2⟩ := h.put id q hid hn
  unfold Oper.wp
  simp [execOp, hop, hm, hx, hv, hrun, Result.andThen]
  exact hK' _ _ (hK w' r1 r2)

theorem wpList_del_node {w : World} {ops : Array Oper} {rest : List Oper} {o : Oper} {a : Act} {Q : Exit → Act → World → Prop} (hg : o.guard = none) (m x : Operand) (hop : o.op = Op.call { callee := Callee.builtin Builtin.delete, args := #[m, x], argTypes := #[67, 3] })
    (b n : Nat) (K : Int → Option Nat) (id : Int) (hm : a.eval m = .map (some b)) (hx : a.eval x = .int .i64 id) (h : KMap w b n K) (hid : I64 id)
    (hK : ∀ w', KMap w' b n (fun j => if j = id then none else K j) → w.grownBy w' (some b) → wpList Try.prog ops Q rest (a.put o.dst (.tuple #[])) w') : wpList Try.prog ops Q (o :: rest) a w := by
  refine wpList_plain hg fun K' hK' => ?_
  obtain ⟨w', hrun, r1, r2⟩ := h.del id hid o.type
  unfold Oper.wp
  simp [execOp, hop, resolve, invoke, builtin, hm, hx, hrun, Result.andThen]
  exact hK' _ _ (hK w' r1 r2)

set_option maxHeartbeats 400000 in
theorem add_range (w : World) (p : Nat) (id r : Int) (h : ¬ (0 ≤ id ∧ id ≤ 63 ∧ 1 ≤ r ∧ r ≤ 4)) :
    Calls Try.prog 29 #[.pointer (some ⟨p, 0, none⟩), .int .i64 id, .int .i64 r] w fun e w' => e = .returned (.int .i64 1) ∧ w' = w := by
  by_cases c1 : id < 0
  · clear h
    go_enter Try.func29, Try.ntmps29
    go_wp2
    go_ret
    exact ⟨rfl, rfl⟩
  · by_cases c2 : 64 ≤ id
    · clear h
      go_enter Try.func29, Try.ntmps29
      go_wp2
      go_ret
      exact ⟨rfl, rfl⟩
    · by_cases c3 : r < 1
      · clear h
        go_enter Try.func29, Try.ntmps29
        go_wp2
        go_ret
        exact ⟨rfl, rfl⟩
      · have c4 : 4 < r := by omega
        clear h
        go_enter Try.func29, Try.ntmps29
        go_wp2
        go_ret
        exact ⟨rfl, rfl⟩

set_option maxHeartbeats 400000 in
theorem add_twice (w : World) (p b q : Nat) (id r : Int) (c1 : ¬ id < 0) (c2 : ¬ 64 ≤ id) (c3 : ¬ r < 1) (c4 : ¬ 4 < r) (hc : w.cell? ⟨p, 0, none⟩ = some (.map (some b)))
    (hl : (Instr.lookup 67 (.map (some b)) (.int .i64 id) false).run Try.prog w = .ok (.pointer (some ⟨q, 0, none⟩)) w) :
    Calls Try.prog 29 #[.pointer (some ⟨p, 0, none⟩), .int .i64 id, .int .i64 r] w fun e w' => e = .returned (.int .i64 4) ∧ w' = w := by
  go_enter Try.func29, Try.ntmps29
  go_wp2
  go_ret
  exact ⟨rfl, rfl⟩

/-- A node was laid, and its pointer into the map. -/
def Added (w w' : World) (b n r : Nat) (K : Int → Option Nat) (id : Int) : Prop :=
  ∃ W, NodeAt W w.heap.size ⟨r, fun _ => C.zero⟩ ∧ w.grownBy W none ∧ W.heap.size = w.heap.size + 1 ∧ W.grownBy w' (some b) ∧ KMap w' b (n + 1) (fun j => if j = id then some w.heap.size else K j)

set_option maxHeartbeats 1000000 in
theorem add_yes (w : World) (p b n r : Nat) (K : Int → Option Nat) (id : Int) (c1 : ¬ id < 0) (c2 : ¬ 64 ≤ id) (c3 : ¬ (r : Int) < 1) (c4 : ¬ 4 < (r : Int)) (hc : w.cell? ⟨p, 0, none⟩ = some (.map (some b)))
    (hl : (Instr.lookup 67 (.map (some b)) (.int .i64 id) false).run Try.prog w = .ok (.pointer none) w) (hM : KMap w b n K) (hid : I64 id) (hn : n ≤ 1000) :
    Calls Try.prog 29 #[.pointer (some ⟨p, 0, none⟩), .int .i64 id, .int .i64 r] w fun e w' => e = .returned (.int .i64 0) ∧ Added w w' b n r K id := by
  have z0 := zeroNode
  have z1 := newCells_ne
  have z2 := newCells_set r
  go_enter Try.func29, Try.ntmps29
  go_wp2_with (at_mapUpdate; refine wpList_put_node rfl _ _ _ rfl b n w.heap.size K id rfl rfl rfl (hM.fr (O := fun _ => False) (Fr.grown (gbAlloc _ _ _)) (fun e => e)) hid hn ?_; intro w' hM' hg')
  go_ret
  exact ⟨rfl, _, World.rowIs_alloc w (newCells r) 73 _ (fun i hi => newCells_is r i hi), gbAlloc _ _ _, by simp, hg', hM'⟩

/-! ### A node's slots as one value -/
def rowCells (d : Nd) : Array Value := #[.int .i64 (d.f 0).k, .int .i64 (d.f 0).o, .int .i64 (d.f 0).r, .int .u64 (d.f 0).b, .int .u64 (d.f 0).g, .int .i64 (d.f 0).n, .int .i64 (d.f 1).k, .int .i64 (d.f 1).o, .int .i64 (d.f 1).r, .int .u64 (d.f 1).b, .int .u64 (d.f 1).g, .int .i64 (d.f 1).n, .int .i64 (d.f 2).k, .int .i64 (d.f 2).o, .int .i64 (d.f 2).r, .int .u64 (d.f 2).b, .int .u64 (d.f 2).g, .int .i64 (d.f 2).n, .int .i64 (d.f 3).k, .int .i64 (d.f 3).o, .int .i64 (d.f 3).r, .int .u64 (d.f 3).b, .int .u64 (d.f 3).g, .int .i64 (d.f 3).n, .int .i64 (d.f 4).k, .int .i64 (d.f 4).o, .int .i64 (d.f 4).r, .int .u64 (d.f 4).b, .int .u64 (d.f 4).g, .int .i64 (d.f 4).n, .int .i64 (d.f 5).k, .int .i64 (d.f 5).o, .int .i64 (d.f 5).r, .int .u64 (d.f 5).b, .int .u64 (d.f 5).g, .int .i64 (d.f 5).n, .int .i64 (d.f 6).k, .int .i64 (d.f 6).o, .int .i64 (d.f 6).r, .int .u64 (d.f 6).b, .int .u64 (d.f 6).g, .int .i64 (d.f 6).n, .int .i64 (d.f 7).k, .int .i64 (d.f 7).o, .int .i64 (d.f 7).r, .int .u64 (d.f 7).b, .int .u64 (d.f 7).g, .int .i64 (d.f 7).n, .int .i64 (d.f 8).k, .int .i64 (d.f 8).o, .int .i64 (d.f 8).r, .int .u64 (d.f 8).b, .int .u64 (d.f 8).g, .int .i64 (d.f 8).n, .int .i64 (d.f 9).k, .int .i64 (d.f 9).o, .int .i64 (d.f 9).r, .int .u64 (d.f 9).b, .int .u64 (d.f 9).g, .int .i64 (d.f 9).n, .int .i64 (d.f 10).k, .int .i64 (d.f 10).o, .int .i64 (d.f 10).r, .int .u64 (d.f 10).b, .int .u64 (d.f 10).g, .int .i64 (d.f 10).n, .int .i64 (d.f 11).k, .int .i64 (d.f 11).o, .int .i64 (d.f 11).r, .int .u64 (d.f 11).b, .int .u64 (d.f 11).g, .int .i64 (d.f 11).n, .int .i64 (d.f 12).k, .int .i64 (d.f 12).o, .int .i64 (d.f 12).r, .int .u64 (d.f 12).b, .int .u64 (d.f 12).g, .int .i64 (d.f 12).n, .int .i64 (d.f 13).k, .int .i64 (d.f 13).o, .int .i64 (d.f 13).r, .int .u64 (d.f 13).b, .int .u64 (d.f 13).g, .int .i64 (d.f 13).n, .int .i64 (d.f 14).k, .int .i64 (d.f 14).o, .int .i64 (d.f 14).r, .int .u64 (d.f 14).b, .int .u64 (d.f 14).g, .int .i64 (d.f 14).n, .int .i64 (d.f 15).k, .int .i64 (d.f 15).o, .int .i64 (d.f 15).r, .int .u64 (d.f 15).b, .int .u64 (d.f 15).g, .int .i64 (d.f 15).n]
theorem rowCells_is (d : Nd) : (rowCells d).toList = (List.range 96).map (fun k => ndv d (1 + k)) := by rfl
theorem rowCells_part (d : Nd) : ∀ i, i < 16 → (rowCells d).extract (i * 6) (i * 6 + 6) = #[.int .i64 (d.f i).k, .int .i64 (d.f i).o, .int .i64 (d.f i).r, .int .u64 (d.f i).b, .int .u64 (d.f i).g, .int .i64 (d.f i).n]
  | 0, _ => rfl
  | 1, _ => rfl
  | 2, _ => rfl
  | 3, _ => rfl
  | 4, _ => rfl
  | 5, _ => rfl
  | 6, _ => rfl
  | 7, _ => rfl
  | 8, _ => rfl
  | 9, _ => rfl
  | 10, _ => rfl
  | 11, _ => rfl
  | 12, _ => rfl
  | 13, _ => rfl
  | 14, _ => rfl
  | 15, _ => rfl
  | n + 16, h => absurd h (by omega)
theorem Try.sizeRow : (Try.prog.info? 71).map (·.size) = some 96 := by kernel_rfl
theorem NodeAt.load {w : World} {q : Nat} {d : Nd} (h : NodeAt w q d) : (Instr.loadAt 71 (.pointer (some ⟨q, 1, none⟩))).run Try.prog w = .ok (.agg (rowCells d)) w := by
  have := run_loadAt_mid (P := Try.prog) w q 1 71 (rowCells d).toList _ (fun j v hv => by
    rw [rowCells_is] at hv
    simp only [List.getElem?_map, Option.map_eq_some_iff] at hv
    obtain ⟨k, hk, rfl⟩ := hv
    obtain ⟨hk1, rfl⟩ := List.getElem?_eq_some_iff.1 hk
    simp at hk1
    simp only [List.getElem_range]
    exact World.rowIs.cell h (by omega)) Try.underlying71 rfl (by rw [Try.sizeRow, rowCells_is]; simp)
  simpa using this
def emptyRow : Nd := ⟨0, fun _ => C.zero⟩
theorem zeroRow (w : World) : (Instr.build 71 #[]).run Try.prog w = .ok (.agg (rowCells emptyRow)) w := by kernel_rfl

theorem run_equal_cap_in (w : World) (d : Nat) (a0 a1 a2 a3 a4 a5 b0 b1 b2 b3 b4 b5 : Int) : (Op.equalIn (d + 2) 32 (.agg #[.int .i64 a0, .int .i64 a1, .int .i64 a2, .int .u64 a3, .int .u64 a4, .int .i64 a5]) (.agg #[.int .i64 b0, .int .i64 b1, .int .i64 b2, .int .u64 b3, .int .u64 b4, .int .i64 b5])).run Try.prog w = .ok (M.eq ⟨a0, a1, a2, a3, a4, a5⟩ ⟨b0, b1, b2, b3, b4, b5⟩) w := by
  rw [run_equalIn_agg w (d + 1) 32 _ _ (by kernel_rfl) (by kernel_rfl)]
  simp only [go_sem, Program.fieldsOf, Try.underlying32]
  by_cases h0 : a0 = b0
  · by_cases h1 : a1 = b1
    · by_cases h2 : a2 = b2
      · by_cases h3 : a3 = b3
        · by_cases h4 : a4 = b4
          · by_cases h5 : a5 = b5
            all_goals simp [M.eq, go_sem, Try.underlying3, Try.underlying30, h0, h1, h2, h3, h4, h5]
          · simp [M.eq, go_sem, Try.underlying3, Try.underlying30, h0, h1, h2, h3, h4]
        · simp [M.eq, go_sem, Try.underlying3, Try.underlying30, h0, h1, h2, h3]
      · simp [M.eq, go_sem, Try.underlying3, Try.underlying30, h0, h1, h2]
    · simp [M.eq, go_sem, Try.underlying3, Try.underlying30, h0, h1]
  · simp [M.eq, go_sem, Try.underlying3, Try.underlying30, h0]

theorem part_row (w : World) (d : Nd) (i : Nat) (hi : i < 16) : (part 32 (rowCells d) (i * 6)).run Try.prog w = .ok (cv (d.f i)) w := by
  have h1 : (isAgg 32).run Try.prog w = .ok true w := by kernel_rfl
  simp [part, Sem.run_bind, h1, rowCells_part d i hi]

theorem eqItems_row (w : World) (d e : Nd) (m : Nat) : ∀ l : List Nat, (∀ i ∈ l, i < 16) → (Op.eqItems (m + 2) 32 6 (rowCells d) (rowCells e) l).run Try.prog w = .ok (l.all fun i => M.eq (d.f i) (e.f i)) w
  | [], _ => by simp [Op.eqItems]
  | i :: l, h => by
    have hi := h i (by simp)
    have ih := eqItems_row w d e m l (fun j hj => h j (by simp [hj]))
    simp only [Op.eqItems, Sem.run_bind, part_row w d i hi, part_row w e i hi, Result.andThen_ok, run_equal_cap_in]
    cases hq : M.eq (d.f i) (e.f i)
    · simp [hq]
    · simp [hq, ih]

theorem run_neq_row (w : World) (d e : Nd) : (binOp .neq 71 (.agg (rowCells d)) (.agg (rowCells e))).run Try.prog w = .ok (.bool (!(List.range 16).all fun i => M.eq (d.f i) (e.f i))) w := by
  have hc : Try.prog.cellsOf 32 = 6 := by kernel_rfl
  obtain ⟨i, hi⟩ : ∃ i, Try.prog.info? 32 = some i := Option.isSome_iff_exists.1 (by kernel_rfl)
  rw [run_neq_struct, run_equalIn_array w 9999 _ _ Try.underlying71 hi, hc, eqItems_row w d e 9997 _ (by simp)]
  rfl
theorem eqGuardRow : Try.prog.eqGuardType Try.prog.depth 71 = false := by kernel_rfl

/-! ### At the operations -/
theorem wpList_row_load {w : World} {ops : Array Oper} {rest : List Oper} {o : Oper} {a : Act} {Q : Exit → Act → World → Prop} (hg : o.guard = none) (x : Operand) (ho : o.op = .load 71 x)
    (q : Nat) (A : Array Value) (hx : a.eval x = .pointer (some ⟨q, 1, none⟩)) (hl : (Instr.loadAt 71 (.pointer (some ⟨q, 1, none⟩))).run Try.prog w = .ok (.agg A) w)
    (h : wpList Try.prog ops Q rest (a.put o.dst (.agg A)) w) : wpList Try.prog ops Q (o :: rest) a w :=
  wpList_plain hg fun K' hK' => by
    unfold Oper.wp execOp
    simp only [ho, hx, Sem.run_bind, hl, Result.andThen_ok, Sem.run_pure]
    exact hK' _ _ h
theorem wpList_row_zero {w : World} {ops : Array Oper} {rest : List Oper} {o : Oper} {a : Act} {Q : Exit → Act → World → Prop} (hg : o.guard = none) (ho : o.op = .build 71 #[])
    (Z : Array Value) (hz : (Instr.build 71 #[]).run Try.prog w = .ok (.agg Z) w)
    (h : wpList Try.prog ops Q rest (a.put o.dst (.agg Z)) w) : wpList Try.prog ops Q (o :: rest) a w :=
  wpList_plain hg fun K' hK' => by
    unfold Oper.wp execOp
    simp only [ho, Sem.run_bind, List.map_toArray, List.map_nil, hz, Result.andThen_ok, Sem.run_pure]
    exact hK' _ _ h
theorem wpList_row_neq {w : World} {ops : Array Oper} {rest : List Oper} {o : Oper} {a : Act} {Q : Exit → Act → World → Prop} (hg : o.guard = none) (x y : Operand) (ho : o.op = .binOp .neq 71 x y 71)
    (A Z : Array Value) (v : Bool) (hx : a.eval x = .agg A) (hy : a.eval y = .agg Z) (hr : (binOp .neq 71 (.agg A) (.agg Z)).run Try.prog w = .ok (.bool v) w)
    (h : wpList Try.prog ops Q rest (a.put o.dst (.bool v)) w) : wpList Try.prog ops Q (o :: rest) a w :=
  wpList_plain hg fun K' hK' => by
    unfold Oper.wp execOp
    simp only [ho, hx, hy, Sem.run_bind, run_eqGuard_agg w _ _ _ _ _ _ eqGuardRow, hr, Result.andThen_ok, Sem.run_pure]
    exact hK' _ _ h

set_option maxHeartbeats 400000 in
theorem drop_no (w : World) (p b : Nat) (id : Int) (hc : w.cell? ⟨p, 0, none⟩ = some (.map (some b)))
    (hl : (Instr.lookup 67 (.map (some b)) (.int .i64 id) false).run Try.prog w = .ok (.pointer none) w) :
    Calls Try.prog 48 #[.pointer (some ⟨p, 0, none⟩), .int .i64 id] w fun e w' => e = .returned (.int .i64 3) ∧ w' = w := by
  go_enter Try.func48, Try.ntmps48
  go_wp2
  go_ret
  exact ⟨rfl, rfl⟩

set_option maxHeartbeats 400000 in
theorem drop_state (w : World) (p b q : Nat) (d : Nd) (id : Int) (hc : w.cell? ⟨p, 0, none⟩ = some (.map (some b))) (N : NodeAt w q d)
    (hl : (Instr.lookup 67 (.map (some b)) (.int .i64 id) false).run Try.prog w = .ok (.pointer (some ⟨q, 0, none⟩)) w) (he : ((List.range 16).all fun i => M.eq (d.f i) (emptyRow.f i)) = false) :
    Calls Try.prog 48 #[.pointer (some ⟨p, 0, none⟩), .int .i64 id] w fun e w' => e = .returned (.int .i64 8) ∧ w' = w := by
  have h1 := N.load
  have h2 := zeroRow
  have h3 := fun w => run_neq_row w d emptyRow
  have qe := eqGuardRow
  rw [he] at h3
  clear N he
  generalize rowCells d = A at h1 h3
  generalize rowCells emptyRow = Z at h2 h3
  go_enter Try.func48, Try.ntmps48
  go_wp2_with (first | (refine wpList_row_load rfl _ rfl q A rfl h1 ?_) | (refine wpList_row_zero rfl rfl Z (h2 _) ?_) | (refine wpList_row_neq rfl _ _ rfl A Z _ rfl rfl (h3 _) ?_))
  go_ret
  exact ⟨rfl, rfl⟩

set_option maxHeartbeats 400000 in
theorem drop_yes (w : World) (p b q n : Nat) (K : Int → Option Nat) (d : Nd) (id : Int) (hc : w.cell? ⟨p, 0, none⟩ = some (.map (some b))) (N : NodeAt w q d) (hM : KMap w b n K) (hid : I64 id)
    (hl : (Instr.lookup 67 (.map (some b)) (.int .i64 id) false).run Try.prog w = .ok (.pointer (some ⟨q, 0, none⟩)) w) (he : ((List.range 16).all fun i => M.eq (d.f i) (emptyRow.f i)) = true) :
    Calls Try.prog 48 #[.pointer (some ⟨p, 0, none⟩), .int .i64 id] w fun e w' => e = .returned (.int .i64 0) ∧ KMap w' b n (fun j => if j = id then none else K j) ∧ w.grownBy w' (some b) := by
  have h1 := N.load
  have h2 := zeroRow
  have h3 := fun w => run_neq_row w d emptyRow
  have qe := eqGuardRow
  rw [he] at h3
  clear N he
  generalize rowCells d = A at h1 h3
  generalize rowCells emptyRow = Z at h2 h3
  go_enter Try.func48, Try.ntmps48
  go_wp2_with (first | (at_delete; refine wpList_del_node rfl _ _ rfl b n K id rfl rfl hM hid ?_; intro w' hM' hg') | (refine wpList_row_load rfl _ rfl q A rfl h1 ?_) | (refine wpList_row_zero rfl rfl Z (h2 _) ?_) | (refine wpList_row_neq rfl _ _ rfl A Z _ rfl rfl (h3 _) ?_))
  go_ret
  exact ⟨rfl, hM', hg'⟩

/-! ### In the chapter's words -/
namespace M
def inB (id r : Int) : Bool := decide (0 ≤ id) && decide (id ≤ 63) && decide (1 ≤ r) && decide (r ≤ 4)
def addE (S : St) (id r : Int) : Int := if inB id r then (match S id with | none => 0 | some _ => 4) else 1
def addS (S : St) (id r : Int) : St := if addE S id r = 0 then fun j => if j = id then some ⟨r.toNat, fun _ => C.zero⟩ else S j else S
/-- Whether all slots are empty. -/
def nulN (d : Nd) : Bool := (List.range 16).all fun i => (d.f i).k == 0
def dropE (S : St) (id : Int) : Int := match S id with
  | none => 3
  | some d => if nulN d then 0 else 8
def dropS (S : St) (id : Int) : St := if dropE S id = 0 then fun j => if j = id then none else S j else S
theorem addE_ok {S : St} {id r : Int} (h : addE S id r = 0) : inB id r = true ∧ S id = none := by
  unfold addE at h
  split at h
  · rename_i h1
    cases hs : S id with
    | none => exact ⟨h1, rfl⟩
    | some d => rw [hs] at h; cases h
  · cases h
theorem inB_yes {id r : Int} (h : inB id r = true) : 0 ≤ id ∧ id ≤ 63 ∧ ∃ n : Nat, r = n ∧ 1 ≤ n ∧ n ≤ 4 := by
  simp only [inB, Bool.and_eq_true, decide_eq_true_eq] at h
  exact ⟨by omega, by omega, r.toNat, by omega, by omega, by omega⟩
end M

theorem Good.add {S : St} (G : Good S) (id r : Int) : Good (M.addS S id r) := by
  unfold M.addS
  split
  · rename_i h
    obtain ⟨h1, _⟩ := M.addE_ok h
    obtain ⟨i0, i1, n, rfl, n1, n4⟩ := M.inB_yes h1
    have key : ∀ j d, (if j = id then some (⟨(n : Int).toNat, fun _ => C.zero⟩ : Nd) else S j) = some d → (j = id ∧ d = ⟨n, fun _ => C.zero⟩) ∨ S j = some d := by
      intro j d h
      split at h
      · rename_i e; simp at h; exact .inl ⟨e, h.symm⟩
      · exact .inr h
    refine ⟨?_, ?_, ?_, ?_, ?_⟩
    · intro j d h
      rcases key j d h with ⟨rfl, _⟩ | h
      · exact ⟨i0, i1⟩
      · exact G.lo _ _ h
    · intro j d h
      rcases key j d h with ⟨_, rfl⟩ | h
      · exact ⟨n1, n4⟩
      · exact G.rad _ _ h
    · intro j d i h hi
      rcases key j d h with ⟨_, rfl⟩ | h
      · rfl
      · exact G.out _ _ i h hi
    · intro j d i h
      rcases key j d h with ⟨_, rfl⟩ | h
      · exact fun _ => rfl
      · exact G.nul _ _ i h
    · intro j d i h
      rcases key j d h with ⟨_, rfl⟩ | h
      · exact M.chk_zero
      · exact G.chk _ _ i h
  · exact G
theorem Good.drop {S : St} (G : Good S) (id : Int) : Good (M.dropS S id) := by
  unfold M.dropS
  split
  · have key : ∀ j d, (if j = id then (Option.none : Option Nd) else S j) = some d → S j = some d := by
      intro j d h
      split at h
      · cases h
      · exact h
    exact ⟨fun j d h => G.lo _ _ (key j d h), fun j d h => G.rad _ _ (key j d h), fun j d i h => G.out _ _ i (key j d h), fun j d i h => G.nul _ _ i (key j d h), fun j d i h => G.chk _ _ i (key j d h)⟩
  · exact G

theorem SAt.still {w : World} {p m : Nat} {O : Nat → Prop} {S : St} (h : SAt w p m O S) : SAt w p (m + 1) (fun i => O i ∨ (i = w.heap.size ∧ i < w.heap.size)) S := h.mono (fun i hi => .inl hi) (by omega)

theorem add_is {w : World} {p m : Nat} {O : Nat → Prop} {S : St} (h : SAt w p m O S) (G : Good S) (id r e : Int) (hid : I64 id) (hm : m ≤ 1000) (he : M.addE S id r = e) :
    Calls Try.prog 29 #[.pointer (some ⟨p, 0, none⟩), .int .i64 id, .int .i64 r] w fun x w' => x = .returned (.int .i64 e) ∧ SAt w' p (m + 1) (fun i => O i ∨ (i = w.heap.size ∧ i < w'.heap.size)) (M.addS S id r) ∧ Fr O w w' := by
  subst he
  have H := h
  obtain ⟨b, K, h, op, ob, oq⟩ := h
  have hl := h.map.look id hid
  cases hB : M.inB id r
  · have e : M.addE S id r = 1 := by unfold M.addE; rw [hB]; rfl
    have es : M.addS S id r = S := by unfold M.addS; rw [if_neg (by rw [e]; decide)]
    rw [e, es]
    refine (add_range w p id r ?_).mono ?_
    · simp only [M.inB, Bool.and_eq_false_iff, decide_eq_false_iff_not] at hB; omega
    · rintro x w' ⟨rfl, rfl⟩; exact ⟨rfl, H.still, Fr.refl _ _⟩
  · obtain ⟨i0, i1, n, rfl, n1, n4⟩ := M.inB_yes hB
    cases hk : K id with
    | some q =>
      rw [hk] at hl
      obtain ⟨d, hd, _⟩ := h.node id q hk
      have e : M.addE S id n = 4 := by unfold M.addE; rw [hB, hd]; rfl
      have es : M.addS S id n = S := by unfold M.addS; rw [if_neg (by rw [e]; decide)]
      rw [e, es]
      refine (add_twice w p b q id n (by omega) (by omega) (by omega) (by omega) h.cell hl).mono ?_
      rintro x w' ⟨rfl, rfl⟩; exact ⟨rfl, H.still, Fr.refl _ _⟩
    | none =>
      rw [hk] at hl
      have hs := h.gone id hk
      have e : M.addE S id n = 0 := by unfold M.addE; rw [hB, hs]; rfl
      have es : M.addS S id n = fun j => if j = id then some ⟨n, fun _ => C.zero⟩ else S j := by unfold M.addS; rw [if_pos e]; simp
      rw [e, es]
      refine (add_yes w p b m n K id (by omega) (by omega) (by omega) (by omega) h.cell hl h.map hid hm).mono ?_
      rintro x w' ⟨rfl, W, N, g0, hz, g1, KM⟩
      have F1 : Fr (fun i => i = b) W w' := Fr.at g1 rfl
      have h1 := h.kept g0
      have hnew : w.heap.size < w'.heap.size := by have := g1.size; omega
      refine ⟨rfl, ⟨b, _, ⟨(F1.block p h1.plt h1.pb).trans h1.box, KM, ?_, ?_, ?_⟩, .inl op, .inl ob, ?_⟩, (Fr.grown g0).trans (Fr.at g1 ob)⟩
      · intro j hj
        split at hj
        · cases hj
        · rename_i hne; rw [if_neg hne]; exact h.gone j hj
      · intro j q hj
        split at hj
        · rename_i he
          cases hj
          rw [if_pos he]
          exact ⟨_, rfl, N.fr F1 (fun e2 => by have := h.map.lt; omega)⟩
        · rename_i hne
          rw [if_neg hne]
          obtain ⟨d, hd, N2⟩ := h1.node j q hj
          exact ⟨d, hd, N2.fr F1 (h1.qb hj)⟩
      · have lt : ∀ j q, K j = some q → q < w.heap.size := fun j q hj => by obtain ⟨_, _, N2⟩ := h.node j q hj; exact N2.lt
        intro j j' q hj hj'
        split at hj
        · rename_i e1
          cases hj
          split at hj'
          · rename_i e2; rw [e1, e2]
          · exact absurd (lt _ _ hj') (Nat.lt_irrefl _)
        · split at hj'
          · cases hj'; exact absurd (lt _ _ hj) (Nat.lt_irrefl _)
          · exact h.inj j j' q hj hj'
      · intro j q hj
        split at hj
        · cases hj; exact .inr ⟨rfl, hnew⟩
        · exact .inl (oq j q hj)

theorem M.nulN_is {S : St} (G : Good S) {id : Int} {d : Nd} (hd : S id = some d) : ((List.range 16).all fun i => M.eq (d.f i) (emptyRow.f i)) = M.nulN d := by
  unfold M.nulN
  congr 1
  funext i
  have hz : emptyRow.f i = C.zero := rfl
  rw [hz]
  by_cases h : (d.f i).k = 0
  · rw [G.nul id d i hd h]; rfl
  · have h1 : ((d.f i).k == 0) = false := by simpa using h
    rw [h1]
    cases hq : M.eq (d.f i) C.zero
    · rfl
    · rw [M.eq_iff.1 hq] at h; exact absurd rfl h

theorem drop_is {w : World} {p m : Nat} {O : Nat → Prop} {S : St} (h : SAt w p m O S) (G : Good S) (id e : Int) (hid : I64 id) (he : M.dropE S id = e) :
    Calls Try.prog 48 #[.pointer (some ⟨p, 0, none⟩), .int .i64 id] w fun x w' => x = .returned (.int .i64 e) ∧ SAt w' p m O (M.dropS S id) ∧ Fr O w w' := by
  subst he
  have H := h
  obtain ⟨b, K, h, op, ob, oq⟩ := h
  have hl := h.map.look id hid
  cases hk : K id with
  | none =>
    rw [hk] at hl
    have e : M.dropE S id = 3 := by unfold M.dropE; rw [h.gone id hk]
    have es : M.dropS S id = S := by unfold M.dropS; rw [if_neg (by rw [e]; decide)]
    rw [e, es]
    refine (drop_no w p b id h.cell hl).mono ?_
    rintro x w' ⟨rfl, rfl⟩; exact ⟨rfl, H, Fr.refl _ _⟩
  | some q =>
    rw [hk] at hl
    obtain ⟨d, hd, N⟩ := h.node id q hk
    have hn := M.nulN_is G hd
    cases hz : M.nulN d
    · have e : M.dropE S id = 8 := by unfold M.dropE; rw [hd]; simp [hz]
      have es : M.dropS S id = S := by unfold M.dropS; rw [if_neg (by rw [e]; decide)]
      rw [e, es]
      refine (drop_state w p b q d id h.cell N hl (hn.trans hz)).mono ?_
      rintro x w' ⟨rfl, rfl⟩; exact ⟨rfl, H, Fr.refl _ _⟩
    · have e : M.dropE S id = 0 := by unfold M.dropE; rw [hd]; simp [hz]
      have es : M.dropS S id = fun j => if j = id then none else S j := by unfold M.dropS; rw [if_pos e]
      rw [e, es]
      refine (drop_yes w p b q m K d id h.cell N h.map hid hl (hn.trans hz)).mono ?_
      rintro x w' ⟨rfl, KM, g⟩
      have F1 : Fr (fun i => i = b) w w' := Fr.at g rfl
      refine ⟨rfl, ⟨b, _, ⟨(F1.block p h.plt h.pb).trans h.box, KM, ?_, ?_, ?_⟩, op, ob, ?_⟩, Fr.at g ob⟩
      · intro j hj
        split
        · rfl
        · rename_i hne; rw [if_neg hne] at hj; exact h.gone j hj
      · intro j q hj
        split at hj
        · cases hj
        · rename_i hne
          rw [if_neg hne]
          obtain ⟨d, hd, N2⟩ := h.node j q hj
          exact ⟨d, hd, N2.fr F1 (h.qb hj)⟩
      · intro j j' q hj hj'
        split at hj
        · cases hj
        · split at hj'
          · cases hj'
          · exact h.inj j j' q hj hj'
      · intro j q hj
        split at hj
        · cases hj
        · exact oq j q hj

end Go.Proofs.Ytkpcdfiebjigbaa
