/-
  LISTS OF NODES THAT ARE APPENDED TO ONE ANOTHER; a node's slots, made; the document's list with one node more, or one fewer.
-/
import Derived.Test.YtakappaaiknpfaaRfull
import Derived.Maps.AppendAt
namespace Go.Proofs.Ytakappaaiknpfaa
open Go.RowKit
set_option linter.unusedVariables false

theorem Try.infoNode : (Try.prog.info? 80).map (fun i => (i.zero, i.size, i.bytes)) = some (some (.agg #[.int .i64 0, .int .i64 0, .slice none 0 0]), 3, 40) := by kernel_rfl

theorem run_append3 (w : World) (B : Nat) (v : Value) (l : List RE) (hown : Lst3 w B v l) (ty : TypeId) (ox : Option Addr) (m c : Nat) (k : List RE) (hm : k.length = m) (hno : ox = none → m = 0) (hx : ∀ ad, ox = some ad → ∀ j u, (cells3 k)[j]? = some u → w.cell? (ad.add j) = some u) (hn : l.length + m ≤ 1000) (hB : B ≤ w.heap.size) :
    ∃ v' w', (Builtin.append_ #[54, 54] ty #[v, .slice ox m c]).run Try.prog w = .ok v' w' ∧ Lst3 w' B v' (l ++ k) ∧ w.grownBy w' v.ownBlock ∧ (v'.ownBlock = v.ownBlock ∨ v'.ownBlock = some w.heap.size) := by
  obtain ⟨i, hi, hx0⟩ := Option.map_eq_some_iff.1 Try.infoNode
  simp only [Prod.mk.injEq] at hx0
  obtain ⟨hz0, hz1, hz2⟩ := hx0
  cases ox with
  | some ad =>
    obtain ⟨v', w', h1, h2, h3, _, h5⟩ := run_append_own_at (P := Try.prog) w B 54 ty 80 i (.agg #[.int .i64 0, .int .i64 0, .slice none 0 0]) 3 40 Try.underlying54 hi hz0 hz1 hz2 (by kernel_rfl) (by decide) v l.length (cells3 l) hown ad m c (cells3 k) (by rw [cells3_len, hm]) (hx ad rfl) (cells3_one k) (by unfold maxLen; omega) (by omega) hB
    refine ⟨v', w', h1, ?_, h3, h5⟩
    unfold Lst3
    rw [← cells3_app, List.length_append, hm]
    exact h2
  | none =>
    obtain rfl : m = 0 := hno rfl
    obtain rfl : k = [] := List.eq_nil_of_length_eq_zero hm
    refine ⟨v, w, ?_, by rw [List.append_nil]; exact hown, gbRefl _ _, .inl rfl⟩
    rcases hown.2 with ⟨rfl, _⟩ | ⟨g, cap, cur, rfl, _, _, hnc, _⟩
    · simp [Builtin.append_, run_underlying Try.underlying54, sizeOf, typeInfo, hi, Builtin.lenOf, Builtin.firstCells]
    · have : l.length + 0 ≤ cap := by omega
      simp [Builtin.append_, run_underlying Try.underlying54, sizeOf, typeInfo, hi, Builtin.lenOf, Builtin.firstCells, storeCells, hnc]

theorem wpList_append3 {w : World} {ops : Array Oper} {rest : List Oper} {o : Oper} {a : Act} {Q : Exit → Act → World → Prop} (hgd : o.guard = none) (s x : Operand)
    (ho : o.op = .call { callee := .builtin .append, args := #[s, x], argTypes := #[54, 54] })
    (B : Nat) (v : Value) (l : List RE) (hs : a.eval s = v) (hown : Lst3 w B v l) (ox : Option Addr) (m c : Nat) (k : List RE) (hx : a.eval x = .slice ox m c) (hm : k.length = m) (hno : ox = none → m = 0) (hxc : ∀ ad, ox = some ad → ∀ j u, (cells3 k)[j]? = some u → w.cell? (ad.add j) = some u)
    (hn : l.length + m ≤ 1000) (hB : B ≤ w.heap.size)
    (h : ∀ v' w', Lst3 w' B v' (l ++ k) → w.grownBy w' v.ownBlock → (v'.ownBlock = v.ownBlock ∨ v'.ownBlock = some w.heap.size) → wpList Try.prog ops Q rest (a.put o.dst v') w') : wpList Try.prog ops Q (o :: rest) a w := by
  refine wpList_plain hgd fun K' hK' => ?_
  obtain ⟨v', w', hr, h1, h2, h3⟩ := run_append3 w B v l hown o.type ox m c k hm hno hxc hn hB
  unfold Oper.wp execOp
  simp only [ho, resolve, invoke, builtin, Sem.run_bind, Sem.run_pure, Result.andThen_ok, List.map_toArray, List.map_cons, List.map_nil, hs, hx, hr]
  exact hK' _ _ (h v' w' h1 h2 h3)
theorem step_append3 {ops : Array Oper} {o : Oper} {a : Act} {w : World} {K : Act → World → Prop} {Q : Exit → Act → World → Prop} {E : Prop} (hg : o.guard = none) (s x : Operand)
    (ho : o.op = Op.call { callee := Callee.builtin Builtin.append, args := #[s, x], argTypes := #[54, 54] })
    (B : Nat) (v : Value) (l : List RE) (hs : a.eval s = v) (hown : Lst3 w B v l) (ox : Option Addr) (m c : Nat) (k : List RE) (hx : a.eval x = .slice ox m c) (hm : k.length = m) (hno : ox = none → m = 0) (hxc : ∀ ad, ox = some ad → ∀ j u, (cells3 k)[j]? = some u → w.cell? (ad.add j) = some u)
    (hn : l.length + m ≤ 1000) (hB : B ≤ w.heap.size)
    (h : ∀ v' w', Lst3 w' B v' (l ++ k) → w.grownBy w' v.ownBlock → (v'.ownBlock = v.ownBlock ∨ v'.ownBlock = some w.heap.size) → K (a.put o.dst v') w') :
    if Region.wanted o (yielded ops a.tmps) = true then Oper.wp Try.prog o a w K Q else E := by
  have hw : Region.wanted o (yielded ops a.tmps) = true := by simp [Region.wanted, hg]
  rw [if_pos hw]
  obtain ⟨v', w', hr, h1, h2, h3⟩ := run_append3 w B v l hown o.type ox m c k hm hno hxc hn hB
  unfold Oper.wp execOp
  simp only [ho, resolve, invoke, builtin, Sem.run_bind, Sem.run_pure, Result.andThen_ok, List.map_toArray, List.map_cons, List.map_nil, hs, hx, hr]
  exact h v' w' h1 h2 h3

/-- The empty list, as it is written out. -/
theorem Lst3.made (w : World) : Lst3 (w.alloc (.cells #[] 80)) w.heap.size (.slice (some ⟨w.heap.size, 0, none⟩) 0 0) [] :=
  w.ownsRow_made (base := w.heap.size) (e := 80) (size := 3) #[] 0 (Nat.le_refl _) (by decide) (by simp)
/-- The head of a list, and what lies behind it. -/
theorem Lst3.headCells {w : World} {B g n cap : Nat} {l : List RE} (h : Lst3 w B (.slice (some ⟨g, 0, none⟩) n cap) l) (c : Nat) : ∀ j u, (cells3 (l.take c))[j]? = some u → w.cell? ((⟨g, 0, none⟩ : Addr).add j) = some u := by
  intro j u hu
  rw [← cells3_take, List.getElem?_take] at hu
  split at hu
  · rw [Addr.add_lit, Nat.zero_add]; exact h.cell j u hu
  · cases hu
theorem Lst3.tailCells {w : World} {B g n cap : Nat} {l : List RE} (h : Lst3 w B (.slice (some ⟨g, 0, none⟩) n cap) l) (c : Nat) : ∀ j u, (cells3 (l.drop c))[j]? = some u → w.cell? ((⟨g, c * 3, none⟩ : Addr).add j) = some u := by
  intro j u hu
  rw [← cells3_drop, List.getElem?_drop] at hu
  rw [Addr.add_lit]; exact h.cell _ u hu

/-- A node's slots, made. -/
abbrev zero6 : Array Value := #[.int .i64 0, .int .i64 0, .int .i64 0, .int .u64 0, .int .u64 0, .int .i64 0]
theorem Try.infoCap : (Try.prog.info? 26).map (fun i => (i.zero, i.size, i.bytes)) = some (some (.agg zero6), 6, 48) := by kernel_rfl
theorem run_make_caps (q : Nat) (hq : q ≤ 16) (w : World) : (Instr.makeSlice 78 (.int .i64 (q : Int)) (.int .i64 (q : Int))).run Try.prog w = .ok (.slice (some ⟨w.heap.size, 0, none⟩) q q) (w.alloc (.cells (madeCells zero6 (q * 6)) 26)) := by
  obtain ⟨i, hi, hx0⟩ := Option.map_eq_some_iff.1 Try.infoCap
  simp only [Prod.mk.injEq] at hx0
  obtain ⟨hz0, hz1, hz2⟩ := hx0
  have hr := run_make (P := Try.prog) w 78 26 i _ Try.underlying78 hi hz0 .i64 .i64 q q (by omega) (Int.le_refl _) (by rw [hz2]; omega) (by omega)
  simp only [Int.toNat_natCast, hz1] at hr
  exact hr
theorem CapsAt.made (w : World) (r : Nat) : CapsAt (w.alloc (.cells (madeCells zero6 (2 ^ r * 6)) 26)) w.heap.size ⟨r, fun _ => C.zero⟩ := by
  refine ⟨_, Deep.blk_alloc_new _ _, size_madeCells _ _, fun i hi => ?_⟩
  simp only at hi
  have : i % 6 = 0 ∨ i % 6 = 1 ∨ i % 6 = 2 ∨ i % 6 = 3 ∨ i % 6 = 4 ∨ i % 6 = 5 := by omega
  rcases this with e | e | e | e | e | e <;> simp [madeCells, hi, e, fld]

end Go.Proofs.Ytakappaaiknpfaa
