/-
  THE SLOTS THAT ARE NOT EMPTY, as a list; lists that are gone through.
-/
import Derived.Test.YtdnoidnpiaadaaaGreatG21
import Derived.Test.YtdnoidnpiaadaaaGreatAwy
import Derived.Test.YtdnoidnpiaadaaaGreatArgs
import Derived.Deep.MidRow
import Derived.Test.YtdnoidnpiaadaaaGreatG18
import Derived.Maps.AppendAt
import Derived.Test.YtdnoidnpiaadaaaGreatG20
namespace Go.Proofs.YtdnoidnpiaadaaaGreat
set_option maxRecDepth 10000
open Go.RowKit
set_option linter.unusedVariables false

/-- An element of a list in memory, where it lies. -/
theorem LB.at {wc : World} {Oc : Nat → Prop} {v : Value} {L : List (Int × Int)} (h : LB wc Oc v L) {i : Nat} (hi : i < L.length) : ∃ g cap a b, v = .slice (some ⟨g, 0, none⟩) L.length cap ∧ L[i]? = some (a, b) ∧ El wc ((⟨g, 0, none⟩ : Addr).add (i * 2)) a b ∧ ¬ Oc g := by
  rcases h.ls.form with ⟨rfl, rfl⟩ | ⟨g, cap, rfl, _, _, _, _, hr⟩
  · simp at hi
  · obtain ⟨⟨a, b⟩, hab⟩ : ∃ x, L[i]? = some x := ⟨L[i], by simp [hi]⟩
    exact ⟨g, cap, a, b, rfl, hab, hr i (a, b) hab, h.no g rfl⟩
theorem LB.slice {wc : World} {Oc : Nat → Prop} {v : Value} {L : List (Int × Int)} (h : LB wc Oc v L) : ∃ xo cap, v = .slice xo L.length cap := by
  rcases h.ls.form with ⟨rfl, rfl⟩ | ⟨g, cap, rfl, _⟩
  · exact ⟨none, 0, rfl⟩
  · exact ⟨_, cap, rfl⟩
/-- A slot's name in a block, from an offset on. -/
structure Ex (w : World) (g o : Nat) (a b : Int) : Prop where
  at0 : w.cell? ⟨g, o, none⟩ = some (.int .i64 a)
  at1 : w.cell? ⟨g, o + 1, none⟩ = some (.int .i64 b)
theorem Ex.kept {w w' : World} {g o : Nat} {a b : Int} (h : Ex w g o a b) (k : w.grownBy w' none) : Ex w' g o a b := ⟨k.cell h.at0 (by simp), k.cell h.at1 (by simp)⟩
theorem Fr.ex {O : Nat → Prop} {w w' : World} {g o : Nat} {a b : Int} (F : Fr O w w') (h : Ex w g o a b) (ho : ¬ O g) : Ex w' g o a b := ⟨F.cell h.at0 ho, F.cell h.at1 ho⟩
theorem LB.el {wc : World} {Oc : Nat → Prop} {xo : Option Addr} {n cap : Nat} {L : List (Int × Int)} (h : LB wc Oc (.slice xo n cap) L) {i : Nat} (hi : i < L.length) : ∃ g a b, xo = some ⟨g, 0, none⟩ ∧ L[i]? = some (a, b) ∧ Ex wc g (i * 2) a b ∧ ¬ Oc g := by
  obtain ⟨g, cap', a, b, h1, h2, h3, h4⟩ := h.at hi
  simp only [Value.slice.injEq] at h1
  refine ⟨g, a, b, h1.1, h2, ?_, h4⟩
  have e : (⟨g, 0, none⟩ : Addr).add (i * 2) = ⟨g, i * 2, none⟩ := by unfold Addr.add; split <;> simp_all
  rw [e] at h3
  exact ⟨h3.at0, h3.at1⟩
/-- What an indexed call reads. -/
abbrev Rx0 (w : World) (p j q g o o' : Nat) (a b : Int) : Prop := Ptr w p j q ∧ w.cell? ⟨g, o, none⟩ = some (.int .i64 a) ∧ w.cell? ⟨g, o', none⟩ = some (.int .i64 b)
theorem Rx0.kept {w w' : World} {p j q g o o' : Nat} {a b : Int} (h : Rx0 w p j q g o o' a b) (k : w.grownBy w' none) : Rx0 w' p j q g o o' a b := ⟨k.cell h.1 (by simp), k.cell h.2.1 (by simp), k.cell h.2.2 (by simp)⟩
theorem M.getE_ok {S : St} {a b : Int} (h : M.th S (a, b) = true) : M.getE S a b = 0 := by unfold M.getE; exact if_pos h
end Go.Proofs.YtdnoidnpiaadaaaGreat

/-
  AN ACT AS ONE VALUE: loads and stores of eighteen cells by laws of their own (written by mkopq.py).
-/
namespace Go.Proofs.YtdnoidnpiaadaaaGreat
set_option maxRecDepth 10000
open Go.RowKit
set_option linter.unusedVariables false

def qcs (q : Q) : List Value := [.int .i64 q.k, .int .i64 q.a, .int .i64 q.a2, .int .i64 q.b, .int .i64 q.b2, .int .i64 q.d, .int .i64 q.d2, .int .i64 q.c.k, .int .i64 q.c.o, .int .i64 q.c.r, .int .u64 q.c.b, .int .u64 q.c.g, .int .i64 q.c.n, .int .i64 q.n, .int .i64 q.rt, .int .u64 q.bd, .int .u64 q.gd, .int .i64 q.bt]
theorem qcs_len (q : Q) : (qcs q).length = 18 := rfl
theorem El18.all {w : World} {y : Addr} {q : Q} (h : El18 w y q) : ∀ j v, (qcs q)[j]? = some v → w.cell? (y.add j) = some v := by
  intro j v hv
  have hj : j < 18 := by have := (List.getElem?_eq_some_iff.1 hv).1; rw [qcs_len] at this; exact this
  have z : y.add 0 = y := by unfold Addr.add; simp
  match j, hj with
  | 0, _ => rw [z]; cases hv; exact h.at0
  | 1, _ => rw [add_pos _ _ (by decide)]; cases hv; exact h.at1
  | 2, _ => rw [add_pos _ _ (by decide)]; cases hv; exact h.at2
  | 3, _ => rw [add_pos _ _ (by decide)]; cases hv; exact h.at3
  | 4, _ => rw [add_pos _ _ (by decide)]; cases hv; exact h.at4
  | 5, _ => rw [add_pos _ _ (by decide)]; cases hv; exact h.at5
  | 6, _ => rw [add_pos _ _ (by decide)]; cases hv; exact h.at6
  | 7, _ => rw [add_pos _ _ (by decide)]; cases hv; exact h.at7
  | 8, _ => rw [add_pos _ _ (by decide)]; cases hv; exact h.at8
  | 9, _ => rw [add_pos _ _ (by decide)]; cases hv; exact h.at9
  | 10, _ => rw [add_pos _ _ (by decide)]; cases hv; exact h.at10
  | 11, _ => rw [add_pos _ _ (by decide)]; cases hv; exact h.at11
  | 12, _ => rw [add_pos _ _ (by decide)]; cases hv; exact h.at12
  | 13, _ => rw [add_pos _ _ (by decide)]; cases hv; exact h.at13
  | 14, _ => rw [add_pos _ _ (by decide)]; cases hv; exact h.at14
  | 15, _ => rw [add_pos _ _ (by decide)]; cases hv; exact h.at15
  | 16, _ => rw [add_pos _ _ (by decide)]; cases hv; exact h.at16
  | 17, _ => rw [add_pos _ _ (by decide)]; cases hv; exact h.at17
theorem run_load_op {w : World} {y : Addr} {q : Q} (h : El18 w y q) : (Instr.loadAt 33 (.pointer (some y))).run Tryz.prog w = .ok (.agg (qcs q).toArray) w := by
  have hl : (loadCells y (qcs q).length).run Tryz.prog w = .ok (qcs q).toArray w := run_loadCells_list (P := Tryz.prog) w y (qcs q) h.all
  have hi : (Tryz.prog.info? 33).map (·.size) = some 18 := by kernel_rfl
  cases hq : Tryz.prog.info? 33 with
  | none => simp [hq] at hi
  | some i =>
    have hs : i.size = (qcs q).length := by rw [qcs_len]; simpa [hq] using hi
    have hagg : (isAgg 33).run Tryz.prog w = .ok true w := by
      unfold isAgg
      rw [Sem.run_bind, run_underlying Tryz.underlying33 w]
      rfl
    simp only [Instr.loadAt, Instr.sureAddr, Sem.run_bind, Sem.run_pure, Result.andThen_ok]
    simp [loadVar, Sem.run_bind, hagg, sizeOf, typeInfo, hq, hs, hl]
theorem wpList_load_op {w : World} {ops : Array Oper} {rest : List Oper} {o : Oper} {a : Act} {Q' : Exit → Act → World → Prop} (hg : o.guard = none) (x : Operand) (ho : o.op = .load 33 x)
    (y : Addr) (q : Q) (hx : a.eval x = .pointer (some y)) (hl : El18 w y q)
    (h : wpList Tryz.prog ops Q' rest (a.put o.dst (.agg (qcs q).toArray)) w) : wpList Tryz.prog ops Q' (o :: rest) a w :=
  wpList_plain hg fun K' hK' => by
    unfold Oper.wp execOp
    simp only [ho, hx, Sem.run_bind, run_load_op hl, Result.andThen_ok, Sem.run_pure]
    exact hK' _ _ h
theorem gbSetCells (b : Nat) : ∀ (vs : List Value) (o : Nat) (w : World), w.grownBy (w.setCells b o vs) (some b)
  | [], _, w => gbRefl w _
  | v :: vs, o, w => by rw [World.setCells]; exact gbTrans (gbSetCell _ _ _ _) (gbSetCells b vs (o + 1) _)
theorem qcs_one (q : Q) : ∀ v ∈ qcs q, v.oneCell' = true := by
  intro v hv
  unfold qcs at hv
  simp only [List.mem_cons, List.not_mem_nil, or_false] at hv
  rcases hv with rfl | rfl | rfl | rfl | rfl | rfl | rfl | rfl | rfl | rfl | rfl | rfl | rfl | rfl | rfl | rfl | rfl | rfl <;> rfl
end Go.Proofs.YtdnoidnpiaadaaaGreat

/-
  LISTS OF CAPABILITIES IN MEMORY; WHAT A CALL THAT TAKES AWAY HAS IN MEMORY: the Caps, how many steps are left, what was told; lists of slots that are appended to in place. Speaks of no function of package revoke.
-/
namespace Go.Proofs.YtdnoidnpiaadaaaGreat
set_option maxRecDepth 10000
open Go.RowKit
set_option linter.unusedVariables false

/-! ### Lists of capabilities -/
def cellsC (T : List C) : List Value := T.flatMap fun c => [.int .i64 c.k, .int .i64 c.o, .int .i64 c.r, .int .u64 c.b, .int .u64 c.g, .int .i64 c.n]
theorem cellsC_cons (c : C) (T : List C) : cellsC (c :: T) = .int .i64 c.k :: .int .i64 c.o :: .int .i64 c.r :: .int .u64 c.b :: .int .u64 c.g :: .int .i64 c.n :: cellsC T := rfl
theorem cellsC_app (T K : List C) : cellsC T ++ cellsC K = cellsC (T ++ K) := by unfold cellsC; simp
theorem cellsC_len (T : List C) : (cellsC T).length = T.length * 6 := by
  induction T with
  | nil => rfl
  | cons p L ih => rw [cellsC_cons]; simp [ih]; omega
theorem cellsC_get (T : List C) (i : Nat) (c : C) (h : T[i]? = some c) : (cellsC T)[i * 6]? = some (.int .i64 c.k) ∧ (cellsC T)[i * 6 + 1]? = some (.int .i64 c.o) ∧ (cellsC T)[i * 6 + 2]? = some (.int .i64 c.r) ∧ (cellsC T)[i * 6 + 3]? = some (.int .u64 c.b) ∧ (cellsC T)[i * 6 + 4]? = some (.int .u64 c.g) ∧ (cellsC T)[i * 6 + 5]? = some (.int .i64 c.n) := by
  induction T generalizing i with
  | nil => simp at h
  | cons q L ih =>
    rw [cellsC_cons]
    cases i with
    | zero => simp at h; subst h; exact ⟨rfl, rfl, rfl, rfl, rfl, rfl⟩
    | succ i =>
      have := ih i (by simpa using h)
      rw [show (i + 1) * 6 = i * 6 + 1 + 1 + 1 + 1 + 1 + 1 by omega]
      simpa using this
theorem cellsC_one (T : List C) : ∀ u ∈ cellsC T, u.oneCell' = true := by
  intro u hu
  unfold cellsC at hu
  simp at hu
  obtain ⟨a, _, rfl | rfl | rfl | rfl | rfl | rfl⟩ := hu <;> rfl
def TL (w : World) (B : Nat) (v : Value) (T : List C) : Prop := w.ownsRow B 25 6 v T.length (cellsC T)
theorem TL.nil (w : World) (B : Nat) : TL w B (.slice none 0 0) [] := World.ownsRow_nil w B 25 6
theorem TL.kept {w w' : World} {B : Nat} {v : Value} {T : List C} (h : TL w B v T) (g : w.grownBy w' none) : TL w' B v T := World.ownsRow.kept h g (by cases v.ownBlock <;> simp)
theorem TL.lt {w : World} {B : Nat} {v : Value} {T : List C} (h : TL w B v T) : ∀ k, v.ownBlock = some k → B ≤ k ∧ k < w.heap.size := World.ownsRow.lt h
theorem TL.block {w w' : World} {B : Nat} {v : Value} {T : List C} (h : TL w B v T) (e : ∀ k, v.ownBlock = some k → w'.heap[k]? = w.heap[k]?) : TL w' B v T := by
  refine ⟨h.1, ?_⟩
  rcases h.2 with h2 | ⟨g, cap, cur, rfl, h3, h4, h5⟩
  · exact .inl h2
  · exact .inr ⟨g, cap, cur, rfl, h3, (e g rfl).trans h4, h5⟩
theorem TL.fr {O : Nat → Prop} {w w' : World} {B : Nat} {v : Value} {T : List C} (h : TL w B v T) (F : Fr O w w') (hv : ∀ k, v.ownBlock = some k → ¬ O k) : TL w' B v T :=
  h.block (fun k hk => F.block k (h.lt k hk).2 (hv k hk))
theorem TL.keep {w w' : World} {B : Nat} {v : Value} {T : List C} {y : Nat} (h : TL w B v T) (g : w.grownBy w' (some y)) (hv : ∀ k, v.ownBlock = some k → k ≠ y) : TL w' B v T :=
  h.block (fun k hk => g.block k (h.lt k hk).2 (fun e => hv k hk (by cases e; rfl)))
theorem TL.base {w : World} {B B' : Nat} {v : Value} {T : List C} (h : TL w B v T) (hb : ∀ k, v.ownBlock = some k → B' ≤ k) : TL w B' v T := by
  refine ⟨h.1, ?_⟩
  rcases h.2 with h2 | ⟨g, cap, cur, rfl, h3, h4, h5⟩
  · exact .inl h2
  · exact .inr ⟨g, cap, cur, rfl, hb g rfl, h4, h5⟩
theorem TL.form {w : World} {B : Nat} {v : Value} {T : List C} (h : TL w B v T) :
    (v = .slice none 0 0 ∧ T = []) ∨ ∃ g cap, v = .slice (some ⟨g, 0, none⟩) T.length cap ∧ T.length ≤ cap ∧ B ≤ g ∧ g < w.heap.size ∧ cap ≤ 9223372036854775807 ∧ ∀ j u, (cellsC T)[j]? = some u → w.cell? ((⟨g, 0, none⟩ : Addr).add j) = some u := by
  have h0 := h.2
  rcases h0 with ⟨rfl, hn⟩ | ⟨g, cap, cur, rfl, hB, hg, hn, hm, _, _⟩
  · exact .inl ⟨rfl, List.eq_nil_of_length_eq_zero hn⟩
  · exact .inr ⟨g, cap, rfl, hn, hB, (World.ownsRow.lt h g rfl).2, by unfold maxLen at hm; omega, World.ownsRow.cells h (g := g) rfl⟩

abbrev sixCells (c : C) : Array Value := #[.int .i64 c.k, .int .i64 c.o, .int .i64 c.r, .int .u64 c.b, .int .u64 c.g, .int .i64 c.n]
theorem Tryz.infoCap11 : (Tryz.prog.info? 25).map (fun i => (i.zero, i.size, i.bytes)) = some (some (.agg (sixCells C.zero)), 6, 48) := by kernel_rfl
/-- append of the capabilities of K onto a list of the call's own. -/
theorem run_append_caps (w : World) (B : Nat) (v : Value) (T : List C) (hown : TL w B v T) (ty : TypeId) (ox : Option Addr) (m c : Nat) (K : List C) (hm : K.length = m) (hno : ox = none → m = 0) (hx : ∀ ad, ox = some ad → ∀ j u, (cellsC K)[j]? = some u → w.cell? (ad.add j) = some u) (hn : T.length + m ≤ 100000) (hB : B ≤ w.heap.size) :
    ∃ v' w', (Builtin.append_ #[65, 65] ty #[v, .slice ox m c]).run Tryz.prog w = .ok v' w' ∧ TL w' B v' (T ++ K) ∧ w.grownBy w' v.ownBlock ∧ (v'.ownBlock = v.ownBlock ∨ v'.ownBlock = some w.heap.size) := by
  obtain ⟨i, hi, hx0⟩ := Option.map_eq_some_iff.1 Tryz.infoCap11
  simp only [Prod.mk.injEq] at hx0
  obtain ⟨hz0, hz1, hz2⟩ := hx0
  cases ox with
  | some ad =>
    obtain ⟨v', w', h1, h2, h3, _, h5⟩ := run_append_own_at (P := Tryz.prog) w B 65 ty 25 i (.agg (sixCells C.zero)) 6 48 Tryz.underlying65 hi hz0 hz1 hz2 (by kernel_rfl) (by decide) v T.length (cellsC T) hown ad m c (cellsC K) (by rw [cellsC_len, hm]) (hx ad rfl) (cellsC_one K) (by unfold maxLen; omega) (by omega) hB
    refine ⟨v', w', h1, ?_, h3, h5⟩
    unfold TL
    rw [← cellsC_app, List.length_append, hm]
    exact h2
  | none =>
    obtain rfl : m = 0 := hno rfl
    obtain rfl : K = [] := List.eq_nil_of_length_eq_zero hm
    refine ⟨v, w, ?_, by rw [List.append_nil]; exact hown, gbRefl _ _, .inl rfl⟩
    rcases hown.2 with ⟨rfl, _⟩ | ⟨g, cap, cur, rfl, _, _, hnc, _⟩
    · simp [Builtin.append_, run_underlying Tryz.underlying65, sizeOf, typeInfo, hi, Builtin.lenOf, Builtin.firstCells]
    · have : T.length + 0 ≤ cap := by omega
      simp [Builtin.append_, run_underlying Tryz.underlying65, sizeOf, typeInfo, hi, Builtin.lenOf, Builtin.firstCells, storeCells, hnc]
theorem rowCap (w : World) (c : C) : ∀ j u, (cellsC [c])[j]? = some u → (w.alloc (.cells (sixCells c) 25)).cell? ((⟨w.heap.size, 0, none⟩ : Addr).add j) = some u := by
  intro j u h
  have hj : j < 6 := by have := (List.getElem?_eq_some_iff.1 h).1; rwa [cellsC_len] at this
  rw [Addr.add_lit, Nat.zero_add]
  have : j = 0 ∨ j = 1 ∨ j = 2 ∨ j = 3 ∨ j = 4 ∨ j = 5 := by omega
  rcases this with rfl | rfl | rfl | rfl | rfl | rfl <;> (simp [cellsC] at h; subst h; simp)
/-- append inside a region that draws its order, its run known. -/
theorem step_append_cap {ops : Array Oper} {o : Oper} {a : Act} {w : World} {K : Act → World → Prop} {Q : Exit → Act → World → Prop} {E : Prop} (hgd : o.guard = none) (s x : Operand)
    (ho : o.op = .call { callee := .builtin .append, args := #[s, x], argTypes := #[65, 65] }) (vs vx : Value) (hs : a.eval s = vs) (hx : a.eval x = vx)
    (v' : Value) (w' : World) (hr : (Builtin.append_ #[65, 65] o.type #[vs, vx]).run Tryz.prog w = .ok v' w') (h : K (a.put o.dst v') w') :
    if Region.wanted o (yielded ops a.tmps) = true then Oper.wp Tryz.prog o a w K Q else E := by
  have hw : Region.wanted o (yielded ops a.tmps) = true := by simp [Region.wanted, hgd]
  rw [if_pos hw]
  unfold Oper.wp execOp
  simp only [ho, resolve, invoke, builtin, Sem.run_bind, Sem.run_pure, Result.andThen_ok, List.map_toArray, List.map_cons, List.map_nil, hs, hx, hr]
  exact h
theorem wpList_append_cap {w : World} {ops : Array Oper} {rest : List Oper} {o : Oper} {a : Act} {Q : Exit → Act → World → Prop} (hgd : o.guard = none) (s x : Operand)
    (ho : o.op = .call { callee := .builtin .append, args := #[s, x], argTypes := #[65, 65] }) (vs vx : Value) (hs : a.eval s = vs) (hx : a.eval x = vx)
    (v' : Value) (w' : World) (hr : (Builtin.append_ #[65, 65] o.type #[vs, vx]).run Tryz.prog w = .ok v' w') (h : wpList Tryz.prog ops Q rest (a.put o.dst v') w') : wpList Tryz.prog ops Q (o :: rest) a w := by
  refine wpList_plain hgd fun K' hK' => ?_
  unfold Oper.wp execOp
  simp only [ho, resolve, invoke, builtin, Sem.run_bind, Sem.run_pure, Result.andThen_ok, List.map_toArray, List.map_cons, List.map_nil, hs, hx, hr]
  exact hK' _ _ h

/-! ### Lists of slots, appended to in place -/
theorem Lst.block {w w' : World} {B : Nat} {v : Value} {L : List (Int × Int)} (h : Lst w B v L) (e : ∀ k, v.ownBlock = some k → w'.heap[k]? = w.heap[k]?) : Lst w' B v L := by
  refine ⟨h.1, ?_⟩
  rcases h.2 with h2 | ⟨g, cap, cur, rfl, h3, h4, h5⟩
  · exact .inl h2
  · exact .inr ⟨g, cap, cur, rfl, h3, (e g rfl).trans h4, h5⟩
/-- What comes of an append: in place, or a new one. -/
structure Onto (w w' : World) (v v' : Value) : Prop where
  gr : w.grownBy w' v.ownBlock
  or : (∃ g n cap, v = .slice (some ⟨g, 0, none⟩) n cap ∧ v' = .slice (some ⟨g, 0, none⟩) (n + 1) cap) ∨ (v'.ownBlock = some (w.heap.size) ∧ w.grownBy w' none)
theorem run_append_slot1 (w : World) (B : Nat) (v : Value) (L : List (Int × Int)) (hown : Lst w B v L) (ty : TypeId) (ad : Addr) (c : Nat) (x : Int × Int) (hx : Row w ad [x]) (hn : L.length + 1 ≤ 100000) (hB : B ≤ w.heap.size) :
    ∃ v' w', (Builtin.append_ #[51, 51] ty #[v, .slice (some ad) 1 c]).run Tryz.prog w = .ok v' w' ∧ Lst w' B v' (L ++ [x]) ∧ Onto w w' v v' := by
  obtain ⟨i, hi, hx0⟩ := Option.map_eq_some_iff.1 Tryz.infoSlot
  simp only [Prod.mk.injEq] at hx0
  obtain ⟨hz0, hz1, hz2⟩ := hx0
  by_cases hroom : ∃ g cap, v = .slice (some ⟨g, 0, none⟩) L.length cap ∧ L.length + 1 ≤ cap
  · obtain ⟨g, cap, rfl, hr⟩ := hroom
    obtain ⟨w', h1, h2, h3⟩ := run_append_fits (P := Tryz.prog) w B 51 ty 31 i 2 Tryz.underlying51 hi hz1 g L.length cap (cellsL L) hown ad 1 c (cellsL [x]) rfl hx.cells (cellsL_one _) hr
    refine ⟨_, w', h1, ?_, h3, .inl ⟨g, L.length, cap, rfl, rfl⟩⟩
    unfold Lst
    rw [← cellsL_app, List.length_append]
    exact h2
  · obtain ⟨v', w', h1, h2, h3, _, h5⟩ := run_append_own_at (P := Tryz.prog) w B 51 ty 31 i (.agg #[.int .i64 0, .int .i64 0]) 2 16 Tryz.underlying51 hi hz0 hz1 hz2 (by kernel_rfl) (by decide) v L.length (cellsL L) hown ad 1 c (cellsL [x]) rfl hx.cells (cellsL_one _) (by unfold maxLen; omega) (by omega) hB
    have h2' : Lst w' B v' (L ++ [x]) := by
      unfold Lst
      rw [← cellsL_app, List.length_append]
      exact h2
    refine ⟨v', w', h1, h2', h3, .inr ?_⟩
    rcases hown.2 with ⟨rfl, hl⟩ | ⟨g, cap, cur, rfl, _, hg, hnc, hcm, hcs, htake⟩
    · have h3' : w.grownBy w' none := h3
      rcases h5 with h5 | h5
      · exfalso
        rcases h2'.form with ⟨_, e⟩ | ⟨g, cap, rfl, _⟩
        · simp at e
        · simp [Value.ownBlock] at h5
      · exact ⟨h5, h3'⟩
    · have hnr : ¬ L.length + 1 ≤ cap := fun k => hroom ⟨g, cap, rfl, k⟩
      have holds : ∀ j u, (cellsL L)[j]? = some u → w.cell? ((⟨g, 0, none⟩ : Addr).add j) = some u := World.ownsRow.cells hown (g := g) rfl
      have hr := run_append_grow (P := Tryz.prog) w 51 ty 31 i (.agg #[.int .i64 0, .int .i64 0]) Tryz.underlying51 hi hz0 ⟨g, 0, none⟩ L.length cap (cellsL L) (by rw [hz1]; exact hown.1) holds ad 1 c (cellsL [x]) (by rw [hz1]; rfl) hx.cells (by omega) (by omega) (growslice_fits (by omega) (by rw [hz2]; omega))
      rw [h1] at hr
      injection hr with e1 e2
      subst e1 e2
      exact ⟨rfl, ⟨rfl, rfl, rfl, by simp, fun k hk _ => (gbAlloc w.drew _ none).block k hk (by simp)⟩⟩
theorem wpList_append_slot1 {w : World} {ops : Array Oper} {rest : List Oper} {o : Oper} {a : Act} {Q : Exit → Act → World → Prop} (hgd : o.guard = none) (s x : Operand)
    (ho : o.op = .call { callee := .builtin .append, args := #[s, x], argTypes := #[51, 51] })
    (B : Nat) (v : Value) (L : List (Int × Int)) (hs : a.eval s = v) (hown : Lst w B v L) (ad : Addr) (c : Nat) (p : Int × Int) (hx : a.eval x = .slice (some ad) 1 c) (hnews : Row w ad [p]) (hn : L.length + 1 ≤ 100000) (hB : B ≤ w.heap.size)
    (h : ∀ v' w', Lst w' B v' (L ++ [p]) → Onto w w' v v' → wpList Tryz.prog ops Q rest (a.put o.dst v') w') : wpList Tryz.prog ops Q (o :: rest) a w := by
  refine wpList_plain hgd fun K' hK' => ?_
  obtain ⟨v', w', hr, h1, h2⟩ := run_append_slot1 w B v L hown o.type ad c p hnews hn hB
  unfold Oper.wp execOp
  simp only [ho, resolve, invoke, builtin, Sem.run_bind, Sem.run_pure, Result.andThen_ok, List.map_toArray, List.map_cons, List.map_nil, hs, hx, hr]
  exact hK' _ _ (h v' w' h1 h2)
/-- The front of a list is a list. -/
theorem Lst.front {w : World} {B g n cap : Nat} {L : List (Int × Int)} {x : Int × Int} (h : Lst w B (.slice (some ⟨g, 0, none⟩) (n + 1) cap) (L ++ [x])) (hn : L.length = n) : Lst w B (.slice (some ⟨g, 0, none⟩) n cap) L := by
  subst hn
  refine ⟨cellsL_len L, .inr ?_⟩
  rcases h.2 with ⟨e, _⟩ | ⟨g', cap', cur, e, h3, h4, h5, h6, h7, h8⟩
  · cases e
  · simp only [Value.slice.injEq, Option.some.injEq, Addr.mk.injEq, and_true] at e
    obtain ⟨rfl, _, rfl⟩ := e
    refine ⟨g, cap, cur, rfl, h3, h4, by simp at h5; omega, h6, h7, ?_⟩
    have h9 := congrArg (List.take (L.length * 2)) h8
    rw [List.take_take, ← cellsL_app] at h9
    rw [Nat.min_eq_left (by simp; omega)] at h9
    rw [h9, ← cellsL_len L, List.take_left]
/-- The list that was appended to, behind what was done with the new one. -/
theorem Onto.back {B : Nat} {O : Nat → Prop} {w w1 w2 : World} {v v' : Value} {L : List (Int × Int)} {x : Int × Int} (h : Lst w B v L) (o : Onto w w1 v v') (h2 : Lst w2 B v' (L ++ [x])) (F : Fr (fun i => O i ∨ v'.ownBlock = some i) w1 w2) (hv : ∀ k, v.ownBlock = some k → ¬ O k) : Lst w2 B v L ∧ Fr (fun i => O i ∨ v.ownBlock = some i) w w2 := by
  rcases o.or with ⟨g, n, cap, rfl, rfl⟩ | ⟨e, g⟩
  · have hl : L.length = n := by
      rcases h.2 with ⟨e, _⟩ | ⟨g', cap', cur, e, _⟩
      · cases e
      · simp only [Value.slice.injEq] at e; exact e.2.1.symm
    refine ⟨h2.front hl, (Fr.at o.gr (.inr rfl)).trans (F.mono (fun i _ k => ?_))⟩
    rcases k with k | k
    · exact .inl k
    · exact .inr k
  · have hb : ∀ k, v.ownBlock = some k → k < w.heap.size := fun k hk => (h.lt k hk).2
    refine ⟨(h.kept g).block (fun k hk => F.block k (Nat.lt_of_lt_of_le (hb k hk) g.size) (fun z => ?_)), (Fr.grown g).join F (fun i hi k => ?_)⟩
    · rcases z with z | z
      · exact hv k hk z
      · rw [e] at z; cases z; exact Nat.lt_irrefl _ (hb _ hk)
    · rcases k with k | k
      · exact .inl k
      · rw [e] at k; cases k; omega

/-! ### What a call that takes away has -/
structure Rx (w0 w : World) (O OC : Nat → Prop) (v : Value) (p s t m : Nat) (S : St) (f : T9.Fo) (x : Nat) (l : Int) (T : List C) : Prop where
  cs : Cs w0 w OC p s t m S f
  sub : ∀ i, OC i → O i ∧ i ≠ x
  tl : TL w w0.heap.size v T
  tv : ∀ k, v.ownBlock = some k → O k ∧ ¬ OC k ∧ k ≠ x
  bx : w.heap[x]? = some (.cells #[.pointer (some ⟨p, 0, none⟩), .int .i64 l, v] 138)
  ox : O x
  lo : ∀ i, O i → w0.heap.size ≤ i ∧ i < w.heap.size
  one : v.oneCell' = true
namespace Rx
variable {w0 w w' : World} {O OC : Nat → Prop} {v : Value} {p s t m : Nat} {S : St} {f : T9.Fo} {x : Nat} {l : Int} {T : List C}
theorem c0 (h : Rx w0 w O OC v p s t m S f x l T) : w.cell? ⟨x, 0, none⟩ = some (.pointer (some ⟨p, 0, none⟩)) := by simp [World.cell?, h.bx]
theorem c1 (h : Rx w0 w O OC v p s t m S f x l T) : w.cell? ⟨x, 1, none⟩ = some (.int .i64 l) := by simp [World.cell?, h.bx]
theorem c2 (h : Rx w0 w O OC v p s t m S f x l T) : w.cell? ⟨x, 2, none⟩ = some v := by simp [World.cell?, h.bx]
theorem fz (h : Rx w0 w O OC v p s t m S f x l T) (i : Nat) : w.frozen? ⟨x, i, none⟩ = false := by simp [World.frozen?, h.bx]
theorem xlt (h : Rx w0 w O OC v p s t m S f x l T) : x < w.heap.size := (h.lo x h.ox).2
theorem kept (h : Rx w0 w O OC v p s t m S f x l T) (g : w.grownBy w' none) : Rx w0 w' O OC v p s t m S f x l T :=
  ⟨h.cs.kept g, h.sub, h.tl.kept g, h.tv, (g.block x h.xlt (by simp)).trans h.bx, h.ox, fun i hi => ⟨(h.lo i hi).1, Nat.lt_of_lt_of_le (h.lo i hi).2 g.size⟩, h.one⟩
theorem keep {y : Nat} (h : Rx w0 w O OC v p s t m S f x l T) (g : w.grownBy w' (some y)) (hy : ¬ O y) (hl : w0.heap.size ≤ y) : Rx w0 w' O OC v p s t m S f x l T :=
  ⟨h.cs.keep g (fun e => hy (h.sub y e).1) hl, h.sub, h.tl.keep g (fun k hk e => hy (by rw [← e]; exact (h.tv k hk).1)), h.tv, (g.block x h.xlt (fun e => hy (by cases e; exact h.ox))).trans h.bx, h.ox, fun i hi => ⟨(h.lo i hi).1, Nat.lt_of_lt_of_le (h.lo i hi).2 g.size⟩, h.one⟩
/-- A call of the Caps. -/
theorem call {m' : Nat} {S' : St} {f' : T9.Fo} (h : Rx w0 w O OC v p s t m S f x l T) (A : Cs w0 w' (wide OC w w') p s t m' S' f') (F : Fr OC w w') : Rx w0 w' (wide O w w') (wide OC w w') v p s t m' S' f' x l T := by
  have hs := F.size
  have h0 := h.cs.gr.size
  refine ⟨A, fun i hi => ?_, h.tl.fr F (fun k hk => (h.tv k hk).2.1), fun k hk => ⟨.inl (h.tv k hk).1, wideNo (h.tv k hk).2.1 (h.tl.lt k hk).2, (h.tv k hk).2.2⟩, (F.block x h.xlt (fun e => (h.sub x e).2 rfl)).trans h.bx, .inl h.ox, fun i hi => ?_, h.one⟩
  · rcases hi with e | e
    · exact ⟨.inl (h.sub i e).1, (h.sub i e).2⟩
    · have := h.xlt; exact ⟨.inr e, by omega⟩
  · rcases hi with e | e
    · have := h.lo i e; omega
    · omega
theorem fr (h : Rx w0 w O OC v p s t m S f x l T) (F : Fr OC w w') : Fr O w w' := F.mono (fun i _ e => (h.sub i e).1)
/-- Another number of steps. -/
theorem left (h : Rx w0 w O OC v p s t m S f x l T) (l' : Int) : Rx w0 (w.setCell ⟨x, 1, none⟩ (.int .i64 l')) O OC v p s t m S f x l' T := by
  have g := gbSetCell w x 1 (.int .i64 l')
  have hx : ¬ OC x := fun e => (h.sub x e).2 rfl
  refine ⟨h.cs.keep g hx (h.lo x h.ox).1, h.sub, h.tl.keep g (fun k hk => (h.tv k hk).2.2), h.tv, ?_, h.ox, fun i hi => ⟨(h.lo i hi).1, Nat.lt_of_lt_of_le (h.lo i hi).2 g.size⟩, h.one⟩
  show (w.heap.modify x _)[x]? = _
  rw [Array.getElem?_modify, if_pos rfl, h.bx]
  rfl
/-- Something more is told. -/
theorem told {v' : Value} {T' : List C} (h : Rx w0 w O OC v p s t m S f x l T) (g : w.grownBy w' v.ownBlock) (A : TL w' w0.heap.size v' T') (ho : v'.ownBlock = v.ownBlock ∨ ∀ k, v'.ownBlock = some k → w.heap.size ≤ k) (h1 : v'.oneCell' = true) :
    Rx w0 (w'.setCell ⟨x, 2, none⟩ v') (wide O w w') OC v' p s t m S f x l T' ∧ Fr O w (w'.setCell ⟨x, 2, none⟩ v') := by
  have hx : ¬ OC x := fun e => (h.sub x e).2 rfl
  have F1 : Fr (fun i => v.ownBlock = some i) w w' := by
    cases e : v.ownBlock with
    | none => rw [e] at g; exact Fr.grown g
    | some k => rw [e] at g; exact Fr.at g rfl
  have g2 := gbSetCell w' x 2 v'
  have F2 : Fr (fun i => v.ownBlock = some i ∨ i = x) w (w'.setCell ⟨x, 2, none⟩ v') := (F1.mono (fun i _ e => .inl e)).join (Fr.at (O := fun i => i = x) g2 rfl) (fun i _ e => .inr e)
  have hsz : (w'.setCell ⟨x, 2, none⟩ v').heap.size = w'.heap.size := by simp [World.setCell]
  have hs1 := F1.size
  have cs0 : Cs w0 (w'.setCell ⟨x, 2, none⟩ v') OC p s t m S f := by
    have hk : ∀ i, i < w.heap.size → OC i → ¬ (v.ownBlock = some i ∨ i = x) := fun i _ e z => by
      rcases z with z | z
      · exact (h.tv i z).2.1 e
      · exact hx (z ▸ e)
    obtain ⟨OS, OT, h1, h2, h3, h4, h5⟩ := h.cs.ex
    refine ⟨⟨OS, OT, h1.fr F2 (fun i hi => hk i (h.cs.lo i (h4 i hi).1).2 (h4 i hi).1), h2.fr F2 (fun i hi => hk i (h.cs.lo i (h5 i hi).1).2 (h5 i hi).1), h3, h4, h5⟩, (F2.block p h.cs.plt (hk p h.cs.plt h.cs.op)).trans h.cs.box, h.cs.op, fun i hi => ⟨(h.cs.lo i hi).1, Nat.lt_of_lt_of_le (h.cs.lo i hi).2 F2.size⟩, ?_, h.cs.gs, h.cs.gt⟩
    have := h.cs.gr.size
    refine ((Fr.grown (O := fun i => v.ownBlock = some i ∨ i = x) h.cs.gr).trans F2).new (fun i hi e => ?_)
    rcases e with e | e
    · have := (h.lo i (h.tv i e).1).1; omega
    · have := (h.lo i (e ▸ h.ox)).1; omega
  have hv' : ∀ k, v'.ownBlock = some k → k ≠ x ∧ wide O w w' k ∧ ¬ OC k := fun k hk => by
    rcases ho with e | e
    · rw [e] at hk
      exact ⟨(h.tv k hk).2.2, .inl (h.tv k hk).1, (h.tv k hk).2.1⟩
    · have h1 := e k hk
      have h2 := (A.lt k hk).2
      exact ⟨by have := h.xlt; omega, .inr ⟨h1, h2⟩, fun z => by have := (h.cs.lo k z).2; omega⟩
  refine ⟨⟨cs0, fun i hi => ⟨.inl (h.sub i hi).1, (h.sub i hi).2⟩, A.keep g2 (fun k hk => (hv' k hk).1), fun k hk => ⟨(hv' k hk).2.1, (hv' k hk).2.2, (hv' k hk).1⟩, ?_, .inl h.ox, fun i hi => ?_, h1⟩, F2.mono (fun i _ e => ?_)⟩
  · have hb : w'.heap[x]? = some (.cells #[.pointer (some ⟨p, 0, none⟩), .int .i64 l, v] 138) := (F1.block x h.xlt (fun e => (h.tv x e).2.2 rfl)).trans h.bx
    show (w'.heap.modify x _)[x]? = _
    rw [Array.getElem?_modify, if_pos rfl, hb]
    rfl
  · rw [hsz]
    have h0 := h.cs.gr.size
    rcases hi with e | e
    · have := h.lo i e; omega
    · omega
  · rcases e with e | e
    · exact (h.tv i e).1
    · exact e ▸ h.ox
end Rx

/-- From w on: what there is now, and the frame. -/
structure Ry (w0 w wc : World) (O Oc OC : Nat → Prop) (v : Value) (p s t m : Nat) (S : St) (f : T9.Fo) (x : Nat) (l : Int) (T : List C) : Prop where
  rx : Rx w0 wc Oc OC v p s t m S f x l T
  fr : Fr O w wc
  sub : ∀ i, Oc i → O i ∨ w.heap.size ≤ i
namespace Ry
variable {w0 w wc wd : World} {O Oc OC : Nat → Prop} {v : Value} {p s t m : Nat} {S : St} {f : T9.Fo} {x : Nat} {l : Int} {T : List C}
theorem start (h : Rx w0 w O OC v p s t m S f x l T) : Ry w0 w w O O OC v p s t m S f x l T := ⟨h, Fr.refl O w, fun i hi => .inl hi⟩
theorem kept (h : Ry w0 w wc O Oc OC v p s t m S f x l T) (g : wc.grownBy wd none) : Ry w0 w wd O Oc OC v p s t m S f x l T := ⟨h.rx.kept g, h.fr.trans (Fr.grown g), h.sub⟩
theorem step {O' OC' : Nat → Prop} {v' : Value} {m' : Nat} {S' : St} {f' : T9.Fo} {l' : Int} {T' : List C} (h : Ry w0 w wc O Oc OC v p s t m S f x l T) (A : Rx w0 wd O' OC' v' p s t m' S' f' x l' T') (F : Fr Oc wc wd) (hO : ∀ i, O' i → Oc i ∨ wc.heap.size ≤ i) : Ry w0 w wd O O' OC' v' p s t m' S' f' x l' T' := by
  refine ⟨A, h.fr.join F (fun i hi k => ?_), fun i hi => ?_⟩
  · rcases h.sub i k with e | e
    · exact e
    · omega
  · rcases hO i hi with e | e
    · exact h.sub i e
    · have := h.fr.size; exact .inr (by omega)
theorem call {m' : Nat} {S' : St} {f' : T9.Fo} (h : Ry w0 w wc O Oc OC v p s t m S f x l T) (A : Cs w0 wd (wide OC wc wd) p s t m' S' f') (F : Fr OC wc wd) : Ry w0 w wd O (wide Oc wc wd) (wide OC wc wd) v p s t m' S' f' x l T :=
  h.step (h.rx.call A F) (h.rx.fr F) (fun i hi => by rcases hi with e | e; exact .inl e; exact .inr e.1)
theorem keep {y : Nat} (h : Ry w0 w wc O Oc OC v p s t m S f x l T) (g : wc.grownBy wd (some y)) (hx : ¬ Oc y) (hw : w.heap.size ≤ y) (h0 : w0.heap.size ≤ w.heap.size) : Ry w0 w wd O Oc OC v p s t m S f x l T :=
  ⟨h.rx.keep g hx (Nat.le_trans h0 hw), h.fr.join (Fr.at (O := fun i => i = y) g rfl) (fun i hi e => by omega), h.sub⟩
theorem out (h : Ry w0 w wc O Oc OC v p s t m S f x l T) {y : Nat} (hx : wc.heap.size ≤ y) : ¬ Oc y := fun e => by have := (h.rx.lo y e).2; omega
end Ry
/-- What there is, whatever the parts' blocks are. -/
def Rv (w0 w : World) (O : Nat → Prop) (p s t m x : Nat) (X : M.X) : Prop := ∃ OC v, Rx w0 w O OC v p s t m X.S X.f x (X.l : Int) X.T
theorem Rv.mono {w0 w : World} {O O' : Nat → Prop} {p s t m x : Nat} {X : M.X} (h : Rv w0 w O p s t m x X) (ho : ∀ i, O i → O' i) (hl : ∀ i, O' i → w0.heap.size ≤ i ∧ i < w.heap.size) : Rv w0 w O' p s t m x X := by
  obtain ⟨OC, v, h⟩ := h
  exact ⟨OC, v, h.cs, fun i hi => ⟨ho i (h.sub i hi).1, (h.sub i hi).2⟩, h.tl, fun k hk => ⟨ho k (h.tv k hk).1, (h.tv k hk).2⟩, h.bx, ho x h.ox, hl, h.one⟩
theorem Rv.kept {w0 w w' : World} {O : Nat → Prop} {p s t m x : Nat} {X : M.X} (h : Rv w0 w O p s t m x X) (g : w.grownBy w' none) : Rv w0 w' O p s t m x X := by obtain ⟨OC, v, h⟩ := h; exact ⟨OC, v, h.kept g⟩
theorem Ry.fin {w0 w wc : World} {O Oc OC : Nat → Prop} {v : Value} {p s t m x : Nat} {X : M.X} (h : Ry w0 w wc O Oc OC v p s t m X.S X.f x (X.l : Int) X.T) (h0 : w0.heap.size ≤ w.heap.size) (ho : ∀ i, O i → w0.heap.size ≤ i ∧ i < w.heap.size) : Rv w0 wc (wide O w wc) p s t m x X ∧ Fr O w wc := by
  have hs := h.fr.size
  refine ⟨Rv.mono ⟨OC, v, h.rx⟩ (fun i hi => ?_) (fun i hi => ?_), h.fr⟩
  · rcases h.sub i hi with e | e
    · exact .inl e
    · exact .inr ⟨e, (h.rx.lo i hi).2⟩
  · rcases hi with e | e
    · have := ho i e; omega
    · omega
end Go.Proofs.YtdnoidnpiaadaaaGreat

/-
  THE CONTRACTS of Final, of what is refused, of slices.Contains at slots' names, and of what must go ahead of a slot.
-/
namespace Go.Proofs.YtdnoidnpiaadaaaGreat
set_option maxRecDepth 10000
open Go.RowKit
set_option linter.unusedVariables false

abbrev gCnt (w : World) (s : Nat) (k o q : Int) : Prop := ∀ W, w.grownBy W none → Calls Tryz.prog 11 #[.pointer (some ⟨s, 0, none⟩), .int .i64 k, .int .i64 o] W fun x w' => x = .returned (.int .i64 q) ∧ W.grownBy w' none
theorem Cs.count {w0 w : World} {O : Nat → Prop} {p s t m : Nat} {S : St} {f : T9.Fo} (h : Cs w0 w O p s t m S f) (k o q : Int) (hq : (M.cnt S k o : Int) = q) : gCnt w s k o q := by
  intro W g
  obtain ⟨OS, OT, h1, _⟩ := (h.kept g).ex
  exact count_is h1 h.gs k o q hq

set_option maxHeartbeats 2000000 in
theorem final_core (w : World) (p s : Nat) (n i k o r b g t e q : Int) (v : Bool) (hc : w.cell? ⟨p, 0, none⟩ = some (.pointer (some ⟨s, 0, none⟩))) (HG : gGet w s n i ⟨k, o, r, b, g, t⟩ e) (HC : gCnt w s k o q) (hv : (q == 1) = v) :
    Calls Tryz.prog 25 #[.pointer (some ⟨p, 0, none⟩), sv n i] w fun x w' => x = .returned (.bool v) ∧ w.grownBy w' none := by
  go_enter Tryz.func25, Tryz.ntmps25
  go_upto_region 1 with fail
  obtain ⟨W, hW, X, g0⟩ := sboxNew w n i
  rw [hW]
  clear hW
  have HX := hideIt X
  clear X
  go_cut [5, 6] (fun s5 s6 wc => ∃ Z : Nat, s5 = .pointer (some ⟨Z, 0, none⟩) ∧ s6 = .int .i64 e ∧ Hid (Box wc Z ⟨k, o, r, b, g, t⟩) ∧ Hid (W.grownBy wc none) ∧ Hid (W.heap.size ≤ Z))
  case first =>
    have T0b : Rd3 W p 0 s w.heap.size n i := ⟨g0.cell hc (by simp), HX.out.at0, HX.out.at1⟩
    have T0 : Rd3 W.drew p 0 s w.heap.size n i := Rd3.kept T0b (gbDrew (gbRefl W none))
    go_region_held3 (fun w' => Rd3 w' p 0 s w.heap.size n i)
      (first | with_reducible exact T0 | (refine Rd3.kept T0b ?_; repeat (first | with_reducible exact G2 | with_reducible exact gbRefl W none | with_reducible refine gbDrew ?_ | with_reducible refine gbAllocN ?_ _ | with_reducible refine gbSetNew ?_ _ _ _ (by with_reducible first | exact Nat.le_refl _ | exact G2.size))) | fail)
      ((first | (go_at_call 51; refine (HG _ (by repeat (first | with_reducible exact g0 | with_reducible refine gbDrew ?_ | with_reducible refine gbAllocN ?_ _))).mono ?_; rintro _ u1 ⟨rfl, g5⟩; have hc3 := gcell g5; have hf3 := gfroz g5; have G2 : W.grownBy u1 none := (by first | exact gbTrans (gbDrewN W 1 none) g5 | exact gbTrans (gbDrew (gbAllocN (gbRefl W none) _)) g5)) | fail))
    · rename_i hold
      clear hold T0
      obtain ⟨W6, hW6, Z6, g6⟩ := boxNew u1 ⟨k, o, r, b, g, t⟩
      simp only at hW6
      rw [hW6]
      go_wp2
      go_meet
      exact ⟨_, rfl, rfl, Z6, gbTrans G2 g6, hideIt G2.size⟩
    · rename_i hold
      clear hold T0
      have Z0 : Box u1 W.heap.size C.zero := ((Box.made W C.zero).kept (gbDrew (gbRefl _ none))).kept g5
      obtain ⟨W6, hW6, Z6, g6⟩ := Z0.put ⟨k, o, r, b, g, t⟩
      simp only at hW6
      rw [hW6]
      have G7 := gbNew (gbTrans (gbAny G2 _) g6) (Nat.le_refl _)
      go_wp2
      go_meet
      exact ⟨_, rfl, rfl, Z6, G7, hideIt (Nat.le_refl _)⟩
  case rest =>
    obtain ⟨Z, rfl, rfl, HZ, GG, HZl⟩ := hcut
    have gW := gbTrans g0 GG.out
    have cp : ∀ y : Gr wc, y.w.cell? ⟨p, 0, none⟩ = some (.pointer (some ⟨s, 0, none⟩)) := fun y => (gbTrans gW y.g).cell hc (by simp)
    have z0 : ∀ y : Gr wc, y.w.cell? ⟨Z, 0, none⟩ = some (.int .i64 k) := fun y => y.g.cell HZ.out.at0 (by simp)
    have z1 : ∀ y : Gr wc, y.w.cell? ⟨Z, 1, none⟩ = some (.int .i64 o) := fun y => y.g.cell HZ.out.at1 (by simp)
    have HQ : ∀ y : Gr wc, Calls Tryz.prog 11 #[.pointer (some ⟨s, 0, none⟩), .int .i64 k, .int .i64 o] y.w fun x w' => x = .returned (.int .i64 q) ∧ y.w.grownBy w' none := fun y => HC y.w (gbTrans gW y.g)
    go_wp2
    refine wp_region_grown (by kernel_rfl) (by kernel_rfl) fun _ => ?_
    repeat (go_big_quiet_step ((go_at_call 11; with_reducible exact callsGr (HQ _))))
    refine wpQuiet_nil ?_
    rintro w4 ⟨⟨_, g4⟩, rfl⟩
    go_wp2
    go_ret
    exact ⟨rfl, gbTrans gW g4⟩

theorem Cs.final {w0 w : World} {O : Nat → Prop} {p s t m : Nat} {S : St} {f : T9.Fo} (h : Cs w0 w O p s t m S f) (a c : Int) (v : Bool) (ha : I64 a) (hv : M.fin S (a, c) = v) :
    ∀ W, w.grownBy W none → Calls Tryz.prog 25 #[.pointer (some ⟨p, 0, none⟩), sv a c] W fun x w' => x = .returned (.bool v) ∧ W.grownBy w' none := by
  intro W g
  have hW := h.kept g
  obtain ⟨c1, hc⟩ : ∃ d, M.gc S (a, c) = d := ⟨_, rfl⟩
  obtain ⟨e0, he⟩ : ∃ e, M.getE S a c = e := ⟨_, rfl⟩
  obtain ⟨k, o, r, b, g, u⟩ := c1
  have HG : gGet W s a c ⟨k, o, r, b, g, u⟩ e0 := fun W' g' => (hW.kept g').get a c _ _ _ _ _ _ _ ha hc he
  refine final_core W p s a c k o r b g u e0 _ v hW.c0 HG (hW.count k o _ rfl) ?_
  rw [← hv]
  unfold M.fin
  rw [hc]

/-! ### What is refused -/
set_option maxHeartbeats 2000000 in
theorem refusal_no (w : World) (p : Nat) (n i l : Int) (hl : (decide (l < 1) || decide (1000 < l)) = true) :
    Calls Tryz.prog 104 #[.pointer (some ⟨p, 0, none⟩), sv n i, .int .i64 l] w fun x w' => x = .returned (.int .i64 1) ∧ w.grownBy w' none := by
  by_cases h1 : l < 1
  · go_enter Tryz.func104, Tryz.ntmps104
    go_wp2
    go_ret
    exact ⟨rfl, gbAlloc _ _ _⟩
  · have h2 : 1000 < l := by simpa [h1] using hl
    go_enter Tryz.func104, Tryz.ntmps104
    go_wp2
    go_ret
    exact ⟨rfl, gbAlloc _ _ _⟩
set_option maxHeartbeats 2000000 in
theorem refusal_core (w : World) (p s : Nat) (n i k o r b g t e l : Int) (v1 v2 : Bool) (h1 : ¬ l < 1) (h2 : ¬ 1000 < l) (hc : w.cell? ⟨p, 0, none⟩ = some (.pointer (some ⟨s, 0, none⟩))) (HG : gGet w s n i ⟨k, o, r, b, g, t⟩ e) (hv1 : (e == 0) = v1) (hv2 : (k == 0) = v2) :
    Calls Tryz.prog 104 #[.pointer (some ⟨p, 0, none⟩), sv n i, .int .i64 l] w fun x w' => x = .returned (.int .i64 (if v1 && v2 then 3 else e)) ∧ w.grownBy w' none := by
  go_enter Tryz.func104, Tryz.ntmps104
  go_upto_region 1 with fail
  obtain ⟨W, hW, X, g0⟩ := sboxNew w n i
  rw [hW]
  clear hW
  have HX := hideIt X
  clear X
  go_upto_region 3 with fail
  go_cut [7, 8] (fun s7 s8 wc => ∃ Z : Nat, s7 = .pointer (some ⟨Z, 0, none⟩) ∧ s8 = .int .i64 e ∧ Hid (Box wc Z ⟨k, o, r, b, g, t⟩) ∧ Hid (W.grownBy wc none) ∧ Hid (W.heap.size ≤ Z))
  case first =>
    have T0b : Rd3 W p 0 s w.heap.size n i := ⟨g0.cell hc (by simp), HX.out.at0, HX.out.at1⟩
    have T0 : Rd3 W.drew p 0 s w.heap.size n i := Rd3.kept T0b (gbDrew (gbRefl W none))
    go_region_held3 (fun w' => Rd3 w' p 0 s w.heap.size n i)
      (first | with_reducible exact T0 | (refine Rd3.kept T0b ?_; repeat (first | with_reducible exact G2 | with_reducible exact gbRefl W none | with_reducible refine gbDrew ?_ | with_reducible refine gbAllocN ?_ _ | with_reducible refine gbSetNew ?_ _ _ _ (by with_reducible first | exact Nat.le_refl _ | exact G2.size))) | fail)
      ((first | (go_at_call 51; refine (HG _ (by repeat (first | with_reducible exact g0 | with_reducible refine gbDrew ?_ | with_reducible refine gbAllocN ?_ _))).mono ?_; rintro _ u1 ⟨rfl, g5⟩; have hc3 := gcell g5; have hf3 := gfroz g5; have G2 : W.grownBy u1 none := (by first | exact gbTrans (gbDrewN W 1 none) g5 | exact gbTrans (gbDrew (gbAllocN (gbRefl W none) _)) g5)) | fail))
    · rename_i hold
      clear hold T0
      obtain ⟨W6, hW6, Z6, g6⟩ := boxNew u1 ⟨k, o, r, b, g, t⟩
      simp only at hW6
      rw [hW6]
      go_wp2
      go_meet
      exact ⟨_, rfl, rfl, Z6, gbTrans G2 g6, hideIt G2.size⟩
    · rename_i hold
      clear hold T0
      have Z0 : Box u1 W.heap.size C.zero := ((Box.made W C.zero).kept (gbDrew (gbRefl _ none))).kept g5
      obtain ⟨W6, hW6, Z6, g6⟩ := Z0.put ⟨k, o, r, b, g, t⟩
      simp only at hW6
      rw [hW6]
      have G7 := gbNew (gbTrans (gbAny G2 _) g6) (Nat.le_refl _)
      go_wp2
      go_meet
      exact ⟨_, rfl, rfl, Z6, G7, hideIt (Nat.le_refl _)⟩
  case rest =>
    obtain ⟨Z, rfl, rfl, HZ, GG, HZl⟩ := hcut
    have gW := gbTrans g0 GG.out
    obtain ⟨z0, _⟩ := HZ.out
    simp only at z0
    cases v1 <;> cases v2
    all_goals (go_wp2; go_ret; exact ⟨rfl, gW⟩)
theorem Cs.refusal {w0 w : World} {O : Nat → Prop} {p s t m : Nat} {S : St} {f : T9.Fo} (h : Cs w0 w O p s t m S f) (a c l : Int) (e : Int) (ha : I64 a) (he : (if 1 ≤ l ∧ l ≤ 1000 then M.srcE S (a, c) else 1) = e) :
    Calls Tryz.prog 104 #[.pointer (some ⟨p, 0, none⟩), sv a c, .int .i64 l] w fun x w' => x = .returned (.int .i64 e) ∧ w.grownBy w' none := by
  by_cases hl : 1 ≤ l ∧ l ≤ 1000
  · rw [if_pos hl] at he
    obtain ⟨c1, hc⟩ : ∃ d, M.gc S (a, c) = d := ⟨_, rfl⟩
    obtain ⟨e0, he0⟩ : ∃ e, M.getE S a c = e := ⟨_, rfl⟩
    obtain ⟨k, o, r, b, g, u⟩ := c1
    have HG : gGet w s a c ⟨k, o, r, b, g, u⟩ e0 := fun W' g' => (h.kept g').get a c _ _ _ _ _ _ _ ha hc he0
    refine (refusal_core w p s a c k o r b g u e0 l _ _ (by omega) (by omega) h.c0 HG rfl rfl).mono ?_
    rintro _ w' ⟨rfl, g'⟩
    refine ⟨?_, g'⟩
    congr 2
    rw [← he]
    unfold M.srcE M.takeE
    unfold M.getE at he0
    have hc' : M.getC S a c = ⟨k, o, r, b, g, u⟩ := hc
    by_cases ht : M.there S a c = true
    · rw [if_pos ht] at he0 ⊢
      subst he0
      rw [hc']
      by_cases hk : k = 0 <;> simp [hk]
    · rw [if_neg ht] at he0 ⊢
      subst he0
      rfl
  · rw [if_neg hl] at he
    subst he
    exact refusal_no w p a c l (by simp; omega)

/-! ### slices.Contains -/
theorem eqGuardSlots11 : Tryz.prog.eqGuardType Tryz.prog.depth 31 = false := by kernel_rfl
set_option maxHeartbeats 1000000 in
theorem index_none (w : World) (g n cap : Nat) (a b : Int) (L : List (Int × Int)) (hn : Hid (L.length = n)) (hn2 : n ≤ 1000) (HR : Hid (Row w ⟨g, 0, none⟩ L)) (hf : Hid ((a, b) ∉ L)) :
    Calls Tryz.prog 135 #[.slice (some ⟨g, 0, none⟩) n cap, sv a b] w fun e w' => e = .returned (.int .i64 (-1)) ∧ w.grownBy w' none := by
  have qe := eqGuardSlots11
  have qq := T9.run_eql_slots
  go_enter Tryz.func135, Tryz.ntmps135
  go_upto_region 1 with fail
  obtain ⟨W, hW, X, g0⟩ := sboxNew w a b
  rw [hW]
  clear hW
  go_wp2
  go_loopg [8] (n + 1) (fun y i wr => ∃ c : Nat, c + y = n + 1 ∧ c ≤ n ∧ i = .int .i64 c ∧ W.grownBy wr none)
  case atStart => exact ⟨0, by omega, by omega, rfl, gbRefl _ _⟩
  case round =>
    obtain ⟨c, hc, hcj, rfl, gw⟩ := hrel
    by_cases ej : c = n
    · have hlt' : ¬ (c : Int) < (n : Int) := by omega
      go_wp2
      go_ret
      exact ⟨rfl, gbTrans g0 gw⟩
    · have hlt' : (c : Int) < (n : Int) := by omega
      obtain ⟨⟨p, q⟩, hp⟩ : ∃ q, L[c]? = some q := ⟨_, List.getElem?_eq_getElem (by rw [hn.out]; omega)⟩
      have E := (HR.out.kept (gbTrans g0 gw)) c _ hp
      rw [Addr.add_lit, Nat.zero_add] at E
      simp only at E
      have e0 : ∀ y : Gr wr, y.w.cell? ⟨g, c * 2, none⟩ = some (.int .i64 p) := fun y => (E.kept y.g).at0
      have e1 : ∀ y : Gr wr, y.w.cell? ⟨g, c * 2 + 1, none⟩ = some (.int .i64 q) := fun y => (E.kept y.g).at1
      have x0 : ∀ y : Gr wr, y.w.cell? ⟨w.heap.size, 0, none⟩ = some (.int .i64 a) := fun y => ((X.kept gw).kept y.g).at0
      have x1 : ∀ y : Gr wr, y.w.cell? ⟨w.heap.size, 1, none⟩ = some (.int .i64 b) := fun y => ((X.kept gw).kept y.g).at1
      have hs : T9.M.seq a b p q = false := seq_no.2 (fun e => hf.out (by rw [e]; exact List.mem_of_getElem? hp))
      clear hp E
      go_wp2
      refine wp_region_grown (by kernel_rfl) (by kernel_rfl) fun _ => ?_
      repeat (go_big_quiet_step (fail))
      refine wpQuiet_nil ?_
      rintro w2 ⟨⟨_, g2⟩, rfl⟩
      go_wp2
      go_roundg (gk - 1)
      case rel => exact ⟨c + 1, by omega, by omega, by go_num, gbTrans gw g2⟩
      case measure => omega
theorem idx_first : ∀ (L : List (Int × Int)) (x : Int × Int), x ∈ L → ∃ j : Nat, L[j]? = some x ∧ ∀ i : Nat, i < j → L[i]? ≠ some x
  | [], x, h => by cases h
  | y :: L, x, h => by
    by_cases e : y = x
    · exact ⟨0, by simp [e], fun i hi => by omega⟩
    · obtain ⟨j, h1, h2⟩ := idx_first L x (by rcases List.mem_cons.1 h with z | z; exact absurd z.symm e; exact z)
      refine ⟨j + 1, by simpa using h1, fun i hi => ?_⟩
      cases i with
      | zero => simpa using e
      | succ i => simpa using h2 i (by omega)
theorem index_any {w : World} {B : Nat} {v : Value} {L : List (Int × Int)} (h : Lst w B v L) (hl : L.length ≤ 1000) (a b : Int) :
    ∃ j : Int, (decide (0 ≤ j)) = decide ((a, b) ∈ L) ∧ -1 ≤ j ∧ j ≤ 1000 ∧ (v ≠ .slice none 0 0 → ∀ W, w.grownBy W none → Calls Tryz.prog 135 #[v, sv a b] W fun e w' => e = .returned (.int .i64 j) ∧ W.grownBy w' none) := by
  rcases h.form with ⟨rfl, rfl⟩ | ⟨g, cap, rfl, hc, _, _, _, hr⟩
  · exact ⟨-1, by simp, by omega, by omega, fun k => absurd rfl k⟩
  · by_cases hm : (a, b) ∈ L
    · obtain ⟨j, hj, hf⟩ := idx_first L (a, b) hm
      have hjl : j < L.length := (List.getElem?_eq_some_iff.1 hj).1
      exact ⟨j, by simp [hm], by omega, by omega, fun _ W g => T9.index_row W _ _ _ j a b L (hideIt rfl) hl (hideIt (hr.kept g)) (hideIt hj) (hideIt hf)⟩
    · exact ⟨-1, by simp [hm], by omega, by omega, fun _ W g => index_none W _ _ _ a b L (hideIt rfl) hl (hideIt (hr.kept g)) (hideIt hm)⟩
set_option maxHeartbeats 1000000 in
theorem contains_core (w : World) (v : Value) (a b j : Int) (vb : Bool) (hj : decide (0 ≤ j) = vb) (HI : ∀ W, w.grownBy W none → Calls Tryz.prog 135 #[v, sv a b] W fun e w' => e = .returned (.int .i64 j) ∧ W.grownBy w' none) :
    Calls Tryz.prog 128 #[v, sv a b] w fun e w' => e = .returned (.bool vb) ∧ w.grownBy w' none := by
  go_enter Tryz.func128, Tryz.ntmps128
  go_upto_region 1 with fail
  obtain ⟨W, hW, X, g0⟩ := sboxNew w a b
  rw [hW]
  clear hW
  obtain ⟨x0, x1, _⟩ := X
  go_wp2_with fail
  refine (HI W g0).mono ?_
  rintro _ w2 ⟨rfl, g2⟩
  subst hj
  go_wp2
  go_ret
  exact ⟨rfl, gbTrans g0 g2⟩
theorem contains_is {w : World} {B : Nat} {v : Value} {L : List (Int × Int)} (h : Lst w B v L) (hv : v ≠ .slice none 0 0) (hl : L.length ≤ 1000) (a b : Int) (vb : Bool) (hb : decide ((a, b) ∈ L) = vb) :
    ∀ W, w.grownBy W none → Calls Tryz.prog 128 #[v, sv a b] W fun e w' => e = .returned (.bool vb) ∧ W.grownBy w' none := by
  obtain ⟨j, h1, _, _, h2⟩ := index_any h hl a b
  intro W g
  exact contains_core W v a b j vb (h1.trans hb) (fun W' g' => h2 hv W' (gbTrans g g'))

end Go.Proofs.YtdnoidnpiaadaaaGreat

/-
  THE CONTRACT of what must go ahead of a slot.
-/
namespace Go.Proofs.YtdnoidnpiaadaaaGreat
set_option maxRecDepth 10000
open Go.RowKit
set_option linter.unusedVariables false

abbrev Rd4 (w : World) (x p s y : Nat) (n i : Int) : Prop := Ptr w x 0 p ∧ Rd3 w p 0 s y n i
theorem Rd4.kept {w w' : World} {x p s y : Nat} {n i : Int} (h : Rd4 w x p s y n i) (g : w.grownBy w' none) : Rd4 w' x p s y n i := ⟨g.cell h.1 (by simp), h.2.kept g⟩
theorem SBox.set2 {w : World} {x : Nat} {n i : Int} (h : SBox w x n i) (n' i' : Int) :
    ∃ W, (w.setCell ⟨x, 0, none⟩ (.int .i64 n')).setCell ⟨x, 1, none⟩ (.int .i64 i') = W ∧ SBox W x n' i' ∧ w.grownBy W (some x) := by
  obtain ⟨a0, a1, lt⟩ := h
  refine ⟨_, rfl, ⟨?_, ?_, ?_⟩, ?_⟩
  · exact (World.cell?_setCell_other _ _ _ _ (by simp)).trans (World.cell?_setCell_same _ _ _ a0)
  · exact World.cell?_setCell_same _ _ _ ((World.cell?_setCell_other _ _ _ _ (by simp)).trans a1)
  · simpa [World.setCell] using lt
  · exact gbTrans (gbSetCell _ _ _ _) (gbSetCell _ _ _ _)
theorem SBox.fz {w : World} (n i : Int) : (w.alloc (.cells #[.int .i64 n, .int .i64 i] 31)).frozen? ⟨w.heap.size, 0, none⟩ = false := by simp
abbrev gFin (w : World) (p : Nat) (n i : Int) (v : Bool) : Prop := ∀ W, w.grownBy W none → Calls Tryz.prog 25 #[.pointer (some ⟨p, 0, none⟩), sv n i] W fun x w' => x = .returned (.bool v) ∧ W.grownBy w' none
abbrev gFull (w : World) (s : Nat) (F : List (Int × Int)) : Prop := ∀ W, w.grownBy W none → Calls Tryz.prog 50 #[.pointer (some ⟨s, 0, none⟩)] W fun e w' => ∃ v, e = .returned v ∧ Lst w' W.heap.size v F ∧ W.grownBy w' none
abbrev gCon (w : World) (v : Value) (L : List (Int × Int)) : Prop := ∀ a b W, w.grownBy W none → Calls Tryz.prog 128 #[v, sv a b] W fun e w' => e = .returned (.bool (decide ((a, b) ∈ L))) ∧ W.grownBy w' none
/-- Two boxes of slots' names, the second one to be written. -/
theorem slotsRes (w : World) (n i : Int) : ∃ W, (w.alloc (.cells #[.int .i64 n, .int .i64 i] 31)).alloc (.cells #[.int .i64 0, .int .i64 0] 31) = W ∧ SBox W w.heap.size n i ∧ SBox W (w.heap.size + 1) 0 0 ∧ (∀ j, W.frozen? ⟨w.heap.size + 1, j, none⟩ = false) ∧ w.grownBy W none := by
  obtain ⟨W, hW, X, Y, g⟩ := slots2 w n i 0 0
  refine ⟨W, hW, X, Y, fun j => ?_, g⟩
  have e := fun (V : World) => show (V.alloc (.cells #[.int .i64 0, .int .i64 0] 31)).frozen? ⟨V.heap.size, j, none⟩ = false by simp
  have e1 := e (w.alloc (.cells #[.int .i64 n, .int .i64 i] 31))
  rw [Deep.nblk_alloc] at e1
  rw [← hW]
  exact e1
theorem findTake {p : Int × Int → Bool} {l : List (Int × Int)} {c : Nat} {x : Int × Int} (h : (l.take c).find? p = none) (hx : l[c]? = some x) : (p x = true → l.find? p = some x) ∧ (p x = false → (l.take (c + 1)).find? p = none) := by
  have h1 : l.take (c + 1) = l.take c ++ [x] := by rw [List.take_add_one, hx]; rfl
  constructor
  · intro k
    rw [← List.take_append_drop (c + 1) l, h1, List.append_assoc, List.find?_append, h]
    simp [k]
  · intro k
    rw [h1, List.find?_append, h]
    simp [k]

set_option maxHeartbeats 4000000 in
theorem ahead_core (w : World) (x p s : Nat) (bv : Value) (n i k o r b g t e : Int) (v v2 : Bool) (F L : List (Int × Int)) (res : Option (Int × Int)) (hF : F.length ≤ 1024) (hx : w.cell? ⟨x, 0, none⟩ = some (.pointer (some ⟨p, 0, none⟩))) (hc : w.cell? ⟨p, 0, none⟩ = some (.pointer (some ⟨s, 0, none⟩)))
    (HG : gGet w s n i ⟨k, o, r, b, g, t⟩ e) (HF : gFin w p n i v) (HU : gFull w s F) (HC : gCon w bv L) (hv2 : (k != 2) = v2) (hr : Hid ((if !v2 && v then F.find? (fun z => z.1 == o && !decide (z ∈ L)) else none) = res)) :
    Calls Tryz.prog 106 #[.pointer (some ⟨x, 0, none⟩), sv n i, bv] w fun y w' => y = .returned (.tuple #[sv (res.getD (0, 0)).1 (res.getD (0, 0)).2, .bool res.isSome]) ∧ w.grownBy w' none := by
  go_enter Tryz.func106, Tryz.ntmps106
  go_upto_region 1 with fail
  obtain ⟨W, hW, X, Y, fY, g0⟩ := slotsRes w n i
  rw [hW]
  clear hW
  have HX := hideIt X
  have HY := hideIt Y
  have HfY := hideIt fY
  clear X Y fY
  go_cut [8, 9] (fun s8 s9 wc => ∃ Z : Nat, s8 = .pointer (some ⟨Z, 0, none⟩) ∧ s9 = .int .i64 e ∧ Hid (Box wc Z ⟨k, o, r, b, g, t⟩) ∧ Hid (W.grownBy wc none) ∧ Hid (W.heap.size ≤ Z))
  case first =>
    have T0b : Rd4 W x p s w.heap.size n i := ⟨g0.cell hx (by simp), g0.cell hc (by simp), HX.out.at0, HX.out.at1⟩
    have T0 : Rd4 W.drew x p s w.heap.size n i := Rd4.kept T0b (gbDrew (gbRefl W none))
    go_region_held3 (fun w' => Rd4 w' x p s w.heap.size n i)
      (first | with_reducible exact T0 | (refine Rd4.kept T0b ?_; repeat (first | with_reducible exact G2 | with_reducible exact gbRefl W none | with_reducible refine gbDrew ?_ | with_reducible refine gbAllocN ?_ _ | with_reducible refine gbSetNew ?_ _ _ _ (by with_reducible first | exact Nat.le_refl _ | exact G2.size))) | fail)
      ((first | (go_at_call 51; refine (HG _ (by repeat (first | with_reducible exact g0 | with_reducible refine gbDrew ?_ | with_reducible refine gbAllocN ?_ _))).mono ?_; rintro _ u1 ⟨rfl, g5⟩; have hc3 := gcell g5; have hf3 := gfroz g5; have G2 : W.grownBy u1 none := (by first | exact gbTrans (gbDrewN W 1 none) g5 | exact gbTrans (gbDrew (gbAllocN (gbRefl W none) _)) g5)) | fail))
    · rename_i hold
      clear hold T0
      obtain ⟨W6, hW6, Z6, g6⟩ := boxNew u1 ⟨k, o, r, b, g, t⟩
      simp only at hW6
      rw [hW6]
      go_wp2
      go_meet
      exact ⟨_, rfl, rfl, Z6, gbTrans G2 g6, hideIt G2.size⟩
    · rename_i hold
      clear hold T0
      have Z0 : Box u1 W.heap.size C.zero := ((Box.made W C.zero).kept (gbDrew (gbRefl _ none))).kept g5
      obtain ⟨W6, hW6, Z6, g6⟩ := Z0.put ⟨k, o, r, b, g, t⟩
      simp only at hW6
      rw [hW6]
      have G7 := gbNew (gbTrans (gbAny G2 _) g6) (Nat.le_refl _)
      go_wp2
      go_meet
      exact ⟨_, rfl, rfl, Z6, G7, hideIt (Nat.le_refl _)⟩
  case rest =>
    obtain ⟨Z, rfl, rfl, HZ, GG, HZl⟩ := hcut
    have gW := gbTrans g0 GG.out
    have HY1 := hideIt (HY.out.kept GG.out)
    have hfy : ∀ j, wc.frozen? ⟨w.heap.size + 1, j, none⟩ = false := fun j => (gfroz GG.out (w.heap.size + 1) j HY.out.lt).trans (HfY.out j)
    have cx : ∀ y : Gr wc, y.w.cell? ⟨x, 0, none⟩ = some (.pointer (some ⟨p, 0, none⟩)) := fun y => (gbTrans gW y.g).cell hx (by simp)
    have z0 : ∀ y : Gr wc, y.w.cell? ⟨Z, 0, none⟩ = some (.int .i64 k) := fun y => y.g.cell HZ.out.at0 (by simp)
    have a0 : ∀ y : Gr wc, y.w.cell? ⟨w.heap.size, 0, none⟩ = some (.int .i64 n) := fun y => (gbTrans GG.out y.g).cell HX.out.at0 (by simp)
    have a1 : ∀ y : Gr wc, y.w.cell? ⟨w.heap.size, 1, none⟩ = some (.int .i64 i) := fun y => (gbTrans GG.out y.g).cell HX.out.at1 (by simp)
    have HQ : ∀ y : Gr wc, Calls Tryz.prog 25 #[.pointer (some ⟨p, 0, none⟩), sv n i] y.w fun x w' => x = .returned (.bool v) ∧ y.w.grownBy w' none := fun y => HF y.w (gbTrans gW y.g)
    have HNO : Hid (∀ w4, wc.grownBy w4 none → ∃ W7, (w4.setCell ⟨w.heap.size + 1, 0, none⟩ (.int .i64 0)).setCell ⟨w.heap.size + 1, 1, none⟩ (.int .i64 0) = W7 ∧ SBox W7 (w.heap.size + 1) 0 0 ∧ w.grownBy W7 none) := hideIt (fun w4 g4 => ?no)
    case no =>
      obtain ⟨W7, h7, s7, g7⟩ := (HY1.out.kept g4).set2 0 0
      exact ⟨W7, h7, s7, gbNew (gbTrans (gbAny (gbTrans gW g4) _) g7) (Nat.le_succ _)⟩
    cases v2 with
    | true =>
      have hr0 : res = none := by have := hr.out; simpa using this.symm
      subst hr0
      go_wp2
      refine wp_region_grown (by kernel_rfl) (by kernel_rfl) fun _ => ?_
      repeat (go_big_quiet_step ((go_at_call 25; with_reducible exact callsGr (HQ _))))
      refine wpQuiet_nil ?_
      rintro w4 ⟨⟨_, g4⟩, rfl⟩
      have y0 := (HY1.out.kept g4).at0
      have y1 := (HY1.out.kept g4).at1
      have q0 : w4.frozen? ⟨w.heap.size + 1, 0, none⟩ = false := (gfroz g4 _ _ HY1.out.lt).trans (hfy 0)
      have q1 : w4.frozen? ⟨w.heap.size + 1, 1, none⟩ = false := (gfroz g4 _ _ HY1.out.lt).trans (hfy 1)
      go_wp2
      obtain ⟨W7, hW7, ⟨u0, u1, _⟩, g7⟩ := HNO.out w4 g4
      rw [hW7]
      exact bodyPost_ret (v := .tuple #[sv 0 0, .bool false]) (by simp [results, Tryz.results106, go_sem, u0, u1]) rfl ⟨rfl, g7⟩
    | false =>
      cases v with
      | false =>
        have hr0 : res = none := by have := hr.out; simpa using this.symm
        subst hr0
        go_wp2
        refine wp_region_grown (by kernel_rfl) (by kernel_rfl) fun _ => ?_
        repeat (go_big_quiet_step ((go_at_call 25; with_reducible exact callsGr (HQ _))))
        refine wpQuiet_nil ?_
        rintro w4 ⟨⟨_, g4⟩, rfl⟩
        have y0 := (HY1.out.kept g4).at0
        have y1 := (HY1.out.kept g4).at1
        have q0 : w4.frozen? ⟨w.heap.size + 1, 0, none⟩ = false := (gfroz g4 _ _ HY1.out.lt).trans (hfy 0)
        have q1 : w4.frozen? ⟨w.heap.size + 1, 1, none⟩ = false := (gfroz g4 _ _ HY1.out.lt).trans (hfy 1)
        go_wp2
        obtain ⟨W7, hW7, ⟨u0, u1, _⟩, g7⟩ := HNO.out w4 g4
        rw [hW7]
        exact bodyPost_ret (v := .tuple #[sv 0 0, .bool false]) (by simp [results, Tryz.results106, go_sem, u0, u1]) rfl ⟨rfl, g7⟩
      | true =>
        have hr0 : Hid (F.find? (fun z => z.1 == o && !decide (z ∈ L)) = res) := hideIt (by have := hr.out; simpa using this)
        clear hr
        go_wp2
        refine wp_region_grown (by kernel_rfl) (by kernel_rfl) fun _ => ?_
        repeat (go_big_quiet_step ((go_at_call 25; with_reducible exact callsGr (HQ _))))
        refine wpQuiet_nil ?_
        rintro w4 ⟨⟨_, g4⟩, rfl⟩
        have b0 : w4.cell? ⟨x, 0, none⟩ = some (.pointer (some ⟨p, 0, none⟩)) := cx ⟨w4, g4⟩
        have b1 : w4.cell? ⟨p, 0, none⟩ = some (.pointer (some ⟨s, 0, none⟩)) := (gbTrans gW g4).cell hc (by simp)
        clear cx z0 a0 a1 HQ
        go_wp2_with fail
        refine (HU _ (gbTrans gW g4)).mono ?_
        rintro _ w5 ⟨fv, rfl, l5, g5⟩
        have hz0 : w5.cell? ⟨Z, 1, none⟩ = some (.int .i64 o) := (gbTrans g4 g5).cell HZ.out.at1 (by simp)
        have HY5 := hideIt (HY1.out.kept (gbTrans g4 g5))
        have hfy5 : ∀ j, w5.frozen? ⟨w.heap.size + 1, j, none⟩ = false := fun j => (gfroz (gbTrans g4 g5) _ _ HY1.out.lt).trans (hfy j)
        have gW5 : w.grownBy w5 none := gbTrans gW (gbTrans g4 g5)
        have HL5 := hideIt l5
        obtain ⟨xo, cap, rfl⟩ : ∃ xo cap, fv = .slice xo F.length cap := by
          rcases l5.form with ⟨rfl, rfl⟩ | ⟨g, cap, rfl, _⟩
          · exact ⟨none, 0, rfl⟩
          · exact ⟨_, _, rfl⟩
        obtain ⟨q, hq⟩ : ∃ q, F.length = q := ⟨_, rfl⟩
        have Hq := hideIt hq
        rw [hq] at hF ⊢
        rw [hq] at HL5
        clear hq
        go_wp2
        go_loopg [46] (q + 1) (fun y i wr => ∃ c : Nat, c + y = q + 1 ∧ c ≤ q ∧ i = .int .i64 c ∧ w5.grownBy wr none ∧ Hid ((F.take c).find? (fun z => z.1 == o && !decide (z ∈ L)) = none))
        case atStart => exact ⟨0, by omega, by omega, rfl, gbRefl _ _, hideIt (by simp)⟩
        case round =>
          obtain ⟨c, hcy, hcj, rfl, gw, HT⟩ := hrel
          have zr : wr.cell? ⟨Z, 1, none⟩ = some (.int .i64 o) := gw.cell hz0 (by simp)
          have y0 := (HY5.out.kept gw).at0
          have y1 := (HY5.out.kept gw).at1
          have q0 : wr.frozen? ⟨w.heap.size + 1, 0, none⟩ = false := (gfroz gw _ _ HY5.out.lt).trans (hfy5 0)
          have q1 : wr.frozen? ⟨w.heap.size + 1, 1, none⟩ = false := (gfroz gw _ _ HY5.out.lt).trans (hfy5 1)
          by_cases ej : c = q
          · have hlt' : ¬ (c : Int) < (q : Int) := by omega
            have hr1 : res = none := by
              have h1 := HT.out
              rw [List.take_of_length_le (by rw [Hq.out]; omega)] at h1
              rw [← hr0.out, h1]
            subst hr1
            go_wp2
            obtain ⟨W7, hW7, ⟨u0, u1, _⟩, g7⟩ := HNO.out wr (gbTrans (gbTrans g4 g5) gw)
            rw [hW7]
            exact bodyPost_ret (v := .tuple #[sv 0 0, .bool false]) (by simp [results, Tryz.results106, go_sem, u0, u1]) rfl ⟨rfl, g7⟩
          · have hlt' : (c : Int) < (q : Int) := by omega
            obtain ⟨⟨P, R⟩, hp⟩ : ∃ q, F[c]? = some q := ⟨_, List.getElem?_eq_getElem (by rw [Hq.out]; omega)⟩
            obtain ⟨g6, e6, E⟩ : ∃ g6, xo = some ⟨g6, 0, none⟩ ∧ (wr.cell? ⟨g6, c * 2, none⟩ = some (.int .i64 P) ∧ wr.cell? ⟨g6, c * 2 + 1, none⟩ = some (.int .i64 R)) := by
              rcases HL5.out.form with ⟨e1, rfl⟩ | ⟨g6, cap6, e1, _, _, _, _, hrow⟩
              · simp at hp
              · have E := (hrow.kept gw) c _ hp
                rw [Addr.add_lit, Nat.zero_add] at E
                injection e1 with e2
                exact ⟨g6, e2, E.at0, E.at1⟩
            subst e6
            obtain ⟨E0, E1⟩ := E
            have HP := hideIt hp
            clear hp
            have HFT := hideIt (findTake HT.out HP.out)
            simp only at HFT
            clear HT
            have hlen : c < F.length := by rw [Hq.out]; omega
            go_upto_region 7 with fail
            obtain ⟨W6, hW6, ⟨d0, d1, _⟩, gd⟩ := sboxNew wr P R
            rw [hW6]
            have zr6 : W6.cell? ⟨Z, 1, none⟩ = some (.int .i64 o) := gd.cell zr (by simp)
            cases hPo : (P == o) with
            | false =>
              have hn0 := HFT.out.2 (by rw [hPo]; rfl)
              have Hn0 := hideIt hn0
              clear hn0 HFT
              go_wp2
              go_roundg (gk - 1)
              case rel => exact ⟨c + 1, by omega, by omega, by go_num, gbTrans gw gd, Hn0⟩
              case measure => omega
            | true =>
              go_wp2_with fail
              refine (HC P R W6 (gbTrans gW5 (gbTrans gw gd))).mono ?_
              rintro _ w8 ⟨rfl, g8⟩
              cases hm : decide ((P, R) ∈ L) with
              | true =>
                have hn0 := HFT.out.2 (by rw [hPo, hm]; rfl)
                have Hn0 := hideIt hn0
                clear hn0 HFT
                go_wp2
                go_roundg (gk - 1)
                case rel => exact ⟨c + 1, by omega, by omega, by go_num, gbTrans gw (gbTrans gd g8), Hn0⟩
                case measure => omega
              | false =>
                have hn0 := HFT.out.1 (by rw [hPo, hm]; rfl)
                have hr1 : res = some (P, R) := by rw [← hr0.out]; exact hn0
                clear hn0 HFT
                subst hr1
                have G8 := gbTrans gd g8
                have s0 := g8.cell d0 (by simp)
                have s1 := g8.cell d1 (by simp)
                have y80 := G8.cell y0 (by simp)
                have y81 := G8.cell y1 (by simp)
                have q80 : w8.frozen? ⟨w.heap.size + 1, 0, none⟩ = false := (gfroz G8 _ _ (HY5.out.kept gw).lt).trans q0
                have q81 : w8.frozen? ⟨w.heap.size + 1, 1, none⟩ = false := (gfroz G8 _ _ (HY5.out.kept gw).lt).trans q1
                have hne : ¬ wr.heap.size = w.heap.size + 1 := by have := (HY5.out.kept gw).lt; omega
                go_wp2
                obtain ⟨W9, hW9, ⟨e0, e1, _⟩, g9⟩ := ((HY5.out.kept gw).kept G8).set2 P R
                rw [hW9]
                exact bodyPost_ret (v := .tuple #[sv P R, .bool true]) (by simp [results, Tryz.results106, go_sem, e0, e1]) rfl ⟨rfl, gbNew (gbTrans (gbAny (gbTrans gW5 (gbTrans gw G8)) _) g9) (Nat.le_succ _)⟩
theorem full_len11 (S : St) : (M.full S).length ≤ 1024 := M.full_len S
theorem Rx.ahead {w0 w : World} {O OC : Nat → Prop} {v bv : Value} {p s t m : Nat} {S : St} {f : T9.Fo} {x : Nat} {l : Int} {T : List C} (h : Rx w0 w O OC v p s t m S f x l T) (a c : Int) (ha : I64 a) {B : Nat} {L : List (Int × Int)} (hb : Lst w B bv L) (hbv : bv ≠ .slice none 0 0) (hL : L.length ≤ 1000) (res : Option (Int × Int)) (hr : M.ahd S (a, c) L = res) :
    Calls Tryz.prog 106 #[.pointer (some ⟨x, 0, none⟩), sv a c, bv] w fun y w' => y = .returned (.tuple #[sv (res.getD (0, 0)).1 (res.getD (0, 0)).2, .bool res.isSome]) ∧ w.grownBy w' none := by
  obtain ⟨c1, hc⟩ : ∃ d, M.gc S (a, c) = d := ⟨_, rfl⟩
  obtain ⟨e0, he⟩ : ∃ e, M.getE S a c = e := ⟨_, rfl⟩
  obtain ⟨k, o, r, b, g, u⟩ := c1
  have HG : gGet w s a c ⟨k, o, r, b, g, u⟩ e0 := fun W' g' => (h.cs.kept g').get a c _ _ _ _ _ _ _ ha hc he
  refine ahead_core w x p s bv a c k o r b g u e0 (M.fin S (a, c)) _ (M.full S) L res (full_len11 S) h.c0 h.cs.c0 HG (h.cs.final a c _ ha rfl) (fun W g => (h.cs.kept g).full) (fun P R => contains_is hb hbv hL P R _ rfl) rfl (hideIt ?_)
  rw [← hr]
  unfold M.ahd
  rw [hc]
  by_cases hk : k = 2 <;> simp [hk]
end Go.Proofs.YtdnoidnpiaadaaaGreat

/-
  THE CONTRACT of a step: one capability is taken out, or none is left and that is thrown.
-/
namespace Go.Proofs.YtdnoidnpiaadaaaGreat
set_option maxRecDepth 10000
open Go.RowKit
set_option linter.unusedVariables false

/-- What is thrown where no step is left. -/
def NS : List PanicEntry := [{ v := .iface 140 (.agg #[]), recovered := false }]
def endOf : Bool → Ending
  | true => .panicked NS
  | false => .returned (.tuple #[])
theorem TL.shape {w : World} {B : Nat} {v : Value} {T : List C} (h : TL w B v T) {n : Nat} (hn : T.length = n) (h0 : n ≠ 0) : ∃ g cap, v = .slice (some ⟨g, 0, none⟩) n cap := by
  rcases h.form with ⟨rfl, rfl⟩ | ⟨g, cap, rfl, _⟩
  · exact absurd hn.symm h0
  · exact ⟨g, cap, by rw [hn]⟩
theorem TL.one {w : World} {B : Nat} {v : Value} {T : List C} (h : TL w B v T) : v.oneCell' = true := by
  rcases h.form with ⟨rfl, rfl⟩ | ⟨g, cap, rfl, _⟩ <;> rfl

set_option maxHeartbeats 1000000 in
theorem Rx.step_none {w0 w : World} {O OC : Nat → Prop} {v : Value} {p s t m : Nat} {S : St} {f : T9.Fo} {x : Nat} {T : List C} (h : Rx w0 w O OC v p s t m S f x 0 T) (a c : Int) :
    Calls Tryz.prog 107 #[.pointer (some ⟨x, 0, none⟩), sv a c] w fun e w' => e = .panicked NS ∧ w.grownBy w' none := by
  have c1 := (h.kept (gbAlloc w (.cells #[.int .i64 a, .int .i64 c] 31) none)).c1
  clear h
  go_enter Tryz.func107, Tryz.ntmps107
  go_wp2
  exact ⟨rfl, rfl, gbAlloc _ _ _⟩

set_option maxHeartbeats 4000000 in
theorem Rx.step_some {w0 w : World} {O OC : Nat → Prop} {v : Value} {p s t m : Nat} {S : St} {f : T9.Fo} {x : Nat} {l l' : Int} {T : List C} (h : Rx w0 w O OC v p s t m S f x l T) (I : M.Inv S f) (a c k o r b g u : Int) (fi nd : Bool) (ha : I64 a) (hc : I64 c) (ho : I64 o) (hm : f.len ≤ 1000) (hT : T.length ≤ 2000) (hl : (l == 0) = false) (hl' : l - 1 = l') (hl1 : 0 ≤ l') (hl2 : l ≤ 1000)
    (hg : Hid (M.gc S (a, c) = ⟨k, o, r, b, g, u⟩)) (hk : Hid (k ≠ 0)) (hf : M.fin S (a, c) = fi) (hnd : (k == 2) = nd) :
    Calls Tryz.prog 107 #[.pointer (some ⟨x, 0, none⟩), sv a c] w fun e w' => e = .returned (.tuple #[]) ∧ ∃ Oc OC' v', Ry w0 w w' O Oc OC' v' p s t m (if fi && nd then M.dropS (M.takS S (a, c)) o else M.takS S (a, c)) (M.takF S f (a, c)) x l' (if fi then T ++ [⟨k, o, r, b, g, u⟩] else T) := by
  have hw0 := h.cs.gr.size
  have HH := hideIt h
  clear h
  go_enter Tryz.func107, Tryz.ntmps107
  go_upto_region 1 with fail
  obtain ⟨W, hW, X0, g0⟩ := sboxNew w a c
  rw [hW]
  clear hW
  have HW := hideIt ((Ry.start HH.out).kept g0)
  have HX : Hid (SB W O w.heap.size a c) := ⟨X0, (Ry.start HH.out).out (by omega)⟩
  clear X0 g0
  have c1 := HW.out.rx.c1
  have z1 := HW.out.rx.fz 1
  go_upto_region 4 with fail
  obtain ⟨W1, hW1, HW1, HX1⟩ : ∃ W1, W.setCell ⟨x, 1, none⟩ (.int .i64 l') = W1 ∧ Hid (Ry w0 w W1 O O OC v p s t m S f x l' T) ∧ Hid (SB W1 O w.heap.size a c) := by
    have hx : w.heap.size ≠ x := fun e => HX.out.no (e ▸ HW.out.rx.ox)
    exact ⟨_, rfl, hideIt (HW.out.step (HW.out.rx.left l') (Fr.at (gbSetCell _ _ _ _) HW.out.rx.ox) (fun i hi => .inl hi)), hideIt (HX.out.keep (gbSetCell _ _ _ _) hx)⟩
  rw [hW1]
  clear hW1 c1 z1 HW HX
  have cx : ∀ y : Gr W1, y.w.cell? ⟨x, 0, none⟩ = some (.pointer (some ⟨p, 0, none⟩)) := fun y => (HW1.out.rx.kept y.g).c0
  have a0 : ∀ y : Gr W1, y.w.cell? ⟨w.heap.size, 0, none⟩ = some (.int .i64 a) := fun y => (HX1.out.kept y.g).sb.at0
  have a1 : ∀ y : Gr W1, y.w.cell? ⟨w.heap.size, 1, none⟩ = some (.int .i64 c) := fun y => (HX1.out.kept y.g).sb.at1
  have HQ : ∀ y : Gr W1, Calls Tryz.prog 25 #[.pointer (some ⟨p, 0, none⟩), sv a c] y.w fun x w' => x = .returned (.bool fi) ∧ y.w.grownBy w' none := fun y => HW1.out.rx.cs.final a c fi ha hf y.w y.g
  refine wp_region_grown (by kernel_rfl) (by kernel_rfl) fun _ => ?_
  repeat (go_big_quiet_step ((go_at_call 25; with_reducible exact callsGr (HQ _))))
  refine wpQuiet_nil ?_
  rintro W2 ⟨⟨_, g2⟩, rfl⟩
  have HW2 := hideIt (HW1.out.kept g2)
  have HX2 := hideIt (HX1.out.kept g2)
  clear cx a0 a1 HQ HW1 HX1 g2
  have hC : M.srcC S (a, c) = ⟨k, o, r, b, g, u⟩ := (M.srcC_ok (M.srcE_yes (by rw [hg.out]; exact hk.out))).trans hg.out
  have he : M.srcE S (a, c) = 0 := M.srcE_yes (by rw [hg.out]; exact hk.out)
  go_upto_region 5 with fail
  go_cut [5, 6] (fun s5 s6 wc => ∃ (Z : Nat) (Oc OC' : Nat → Prop), s5 = .pointer (some ⟨Z, 0, none⟩) ∧ s6 = .int .i64 0 ∧ Hid (Ry w0 w wc O Oc OC' v p s t m (M.takS S (a, c)) (M.takF S f (a, c)) x l' T) ∧ Hid (BB wc Oc Z ⟨k, o, r, b, g, u⟩))
  case first =>
    have T0b : Rd3 W2 x 0 p w.heap.size a c := ⟨HW2.out.rx.c0, HX2.out.sb.at0, HX2.out.sb.at1⟩
    have T0 : Rd3 W2.drew x 0 p w.heap.size a c := T0b.kept (gbDrew (gbRefl W2 none))
    have pW := HW2.out.rx.xlt
    have xW := HX2.out.sb.lt
    go_region_held3 (fun w' => Rd3 w' x 0 p w.heap.size a c)
      (first | with_reducible exact T0 | with_reducible exact T1 | (focus (refine Rd3.kept T1 ?_; (repeat (first | with_reducible refine gbAllocN ?_ _ | with_reducible refine gbSetNew ?_ _ _ _ (by with_reducible exact Nat.le_refl _) | with_reducible exact gbRefl _ _)); done)) | (focus (refine Rd3.keep (y := W2.heap.size) T1 ?_ (Nat.ne_of_lt pW) (Nat.ne_of_lt xW); (repeat (first | with_reducible refine gbSet1 ?_ _ _ | with_reducible exact gbRefl _ _)); done)) | (focus (refine Rd3.kept T0b ?_; (repeat (first | with_reducible exact gbRefl W2 none | with_reducible refine gbDrew ?_ | with_reducible refine gbAllocN ?_ _)); done)) | fail)
      ((first | (go_at_call 47; refine ((HW2.out.kept (by repeat (first | with_reducible exact gbRefl W2 none | with_reducible refine gbDrew ?_ | with_reducible refine gbAllocN ?_ _))).rx.cs.takeA I a c k o r b g u 0 ha hc hm hC he).mono ?_; rintro _ wu1 ⟨rfl, A1, F1⟩; have FO := (HW2.out.kept (by repeat (first | with_reducible exact gbRefl W2 none | with_reducible refine gbDrew ?_ | with_reducible refine gbAllocN ?_ _))).rx.fr F1; have hcc := fun o (hb : W2.heap.size < _) => gcellF FO W2.heap.size o (HW2.out.out (Nat.le_refl _)) hb; have hff := fun o (hb : W2.heap.size < _) => gfrozF FO W2.heap.size o (HW2.out.out (Nat.le_refl _)) hb; have HW3 := hideIt ((HW2.out.kept (by repeat (first | with_reducible exact gbRefl W2 none | with_reducible refine gbDrew ?_ | with_reducible refine gbAllocN ?_ _))).call A1 F1); have HX3 := hideIt ((HX2.out.kept (by repeat (first | with_reducible exact gbRefl W2 none | with_reducible refine gbDrew ?_ | with_reducible refine gbAllocN ?_ _))).call FO); have T1 : Rd3 wu1 x 0 p w.heap.size a c := ⟨HW3.out.rx.c0, HX3.out.sb.at0, HX3.out.sb.at1⟩) | fail))
    · rename_i hold
      clear hold T0
      obtain ⟨W6, hW6, Z6, g6⟩ := boxNew wu1 ⟨k, o, r, b, g, u⟩
      simp only at hW6
      rw [hW6]
      go_wp2
      go_meet
      exact ⟨_, _, _, rfl, rfl, hideIt (HW3.out.kept g6), hideIt ⟨Z6, HW3.out.out (Nat.le_refl _)⟩⟩
    · rename_i hold
      clear hold T0
      have Z0 : Box wu1 W2.heap.size C.zero := FO.box ((Box.made W2 C.zero).kept (gbDrew (gbRefl _ none))) (HW2.out.out (Nat.le_refl _))
      have Zn := wideNo (O := _) (w' := wu1) (HW2.out.out (Nat.le_refl _)) ((Box.made W2 C.zero).kept (gbDrew (gbRefl _ none))).lt
      obtain ⟨W6, hW6, Z6, g6⟩ := Z0.put ⟨k, o, r, b, g, u⟩
      simp only at hW6
      rw [hW6]
      go_wp2
      go_meet
      exact ⟨_, _, _, rfl, rfl, hideIt (HW3.out.keep g6 Zn HW2.out.fr.size hw0), hideIt ⟨Z6, Zn⟩⟩
  case rest =>
    obtain ⟨Z, Oc, OC', rfl, rfl, HW3, HZ⟩ := hcut
    cases fi with
    | false =>
      go_wp2
      refine bodyPost_ret (results_none rfl _ _ _) rfl ?_
      exact ⟨rfl, _, _, _, HW3.out⟩
    | true =>
      have t2 := HW3.out.rx.c2
      have hv1 := HW3.out.rx.one
      have b0 := HZ.out.bx.at0
      have b1 := HZ.out.bx.at1
      have b2 := HZ.out.bx.at2
      have b3 := HZ.out.bx.at3
      have b4 := HZ.out.bx.at4
      have b5 := HZ.out.bx.at5
      simp only at b0 b1 b2 b3 b4 b5
      have gA : wc.grownBy (wc.alloc (.cells (sixCells ⟨k, o, r, b, g, u⟩) 25)).drew none := gbDrew (gbAllocN (gbRefl _ _) _)
      obtain ⟨v4, w4, hr4, l4, g4, o4⟩ := run_append_caps (wc.alloc (.cells (sixCells ⟨k, o, r, b, g, u⟩) 25)).drew w0.heap.size v T (HW3.out.rx.tl.kept gA) 65 (some ⟨wc.heap.size, 0, none⟩) 1 1 [⟨k, o, r, b, g, u⟩] rfl (by simp) (by rintro ad ⟨⟩ j u' hj; exact (gbDrewN _ 1 none).cell (rowCap wc ⟨k, o, r, b, g, u⟩ j u' hj) (by simp)) (by omega) (Nat.le_trans HW3.out.rx.cs.gr.size gA.size)
      obtain ⟨kk, hkk⟩ : ∃ kk, (T ++ [(⟨k, o, r, b, g, u⟩ : C)]).length = kk := ⟨_, rfl⟩
      obtain ⟨g', cap', rfl⟩ := l4.shape hkk (by rw [← hkk]; simp)
      have gv4 : wc.grownBy w4 v.ownBlock := gbTrans (gbAny gA _) g4
      obtain ⟨A5, F5⟩ := HW3.out.rx.told gv4 l4 (by
        rcases o4 with e | e
        · exact .inl e
        · exact .inr (fun k hk => by rw [e] at hk; cases hk; simp)) rfl
      have hxv : ∀ k, v.ownBlock = some k → k ≠ x := fun k hk => (HW3.out.rx.tv k hk).2.2
      have xb : w4.heap[x]? = wc.heap[x]? := gv4.block x HW3.out.rx.xlt (fun e => hxv x e.symm rfl)
      have t4 : w4.cell? ⟨x, 2, none⟩ = some v := (World.cell?_of_block xb).trans t2
      have f4 : w4.frozen? ⟨x, 2, none⟩ = false := (World.frozen?_of_block xb).trans (HW3.out.rx.fz 2)
      have hxl := HW3.out.rx.xlt
      have hx1 : ¬ wc.heap.size = x := by omega
      have hx2 : ¬ x = wc.heap.size := by omega
      have hz1 : Z < wc.heap.size := HZ.out.bx.lt
      have hz2 : ¬ wc.heap.size = Z := by omega
      have hz3 : ¬ Z = wc.heap.size := by omega
      have HW5 := hideIt (HW3.out.step A5 F5 (fun i hi => by rcases hi with e | e; exact .inl e; exact .inr e.1))
      have hZx : Z ≠ x := fun e => HZ.out.no (e ▸ HW3.out.rx.ox)
      have HZ5 : Hid (BB (w4.setCell ⟨x, 2, none⟩ (.slice (some ⟨g', 0, none⟩) kk cap')) (wide Oc wc w4) Z ⟨k, o, r, b, g, u⟩) := hideIt ⟨F5.box HZ.out.bx HZ.out.no, wideNo HZ.out.no hz1⟩
      clear A5 F5 l4 hkk o4 hxv xb gv4 g4 gA
      go_upto_region 7 with fail
      go_region_law (refine step_append_cap rfl (.tmp 42) (.tmp 44) rfl v (.slice (some ⟨wc.heap.size, 0, none⟩) 1 1) rfl rfl (.slice (some ⟨g', 0, none⟩) kk cap') w4 hr4 ?_)
      all_goals (
        clear hr4 t2 t4 f4 b0 b1 b2 b3 b4 b5
        obtain ⟨W5, hW5⟩ : ∃ W5, w4.setCell ⟨x, 2, none⟩ (.slice (some ⟨g', 0, none⟩) kk cap') = W5 := ⟨_, rfl⟩
        rw [hW5] at HW5 HZ5 ⊢
        clear hW5
        have e0 := HZ5.out.bx.at0
        have e1 := HZ5.out.bx.at1
        simp only at e0 e1
        cases nd with
        | false =>
          go_wp2
          exact bodyPost_end (results_none rfl _ _ _) rfl ⟨rfl, _, _, _, HW5.out⟩
        | true =>
          go_upto_region 9 with fail
          have T0 : Ptr W5.drew x 0 p ∧ Two W5.drew Z k o := ⟨(HW5.out.rx.kept (gbDrewN W5 1 none)).c0, (gbDrewN W5 1 none).cell e0 (by simp), (gbDrewN W5 1 none).cell e1 (by simp)⟩
          go_region_held3 (fun w' => Ptr w' x 0 p ∧ Two w' Z k o)
            (first | with_reducible exact T0 | with_reducible exact T1 | fail)
            ((first | (go_at_call 31; refine ((HW5.out.kept (gbDrewN W5 1 none)).rx.cs.clear o _ ho rfl).mono ?_; rintro _ w6 ⟨rfl, A6, F6⟩; have HW6 := hideIt ((HW5.out.kept (gbDrewN W5 1 none)).call A6 F6); have HB6 := (HZ5.out.kept (gbDrewN W5 1 none)).call ((HW5.out.kept (gbDrewN W5 1 none)).rx.fr F6); have T1 : Ptr w6 x 0 p ∧ Two w6 Z k o := ⟨HW6.out.rx.c0, HB6.bx.at0, HB6.bx.at1⟩) | fail))
          go_wp2
          exact bodyPost_end (results_none rfl _ _ _) rfl ⟨rfl, _, _, _, HW6.out⟩)
end Go.Proofs.YtdnoidnpiaadaaaGreat

/-
  THE CONTRACT of taking a slot's capability away, with all that must go ahead of it.
-/
namespace Go.Proofs.YtdnoidnpiaadaaaGreat
set_option maxRecDepth 10000
open Go.RowKit
set_option linter.unusedVariables false

namespace M
theorem chk_o {c : C} (h : chk c = 0) : 0 ≤ c.o ∧ c.o ≤ 63 := by
  have h2 := (chk_iff.1 h).2.1
  simp only [bnd, Bool.and_eq_true, decide_eq_true_eq] at h2
  exact ⟨h2.1.1.1.1, h2.1.1.1.2⟩
theorem stp_T (x : X) (a : Int × Int) : (stp x a).2.T.length + (stp x a).2.l ≤ x.T.length + x.l := by
  unfold stp
  split
  · exact Nat.le_refl _
  · rename_i h
    show (if fin x.S a then x.T ++ [gc x.S a] else x.T).length + (x.l - 1) ≤ _
    split
    · simp; omega
    · omega
theorem away_T : ∀ (n : Nat) (x : X) (a : Int × Int) (L : List (Int × Int)), (away n x a L).2.T.length + (away n x a L).2.l ≤ x.T.length + x.l
  | 0, x, a, L => Nat.le_refl _
  | n + 1, x, a, L => by
    show (match ahd x.S a (L ++ [a]) with
      | none => stp x a
      | some b => match away n x b (L ++ [a]) with
        | (true, y) => (true, y)
        | (false, y) => away n y a L).2.T.length + (match ahd x.S a (L ++ [a]) with
      | none => stp x a
      | some b => match away n x b (L ++ [a]) with
        | (true, y) => (true, y)
        | (false, y) => away n y a L).2.l ≤ _
    cases ahd x.S a (L ++ [a]) with
    | none => exact stp_T x a
    | some b =>
      have g := away_T n x b (L ++ [a])
      simp only
      generalize away n x b (L ++ [a]) = r at g
      obtain ⟨q, y⟩ := r
      cases q with
      | true => exact g
      | false => exact Nat.le_trans (away_T n y a L) g
theorem away_none {n : Nat} {x : X} {a : Int × Int} {L : List (Int × Int)} (h : ahd x.S a (L ++ [a]) = none) : away (n + 1) x a L = stp x a := by
  show (match ahd x.S a (L ++ [a]) with
      | none => stp x a
      | some b => match away n x b (L ++ [a]) with
        | (true, y) => (true, y)
        | (false, y) => away n y a L) = _
  rw [h]
theorem away_some {n : Nat} {x : X} {a b : Int × Int} {L : List (Int × Int)} (h : ahd x.S a (L ++ [a]) = some b) : away (n + 1) x a L = match away n x b (L ++ [a]) with
        | (true, y) => (true, y)
        | (false, y) => away n y a L := by
  show (match ahd x.S a (L ++ [a]) with
      | none => stp x a
      | some b => match away n x b (L ++ [a]) with
        | (true, y) => (true, y)
        | (false, y) => away n y a L) = _
  rw [h]
end M

theorem Rv.step {w0 w : World} {O : Nat → Prop} {p s t m x : Nat} {X : M.X} (R : Rv w0 w O p s t m x X) (ok : M.Ok X) (a c : Int) (hf : (M.gc X.S (a, c)).k ≠ 0) (hlen : X.f.len ≤ 1000) (hT : X.T.length + X.l ≤ 1000) :
    Calls Tryz.prog 107 #[.pointer (some ⟨x, 0, none⟩), sv a c] w fun e w' => e = endOf (M.stp X (a, c)).1 ∧ Rv w0 w' (wide O w w') p s t m x (M.stp X (a, c)).2 ∧ Fr O w w' := by
  obtain ⟨OC, v, h⟩ := R
  have h0 := h.cs.gr.size
  unfold M.stp
  by_cases hl : X.l = 0
  · rw [if_pos hl]
    have h' : Rx w0 w O OC v p s t m X.S X.f x 0 X.T := by have := h; rw [hl] at this; exact this
    refine (h'.step_none a c).mono ?_
    rintro _ w' ⟨rfl, g⟩
    exact ⟨rfl, (Ry.start h).kept g |>.fin h0 h.lo⟩
  · rw [if_neg hl]
    obtain ⟨d, hd⟩ : ∃ d, M.gc X.S (a, c) = d := ⟨_, rfl⟩
    obtain ⟨k, o, r, b, g, u⟩ := d
    have hr := M.th_i64 ok.s (M.gc_th hf)
    have ho : I64 o := by
      have h2 := M.gc_chk ok.s (a, c)
      rw [hd] at h2
      have : 0 ≤ o ∧ o ≤ 63 := M.chk_o h2
      exact i64_of (by omega) (by omega)
    refine (h.step_some ok.i a c k o r b g u (M.fin X.S (a, c)) _ hr.1 hr.2 ho hlen (by omega) (l' := ((X.l - 1 : Nat) : Int)) (by simp; omega) (by omega) (by omega) (by omega) (hideIt hd) (hideIt (by rw [hd] at hf; exact hf)) rfl rfl).mono ?_
    rintro _ w' ⟨rfl, Oc, OC', v', Y⟩
    refine ⟨rfl, Ry.fin (X := M.one X (a, c)) (Oc := Oc) (OC := OC') (v := v') ?_ h0 h.lo⟩
    show Ry w0 w w' O Oc OC' v' p s t m (M.fall X.S (a, c)) (M.takF X.S X.f (a, c)) x ((X.l - 1 : Nat) : Int) (if M.fin X.S (a, c) then X.T ++ [M.gc X.S (a, c)] else X.T)
    unfold M.fall
    rw [hd]
    have e : (X.l : Int) - 1 = ((X.l - 1 : Nat) : Int) := by omega
    exact Y

/-- What there is on the way: the list of those on account of which one goes is appended to, and may be written by what is called. -/
structure Aw (w0 w wc : World) (O Oc : Nat → Prop) (p s t m x : Nat) (Y : M.X) (v : Value) (L : List (Int × Int)) (A : Nat) (a c : Int) : Prop where
  rv : Rv w0 wc Oc p s t m x Y
  fr : Fr (fun i => O i ∨ v.ownBlock = some i) w wc
  sub : ∀ i, Oc i → O i ∨ w.heap.size ≤ i
  ls : Lst wc w0.heap.size v L
  no : ∀ k, v.ownBlock = some k → ¬ Oc k
  sb : SB wc Oc A a c
  na : v.ownBlock ≠ some A
/-- A slot's name beside it. -/
structure Bw (wc : World) (Oc : Nat → Prop) (v : Value) (Z : Nat) (a c : Int) : Prop where
  sb : SB wc Oc Z a c
  nz : v.ownBlock ≠ some Z
namespace Aw
variable {w0 w wc wd : World} {O Oc : Nat → Prop} {p s t m x : Nat} {Y Y' : M.X} {v : Value} {L : List (Int × Int)} {A : Nat} {a c : Int}
theorem kept (h : Aw w0 w wc O Oc p s t m x Y v L A a c) (g : wc.grownBy wd none) : Aw w0 w wd O Oc p s t m x Y v L A a c :=
  ⟨h.rv.kept g, h.fr.trans (Fr.grown g), h.sub, h.ls.kept g, h.no, h.sb.kept g, h.na⟩
theorem call (h : Aw w0 w wc O Oc p s t m x Y v L A a c) (R : Rv w0 wd (wide Oc wc wd) p s t m x Y') (l : Lst wd w0.heap.size v L) (F : Fr (fun i => Oc i ∨ v.ownBlock = some i) wc wd) : Aw w0 w wd O (wide Oc wc wd) p s t m x Y' v L A a c := by
  have hs := h.fr.size
  refine ⟨R, h.fr.join F (fun i hi k => ?_), fun i hi => ?_, l, fun k hk => wideNo (h.no k hk) (h.ls.lt k hk).2, ⟨F.sbox h.sb.sb (fun e => ?_), wideNo h.sb.no h.sb.sb.lt⟩, h.na⟩
  · rcases k with k | k
    · rcases h.sub i k with e | e
      · exact .inl e
      · omega
    · exact .inr k
  · rcases hi with e | e
    · exact h.sub i e
    · exact .inr (by omega)
  · rcases e with e | e
    · exact h.sb.no e
    · exact h.na e
theorem keep {y : Nat} (h : Aw w0 w wc O Oc p s t m x Y v L A a c) (g : wc.grownBy wd (some y)) (hy : ¬ Oc y) (hv : v.ownBlock ≠ some y) (hA : A ≠ y) (hw : w.heap.size ≤ y) (h0 : w0.heap.size ≤ y) : Aw w0 w wd O Oc p s t m x Y v L A a c := by
  refine ⟨?_, h.fr.join (Fr.at (O := fun i => i = y) g rfl) (fun i hi e => by omega), h.sub, h.ls.block (fun k hk => g.block k (h.ls.lt k hk).2 (fun e => hv (by cases e; exact hk))), h.no, h.sb.keep g hA, h.na⟩
  obtain ⟨OC, v', R⟩ := h.rv
  exact ⟨OC, v', R.keep g hy h0⟩
theorem out (h : Aw w0 w wc O Oc p s t m x Y v L A a c) {y : Nat} (hx : wc.heap.size ≤ y) : ¬ Oc y := fun e => by
  obtain ⟨OC, v', R⟩ := h.rv
  have := (R.lo y e).2; omega
theorem far (h : Aw w0 w wc O Oc p s t m x Y v L A a c) {y : Nat} (hx : wc.heap.size ≤ y) : v.ownBlock ≠ some y := fun e => by have := (h.ls.lt y e).2; omega
end Aw
theorem Bw.kept {wc wd : World} {Oc : Nat → Prop} {v : Value} {Z : Nat} {a c : Int} (h : Bw wc Oc v Z a c) (g : wc.grownBy wd none) : Bw wd Oc v Z a c := ⟨h.sb.kept g, h.nz⟩
theorem Bw.call {wc wd : World} {Oc : Nat → Prop} {v : Value} {Z : Nat} {a c : Int} (h : Bw wc Oc v Z a c) (F : Fr (fun i => Oc i ∨ v.ownBlock = some i) wc wd) : Bw wd (wide Oc wc wd) v Z a c :=
  ⟨⟨F.sbox h.sb.sb (fun e => by rcases e with e | e; exact h.sb.no e; exact h.nz e), wideNo h.sb.no h.sb.sb.lt⟩, h.nz⟩
theorem Rv.ahead {w0 w : World} {O : Nat → Prop} {p s t m x : Nat} {X : M.X} (R : Rv w0 w O p s t m x X) (a c : Int) (ha : I64 a) {B : Nat} {bv : Value} {L : List (Int × Int)} (hb : Lst w B bv L) (hbv : bv ≠ .slice none 0 0) (hL : L.length ≤ 1000) (res : Option (Int × Int)) (hr : M.ahd X.S (a, c) L = res) :
    Calls Tryz.prog 106 #[.pointer (some ⟨x, 0, none⟩), sv a c, bv] w fun y w' => y = .returned (.tuple #[sv (res.getD (0, 0)).1 (res.getD (0, 0)).2, .bool res.isSome]) ∧ w.grownBy w' none := by
  obtain ⟨OC, v, h⟩ := R
  exact h.ahead a c ha hb hbv hL res hr
theorem Rv.size {w0 w : World} {O : Nat → Prop} {p s t m x : Nat} {X : M.X} (R : Rv w0 w O p s t m x X) : w0.heap.size ≤ w.heap.size := by obtain ⟨OC, v, h⟩ := R; exact h.cs.gr.size
theorem Rv.lo {w0 w : World} {O : Nat → Prop} {p s t m x : Nat} {X : M.X} (R : Rv w0 w O p s t m x X) : ∀ i, O i → w0.heap.size ≤ i ∧ i < w.heap.size := by obtain ⟨OC, v, h⟩ := R; exact h.lo
/-- Behind the append. -/
theorem Aw.start {w0 w W w1 : World} {O : Nat → Prop} {p s t m x : Nat} {X : M.X} {bv v : Value} {L : List (Int × Int)} {a c : Int} (R : Rv w0 w O p s t m x X) (hb : Lst w w0.heap.size bv L) (nb : ∀ k, bv.ownBlock = some k → ¬ O k) (g : w.grownBy W none) (X0 : SBox W w.heap.size a c) (o : Onto W w1 bv v) (l : Lst w1 w0.heap.size v (L ++ [(a, c)])) (hW : w.heap.size < W.heap.size) :
    Aw w0 w1 w1 O O p s t m x X v (L ++ [(a, c)]) w.heap.size a c := by
  obtain ⟨OC, v', h⟩ := R
  have h0 := h.cs.gr.size
  have R1 : Rx w0 w1 O OC v' p s t m X.S X.f x (X.l : Int) X.T := by
    have gr := o.gr
    cases e : bv.ownBlock with
    | none => rw [e] at gr; exact (h.kept g).kept gr
    | some k => rw [e] at gr; exact (h.kept g).keep gr (nb k e) (hb.lt k e).1
  have hbl : ∀ k, bv.ownBlock = some k → k < w.heap.size := fun k hk => (hb.lt k hk).2
  have hv : ∀ k, v.ownBlock = some k → ¬ O k ∧ k ≠ w.heap.size := fun k hk => by
    rcases o.or with ⟨g', n, cap, rfl, rfl⟩ | ⟨e, _⟩
    · cases hk
      exact ⟨nb g' rfl, Nat.ne_of_lt (hbl g' rfl)⟩
    · rw [e] at hk; cases hk
      exact ⟨fun z => by have := ((h.kept g).lo _ z).2; omega, by omega⟩
  have s1 : SBox w1 w.heap.size a c := by
    have gr := o.gr
    cases e : bv.ownBlock with
    | none => rw [e] at gr; exact X0.kept gr
    | some k => rw [e] at gr; exact X0.keep gr (Nat.ne_of_gt (hbl k e))
  exact ⟨⟨OC, v', R1⟩, Fr.refl _ _, fun i hi => .inl hi, l, fun k hk => (hv k hk).1, ⟨s1, fun z => by have := (h.lo _ z).2; omega⟩, fun e => (hv _ e).2 rfl⟩
theorem Aw.fin {w0 w W w1 wc : World} {O Oc : Nat → Prop} {p s t m x : Nat} {X Y : M.X} {bv v : Value} {L : List (Int × Int)} {A : Nat} {a c : Int} (R : Rv w0 w O p s t m x X) (hb : Lst w w0.heap.size bv L) (nb : ∀ k, bv.ownBlock = some k → ¬ O k) (g : w.grownBy W none) (o : Onto W w1 bv v) (h : Aw w0 w1 wc O Oc p s t m x Y v (L ++ [(a, c)]) A a c) :
    Rv w0 wc (wide O w wc) p s t m x Y ∧ Lst wc w0.heap.size bv L ∧ Fr (fun i => O i ∨ bv.ownBlock = some i) w wc := by
  obtain ⟨l, F⟩ := Onto.back (O := O) (hb.kept g) o h.ls h.fr nb
  have h0 := R.size
  have hlo := R.lo
  have s1 := g.size
  have s2 := o.gr.size
  have s3 := h.fr.size
  refine ⟨h.rv.mono (fun i hi => ?_) (fun i hi => ?_), l, (Fr.grown g).trans F⟩
  · rcases h.sub i hi with e | e
    · exact .inl e
    · exact .inr ⟨by omega, (h.rv.lo i hi).2⟩
  · rcases hi with e | e
    · have := hlo i e; omega
    · omega
end Go.Proofs.YtdnoidnpiaadaaaGreat
