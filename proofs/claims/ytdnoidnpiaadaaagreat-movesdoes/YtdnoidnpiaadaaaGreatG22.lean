/-
  THE SLOTS THAT ARE NOT EMPTY, as a list; lists that are gone through.
-/
import Derived.Test.YtdnoidnpiaadaaaGreatG21
import Derived.Test.YtdnoidnpiaadaaaGreatArgs
import Derived.Deep.MidRow
namespace Go.Proofs.YtdnoidnpiaadaaaGreat
set_option maxRecDepth 10000
open Go.RowKit
set_option linter.unusedVariables false

theorem M.mem_full {S : St} (G : Good S) (x : Int × Int) : x ∈ M.full S ↔ (M.gc S x).k ≠ 0 := by
  unfold M.full M.fullTo
  rw [List.mem_flatMap]
  constructor
  · rintro ⟨id, hid, hx⟩
    cases hs : S id with
    | none => rw [hs] at hx; cases hx
    | some d =>
      rw [hs] at hx
      unfold M.rowTo at hx
      obtain ⟨i, hi, rfl⟩ := List.mem_map.1 hx
      obtain ⟨h1, h2⟩ := List.mem_filter.1 hi
      have hk : (d.f i).k ≠ 0 := by simpa using h2
      have hlt : i < 2 ^ d.r := Classical.byContradiction fun hc => hk (by rw [G.out _ _ _ hs (by omega)])
      show (M.getC S id i).k ≠ 0
      rw [M.getC_at hs hlt]; exact hk
  · intro h
    have ht := M.gc_th h
    have hr := M.th_range G ht
    obtain ⟨d, j, hs, hi, hj⟩ := M.there_yes ht
    refine ⟨x.1.toNat, by simp; omega, ?_⟩
    have e1 : ((x.1.toNat : Nat) : Int) = x.1 := by omega
    rw [e1, hs]
    unfold M.rowTo
    refine List.mem_map.2 ⟨j, List.mem_filter.2 ⟨by simp; omega, ?_⟩, Prod.ext rfl hi.symm⟩
    unfold M.gc at h
    rw [hi, M.getC_at hs hj] at h
    simpa using h

/-- An element of a list in memory, where it lies. -/
theorem LB.at {wc : World} {Oc : Nat → Prop} {v : Value} {L : List (Int × Int)} (h : LB wc Oc v L) {i : Nat} (hi : i < L.length) : ∃ g cap a b, v = .slice (some ⟨g, 0, none⟩) L.length cap ∧ L[i]? = some (a, b) ∧ El wc ((⟨g, 0, none⟩ : Addr).add (i * 2)) a b ∧ ¬ Oc g := by
  rcases h.ls.form with ⟨rfl, rfl⟩ | ⟨g, cap, rfl, _, _, _, _, hr⟩
  · simp at hi
  · obtain ⟨⟨a, b⟩, hab⟩ : ∃ x, L[i]? = some x := ⟨L[i], by simp [hi]⟩
    exact ⟨g, cap, a, b, rfl, hab, hr i (a, b) hab, h.no g rfl⟩
theorem LB.slice {wc : World} {Oc : Nat → Prop} {v : Value} {L : List (Int × Int)} (h : LB wc Oc v L) : ∃ xo cap, v = .slice xo L.length cap := by
  rcases h.ls.form with ⟨rfl, rfl⟩ | ⟨g, cap, rfl, _⟩
  · exact ⟨none, 0, rfl⟩
  · exact ⟨_, cap, rfl⟩
/-- A slot's name in a block, from an offset on. -/
structure Ex (w : World) (g o : Nat) (a b : Int) : Prop where
  at0 : w.cell? ⟨g, o, none⟩ = some (.int .i64 a)
  at1 : w.cell? ⟨g, o + 1, none⟩ = some (.int .i64 b)
theorem Ex.kept {w w' : World} {g o : Nat} {a b : Int} (h : Ex w g o a b) (k : w.grownBy w' none) : Ex w' g o a b := ⟨k.cell h.at0 (by simp), k.cell h.at1 (by simp)⟩
theorem Fr.ex {O : Nat → Prop} {w w' : World} {g o : Nat} {a b : Int} (F : Fr O w w') (h : Ex w g o a b) (ho : ¬ O g) : Ex w' g o a b := ⟨F.cell h.at0 ho, F.cell h.at1 ho⟩
theorem LB.el {wc : World} {Oc : Nat → Prop} {xo : Option Addr} {n cap : Nat} {L : List (Int × Int)} (h : LB wc Oc (.slice xo n cap) L) {i : Nat} (hi : i < L.length) : ∃ g a b, xo = some ⟨g, 0, none⟩ ∧ L[i]? = some (a, b) ∧ Ex wc g (i * 2) a b ∧ ¬ Oc g := by
  obtain ⟨g, cap', a, b, h1, h2, h3, h4⟩ := h.at hi
  simp only [Value.slice.injEq] at h1
  refine ⟨g, a, b, h1.1, h2, ?_, h4⟩
  have e : (⟨g, 0, none⟩ : Addr).add (i * 2) = ⟨g, i * 2, none⟩ := by unfold Addr.add; split <;> simp_all
  rw [e] at h3
  exact ⟨h3.at0, h3.at1⟩
/-- What an indexed call reads. -/
abbrev Rx (w : World) (p j q g o o' : Nat) (a b : Int) : Prop := Ptr w p j q ∧ w.cell? ⟨g, o, none⟩ = some (.int .i64 a) ∧ w.cell? ⟨g, o', none⟩ = some (.int .i64 b)
theorem Rx.kept {w w' : World} {p j q g o o' : Nat} {a b : Int} (h : Rx w p j q g o o' a b) (k : w.grownBy w' none) : Rx w' p j q g o o' a b := ⟨k.cell h.1 (by simp), k.cell h.2.1 (by simp), k.cell h.2.2 (by simp)⟩
theorem M.getE_ok {S : St} {a b : Int} (h : M.th S (a, b) = true) : M.getE S a b = 0 := by unfold M.getE; exact if_pos h
end Go.Proofs.YtdnoidnpiaadaaaGreat

/-
  AN ACT AS ONE VALUE: loads and stores of eighteen cells by laws of their own (written by mkopq.py).
-/
namespace Go.Proofs.YtdnoidnpiaadaaaGreat
set_option maxRecDepth 10000
open Go.RowKit
set_option linter.unusedVariables false

def qcs (q : Q) : List Value := [.int .i64 q.k, .int .i64 q.a, .int .i64 q.a2, .int .i64 q.b, .int .i64 q.b2, .int .i64 q.d, .int .i64 q.d2, .int .i64 q.c.k, .int .i64 q.c.o, .int .i64 q.c.r, .int .u64 q.c.b, .int .u64 q.c.g, .int .i64 q.c.n, .int .i64 q.n, .int .i64 q.rt, .int .u64 q.bd, .int .u64 q.gd, .int .i64 q.bt]
theorem qcs_len (q : Q) : (qcs q).length = 18 := rfl
theorem El18.all {w : World} {y : Addr} {q : Q} (h : El18 w y q) : ∀ j v, (qcs q)[j]? = some v → w.cell? (y.add j) = some v := by
  intro j v hv
  have hj : j < 18 := by have := (List.getElem?_eq_some_iff.1 hv).1; rw [qcs_len] at this; exact this
  have z : y.add 0 = y := by unfold Addr.add; simp
  match j, hj with
  | 0, _ => rw [z]; cases hv; exact h.at0
  | 1, _ => rw [add_pos _ _ (by decide)]; cases hv; exact h.at1
  | 2, _ => rw [add_pos _ _ (by decide)]; cases hv; exact h.at2
  | 3, _ => rw [add_pos _ _ (by decide)]; cases hv; exact h.at3
  | 4, _ => rw [add_pos _ _ (by decide)]; cases hv; exact h.at4
  | 5, _ => rw [add_pos _ _ (by decide)]; cases hv; exact h.at5
  | 6, _ => rw [add_pos _ _ (by decide)]; cases hv; exact h.at6
  | 7, _ => rw [add_pos _ _ (by decide)]; cases hv; exact h.at7
  | 8, _ => rw [add_pos _ _ (by decide)]; cases hv; exact h.at8
  | 9, _ => rw [add_pos _ _ (by decide)]; cases hv; exact h.at9
  | 10, _ => rw [add_pos _ _ (by decide)]; cases hv; exact h.at10
  | 11, _ => rw [add_pos _ _ (by decide)]; cases hv; exact h.at11
  | 12, _ => rw [add_pos _ _ (by decide)]; cases hv; exact h.at12
  | 13, _ => rw [add_pos _ _ (by decide)]; cases hv; exact h.at13
  | 14, _ => rw [add_pos _ _ (by decide)]; cases hv; exact h.at14
  | 15, _ => rw [add_pos _ _ (by decide)]; cases hv; exact h.at15
  | 16, _ => rw [add_pos _ _ (by decide)]; cases hv; exact h.at16
  | 17, _ => rw [add_pos _ _ (by decide)]; cases hv; exact h.at17
theorem run_load_op {w : World} {y : Addr} {q : Q} (h : El18 w y q) : (Instr.loadAt 33 (.pointer (some y))).run Tryz.prog w = .ok (.agg (qcs q).toArray) w := by
  have hl : (loadCells y (qcs q).length).run Tryz.prog w = .ok (qcs q).toArray w := run_loadCells_list (P := Tryz.prog) w y (qcs q) h.all
  have hi : (Tryz.prog.info? 33).map (·.size) = some 18 := by kernel_rfl
  cases hq : Tryz.prog.info? 33 with
  | none => simp [hq] at hi
  | some i =>
    have hs : i.size = (qcs q).length := by rw [qcs_len]; simpa [hq] using hi
    have hagg : (isAgg 33).run Tryz.prog w = .ok true w := by
      unfold isAgg
      rw [Sem.run_bind, run_underlying Tryz.underlying33 w]
      rfl
    simp only [Instr.loadAt, Instr.sureAddr, Sem.run_bind, Sem.run_pure, Result.andThen_ok]
    simp [loadVar, Sem.run_bind, hagg, sizeOf, typeInfo, hq, hs, hl]
theorem wpList_load_op {w : World} {ops : Array Oper} {rest : List Oper} {o : Oper} {a : Act} {Q' : Exit → Act → World → Prop} (hg : o.guard = none) (x : Operand) (ho : o.op = .load 33 x)
    (y : Addr) (q : Q) (hx : a.eval x = .pointer (some y)) (hl : El18 w y q)
    (h : wpList Tryz.prog ops Q' rest (a.put o.dst (.agg (qcs q).toArray)) w) : wpList Tryz.prog ops Q' (o :: rest) a w :=
  wpList_plain hg fun K' hK' => by
    unfold Oper.wp execOp
    simp only [ho, hx, Sem.run_bind, run_load_op hl, Result.andThen_ok, Sem.run_pure]
    exact hK' _ _ h
theorem gbSetCells (b : Nat) : ∀ (vs : List Value) (o : Nat) (w : World), w.grownBy (w.setCells b o vs) (some b)
  | [], _, w => gbRefl w _
  | v :: vs, o, w => by rw [World.setCells]; exact gbTrans (gbSetCell _ _ _ _) (gbSetCells b vs (o + 1) _)
theorem qcs_one (q : Q) : ∀ v ∈ qcs q, v.oneCell' = true := by
  intro v hv
  unfold qcs at hv
  simp only [List.mem_cons, List.not_mem_nil, or_false] at hv
  rcases hv with rfl | rfl | rfl | rfl | rfl | rfl | rfl | rfl | rfl | rfl | rfl | rfl | rfl | rfl | rfl | rfl | rfl | rfl <;> rfl
theorem wpList_store_op {w : World} {ops : Array Oper} {rest : List Oper} {o : Oper} {a : Act} {Q' : Exit → Act → World → Prop} (hgd : o.guard = none) (x y : Operand) (ho : o.op = .store 33 x y)
    (b : Nat) (q : Q) (hx : a.eval x = .pointer (some ⟨b, 0, none⟩)) (hy : a.eval y = .agg (qcs q).toArray) (ht : w.there b 0 18) (hb : b < w.heap.size)
    (h : ∀ W, OBox W b q → w.grownBy W (some b) → wpList Tryz.prog ops Q' rest (a.put o.dst undef) W) : wpList Tryz.prog ops Q' (o :: rest) a w := by
  refine wpList_store_mid hgd 33 x y ho b 0 (qcs q).toArray hx hy ht (by kernel_rfl) (all_oneCell_toArray (qcs_one q)) ?_
  have G := gbSetCells b (qcs q) 0 w
  have R := World.rangeAt_setCells_same w b 0 (qcs q) ht
  refine h _ ⟨R 0 _ rfl, R 1 _ rfl, R 2 _ rfl, R 3 _ rfl, R 4 _ rfl, R 5 _ rfl, R 6 _ rfl, R 7 _ rfl, R 8 _ rfl, R 9 _ rfl, R 10 _ rfl, R 11 _ rfl, R 12 _ rfl, R 13 _ rfl, R 14 _ rfl, R 15 _ rfl, R 16 _ rfl, R 17 _ rfl, Nat.lt_of_lt_of_le hb G.size⟩ G
theorem opZero (w : World) : (w.alloc (.cells #[.int .i64 0, .int .i64 0, .int .i64 0, .int .i64 0, .int .i64 0, .int .i64 0, .int .i64 0, .int .i64 0, .int .i64 0, .int .i64 0, .int .u64 0, .int .u64 0, .int .i64 0, .int .i64 0, .int .i64 0, .int .u64 0, .int .u64 0, .int .i64 0] 33)).there w.heap.size 0 18 ∧ w.heap.size < (w.alloc (.cells #[.int .i64 0, .int .i64 0, .int .i64 0, .int .i64 0, .int .i64 0, .int .i64 0, .int .i64 0, .int .i64 0, .int .i64 0, .int .i64 0, .int .u64 0, .int .u64 0, .int .i64 0, .int .i64 0, .int .i64 0, .int .u64 0, .int .u64 0, .int .i64 0] 33)).heap.size := by
  refine ⟨fun j hj => ?_, by simp⟩
  have hj' : j = 0 ∨ j = 1 ∨ j = 2 ∨ j = 3 ∨ j = 4 ∨ j = 5 ∨ j = 6 ∨ j = 7 ∨ j = 8 ∨ j = 9 ∨ j = 10 ∨ j = 11 ∨ j = 12 ∨ j = 13 ∨ j = 14 ∨ j = 15 ∨ j = 16 ∨ j = 17 := by omega
  rcases hj' with rfl | rfl | rfl | rfl | rfl | rfl | rfl | rfl | rfl | rfl | rfl | rfl | rfl | rfl | rfl | rfl | rfl | rfl <;> exact ⟨by simp, by simp⟩
end Go.Proofs.YtdnoidnpiaadaaaGreat
