/-
  THE CONTRACTS of package tree: New, Has, Len, Parent, Children (with slices.Clone).
-/
import Derived.Test.YtdnoidnpiaadaaaGreatG10
import Derived.RegionTactic
import Derived.Lib.SliceRun
import Derived.Test.YtdnoidnpiaadaaaGreatTPlain
namespace Go.Proofs.YtdnoidnpiaadaaaGreat
set_option maxRecDepth 10000
namespace T9
open Go.RowKit
set_option linter.unusedVariables false

set_option maxHeartbeats 400000 in
theorem new_is (w : World) : Calls Tryz.prog 28 #[] w fun e w' => ∃ p, e = .returned (.pointer (some ⟨p, 0, none⟩)) ∧ TAt w' p (fun i => w.heap.size ≤ i ∧ i < w'.heap.size) .nil ∧ w.grownBy w' none := by
  have hmm := @run_makeMap Tryz.prog
  go_enter Tryz.func28, Tryz.ntmps28
  go_wp2
  go_ret
  refine ⟨w.heap.size + 1, rfl, ⟨w.heap.size, fun _ => none, fun _ => .slice none 0 0, ⟨?_, ?_, fun _ _ => rfl, fun s y h => (nomatch h), fun _ _ _ h _ => (nomatch h), fun _ _ _ h _ => absurd rfl h⟩, ⟨by omega, by simp⟩, ⟨by omega, by simp; omega⟩, fun _ _ h => (nomatch h), fun _ _ _ h => (nomatch h)⟩, ?_⟩
  · have e := Deep.blk_alloc_new (w.alloc (.map #[] 0)) (.cells #[.map (some w.heap.size)] 119)
    rw [Deep.nblk_alloc] at e; exact e
  · exact (KMap.made w).fr (O := fun _ => False) (Fr.grown (gbAlloc _ _ _)) (fun e => e)
  · exact gbTrans (gbAlloc _ _ _) (gbAlloc _ _ _)

theorem _root_.Go.Proofs.YtdnoidnpiaadaaaGreat.Lst.from {w : World} {B B' : Nat} {v : Value} {L : List (Int × Int)} (h : Lst w B v L) (hB : B' ≤ B) : Lst w B' v L := by
  obtain ⟨h1, h2⟩ := h
  refine ⟨h1, ?_⟩
  rcases h2 with h2 | ⟨g, cap, cur, rfl, hb, hg, h3⟩
  · exact .inl h2
  · exact .inr ⟨g, cap, cur, rfl, Nat.le_trans hB hb, hg, h3⟩

/-- What a region reads that looks a slot up, in every world that it grows into. -/
structure Reads (W : World) (p b x : Nat) (n i : Int) (v : Value) : Prop where
  c0 : ∀ y : Gr W, y.w.cell? ⟨p, 0, none⟩ = some (.map (some b))
  x0 : ∀ y : Gr W, y.w.cell? ⟨x, 0, none⟩ = some (.int .i64 n)
  x1 : ∀ y : Gr W, y.w.cell? ⟨x, 1, none⟩ = some (.int .i64 i)
  hl : ∀ y : Gr W, (Instr.lookup 117 (.map (some b)) (sv n i) false).run Tryz.prog y.w = .ok v y.w
theorem Reads.mk' {W : World} {p b m x : Nat} {K : Int × Int → Option Nat} {V : Int × Int → Value} {P : Vw} {n i : Int} {r : Option Nat} (h : TA W p b m K V P) (hn : I64 n) (hi : I64 i) (X : SBox W x n i) (hr : K (n, i) = r) : Reads W p b x n i (ptr r) :=
  ⟨fun y => y.g.cell h.cell (by simp), fun y => (X.kept y.g).at0, fun y => (X.kept y.g).at1, fun y => by rw [← hr]; exact (h.kept y.g).map.look n i hn hi⟩

set_option maxHeartbeats 400000 in
theorem has_yes {w : World} {p b m q : Nat} {K : Int × Int → Option Nat} {V : Int × Int → Value} {P : Vw} (h : Hid (TA w p b m K V P)) (n i : Int) (hn : I64 n) (hi : I64 i) (hq : Hid (K (n, i) = some q)) :
    Calls Tryz.prog 109 #[.pointer (some ⟨p, 0, none⟩), sv n i] w fun e w' => e = .returned (.bool true) ∧ w.grownBy w' none := by
  go_enter Tryz.func109, Tryz.ntmps109
  go_upto_region 1 with fail
  obtain ⟨W, hW, X, g0⟩ := sboxNew w n i
  rw [hW]
  clear hW
  obtain ⟨c0, x0, x1, hl⟩ := Reads.mk' (h.out.kept g0) hn hi X hq.out
  refine wp_region_grown (by kernel_rfl) (by kernel_rfl) fun _ => ?_
  repeat (go_big_quiet_step (fail))
  refine wpQuiet_nil ?_
  rintro w1 ⟨⟨_, g1⟩, rfl⟩
  go_wp2
  go_ret
  exact ⟨rfl, gbTrans g0 g1⟩
set_option maxHeartbeats 400000 in
theorem has_no {w : World} {p b m : Nat} {K : Int × Int → Option Nat} {V : Int × Int → Value} {P : Vw} (h : Hid (TA w p b m K V P)) (n i : Int) (hn : I64 n) (hi : I64 i) (hq : Hid (K (n, i) = none)) :
    Calls Tryz.prog 109 #[.pointer (some ⟨p, 0, none⟩), sv n i] w fun e w' => e = .returned (.bool false) ∧ w.grownBy w' none := by
  go_enter Tryz.func109, Tryz.ntmps109
  go_upto_region 1 with fail
  obtain ⟨W, hW, X, g0⟩ := sboxNew w n i
  rw [hW]
  clear hW
  obtain ⟨c0, x0, x1, hl⟩ := Reads.mk' (h.out.kept g0) hn hi X hq.out
  refine wp_region_grown (by kernel_rfl) (by kernel_rfl) fun _ => ?_
  repeat (go_big_quiet_step (fail))
  refine wpQuiet_nil ?_
  rintro w1 ⟨⟨_, g1⟩, rfl⟩
  go_wp2
  go_ret
  exact ⟨rfl, gbTrans g0 g1⟩

theorem TA.keyed {w : World} {p b m : Nat} {K : Int × Int → Option Nat} {V : Int × Int → Value} {f : Fo} (h : TA w p b m K V (f.view none)) (s : Int × Int) : (∃ q, K s = some q ∧ f.has s = true ∧ MemAt w q (f.parent s) (V s) ∧ Lst w 0 (V s) (f.children s)) ∨ (K s = none ∧ f.has s = false) := by
  cases hs : f.has s with
  | false => exact .inr ⟨h.gone s (Fo.hasnt hs).1, rfl⟩
  | true => obtain ⟨q, h1, h2, h3⟩ := h.mem s _ (Fo.has_view hs); exact .inl ⟨q, h1, rfl, h2, h3⟩

theorem has_is {w : World} {p : Nat} {O : Nat → Prop} {f : Fo} (h : TAt w p O f) (n i : Int) (hn : I64 n) (hi : I64 i) (v : Bool) (hv : f.has (n, i) = v) :
    Calls Tryz.prog 109 #[.pointer (some ⟨p, 0, none⟩), sv n i] w fun e w' => e = .returned (.bool v) ∧ w.grownBy w' none := by
  obtain ⟨b, K, V, h, _⟩ := h
  rcases h.keyed (n, i) with ⟨q, hq, hh, _⟩ | ⟨hq, hh⟩
  · rw [hh] at hv; subst hv; exact has_yes (hideIt h) n i hn hi (hideIt hq)
  · rw [hh] at hv; subst hv; exact has_no (hideIt h) n i hn hi (hideIt hq)

/-- Two slots' names, laid. -/
theorem twoNew (w : World) (n i a c : Int) : ∃ W, (w.alloc (.cells #[.int .i64 n, .int .i64 i] 31)).alloc (.cells #[.int .i64 a, .int .i64 c] 31) = W ∧
    SBox W w.heap.size n i ∧ SBox W (w.heap.size + 1) a c ∧ (∀ j, W.frozen? ⟨w.heap.size + 1, j, none⟩ = false) ∧ w.grownBy W none :=
  ⟨_, rfl, (SBox.made w n i).kept (gbAlloc _ _ _), by simpa using SBox.made (w.alloc (.cells #[.int .i64 n, .int .i64 i] 31)) a c, fun j => by simp, gbTrans (gbAlloc _ _ _) (gbAlloc _ _ _)⟩

set_option maxHeartbeats 400000 in
theorem parent_no {w : World} {p b m : Nat} {K : Int × Int → Option Nat} {V : Int × Int → Value} {P : Vw} (h : Hid (TA w p b m K V P)) (n i : Int) (hn : I64 n) (hi : I64 i) (hq : Hid (K (n, i) = none)) :
    Calls Tryz.prog 53 #[.pointer (some ⟨p, 0, none⟩), sv n i] w fun e w' => e = .returned (.tuple #[sv 0 0, .bool false]) ∧ w.grownBy w' none := by
  go_enter Tryz.func53, Tryz.ntmps53
  go_upto_region 1 with fail
  obtain ⟨W, hW, X, Y, hf, g0⟩ := twoNew w n i 0 0
  rw [hW]
  clear hW
  obtain ⟨c0, x0, x1, hl⟩ := Reads.mk' (h.out.kept g0) hn hi X hq.out
  refine wp_region_grown (by kernel_rfl) (by kernel_rfl) fun _ => ?_
  repeat (go_big_quiet_step (fail))
  refine wpQuiet_nil ?_
  rintro w1 ⟨⟨_, g1⟩, rfl⟩
  clear c0 x0 x1 hl
  have y0 := (Y.kept g1).at0
  have y1 := (Y.kept g1).at1
  have hf1 := fun j => (gbFrozen (i := j) g1 Y.lt (by simp)).trans (hf j)
  go_wp2
  exact bodyPost_ret (v := .tuple #[sv 0 0, .bool false]) (by simp [results, Tryz.results53, go_sem, y0, y1]) rfl ⟨rfl, gbSetNew (gbSetNew (gbTrans g0 g1) _ _ _ (by omega)) _ _ _ (by omega)⟩
set_option maxHeartbeats 400000 in
theorem parent_yes {w : World} {p b m q : Nat} {K : Int × Int → Option Nat} {V : Int × Int → Value} {P : Vw} (h : Hid (TA w p b m K V P)) (n i on oa : Int) (ob : Bool) (hn : I64 n) (hi : I64 i) (hq : Hid (K (n, i) = some q))
    (h0 : w.cell? ⟨q, 0, none⟩ = some (.int .i64 on)) (h1 : w.cell? ⟨q, 1, none⟩ = some (.int .i64 oa)) (h2 : w.cell? ⟨q, 2, none⟩ = some (.bool ob)) :
    Calls Tryz.prog 53 #[.pointer (some ⟨p, 0, none⟩), sv n i] w fun e w' => e = .returned (.tuple #[sv on oa, .bool ob]) ∧ w.grownBy w' none := by
  go_enter Tryz.func53, Tryz.ntmps53
  go_upto_region 1 with fail
  obtain ⟨W, hW, X, Y, hf, g0⟩ := twoNew w n i 0 0
  rw [hW]
  clear hW
  obtain ⟨c0, x0, x1, hl⟩ := Reads.mk' (h.out.kept g0) hn hi X hq.out
  refine wp_region_grown (by kernel_rfl) (by kernel_rfl) fun _ => ?_
  repeat (go_big_quiet_step (fail))
  refine wpQuiet_nil ?_
  rintro w1 ⟨⟨_, g1⟩, rfl⟩
  clear c0 x0 x1 hl
  have y0 := (Y.kept g1).at0
  have y1 := (Y.kept g1).at1
  have hf1 := fun j => (gbFrozen (i := j) g1 Y.lt (by simp)).trans (hf j)
  have q0 := (gbTrans g0 g1).cell h0 (by simp)
  have q1 := (gbTrans g0 g1).cell h1 (by simp)
  have q2 := (gbTrans g0 g1).cell h2 (by simp)
  clear h0 h1 h2
  go_wp2
  go_region
  go_wp2
  exact bodyPost_ret (v := .tuple #[sv on oa, .bool ob]) (by simp [results, Tryz.results53, go_sem, y0, y1]) rfl ⟨rfl, by
    repeat (first | with_reducible exact gbTrans g0 g1 | with_reducible refine gbDrew ?_ | with_reducible refine gbSetNew ?_ _ _ _ (by omega))⟩

theorem parent_is {w : World} {p : Nat} {O : Nat → Prop} {f : Fo} (h : TAt w p O f) (n i : Int) (hn : I64 n) (hi : I64 i) (on oa : Int) (ob : Bool) (e1 : oN (f.parent (n, i)) = on) (e2 : oA (f.parent (n, i)) = oa) (e3 : oB (f.parent (n, i)) = ob) :
    Calls Tryz.prog 53 #[.pointer (some ⟨p, 0, none⟩), sv n i] w fun e w' => e = .returned (.tuple #[sv on oa, .bool ob]) ∧ w.grownBy w' none := by
  subst e1 e2 e3
  obtain ⟨b, K, V, h, _⟩ := h
  rcases h.keyed (n, i) with ⟨q, hq, hh, hm, _⟩ | ⟨hq, hh⟩
  · exact parent_yes (hideIt h) n i _ _ _ hn hi (hideIt hq) hm.c0 hm.c1 hm.c2
  · rw [(Fo.hasnt hh).2.2.1]; exact parent_no (hideIt h) n i hn hi (hideIt hq)

/-! ### slices.Clone, Children -/
theorem run_append_slots (w : World) (B : Nat) (v : Value) (l : List (Int × Int)) (hown : Lst w B v l) (ty : TypeId) (ox : Option Addr) (m c : Nat) (k : List (Int × Int)) (hm : k.length = m) (hno : ox = none → m = 0) (hx : ∀ ad, ox = some ad → Row w ad k) (hn : l.length + m ≤ 1000000) (hB : B ≤ w.heap.size) :
    ∃ v' w', (Builtin.append_ #[51, 51] ty #[v, .slice ox m c]).run Tryz.prog w = .ok v' w' ∧ Lst w' B v' (l ++ k) ∧ w.grownBy w' v.ownBlock ∧ (v'.ownBlock = v.ownBlock ∨ v'.ownBlock = some w.heap.size) := by
  obtain ⟨i, hi, hx0⟩ := Option.map_eq_some_iff.1 Tryz.infoSlot
  simp only [Prod.mk.injEq] at hx0
  obtain ⟨hz0, hz1, hz2⟩ := hx0
  cases ox with
  | some ad =>
    obtain ⟨v', w', h1, h2, h3, _, h5⟩ := run_append_own_at (P := Tryz.prog) w B 51 ty 31 i (.agg #[.int .i64 0, .int .i64 0]) 2 16 Tryz.underlying51 hi hz0 hz1 hz2 (by kernel_rfl) (by decide) v l.length (cellsL l) hown ad m c (cellsL k) (by rw [cellsL_len, hm]) (hx ad rfl).cells (cellsL_one k) (by unfold maxLen; omega) (by omega) hB
    refine ⟨v', w', h1, ?_, h3, h5⟩
    unfold Lst
    rw [← cellsL_app, List.length_append, hm]
    exact h2
  | none =>
    obtain rfl : m = 0 := hno rfl
    obtain rfl : k = [] := List.eq_nil_of_length_eq_zero hm
    refine ⟨v, w, ?_, by rw [List.append_nil]; exact hown, gbRefl _ _, .inl rfl⟩
    rcases hown.2 with ⟨rfl, _⟩ | ⟨g, cap, cur, rfl, _, _, hnc, _⟩
    · simp [Builtin.append_, run_underlying Tryz.underlying51, sizeOf, typeInfo, hi, Builtin.lenOf, Builtin.firstCells]
    · have : l.length + 0 ≤ cap := by omega
      simp [Builtin.append_, run_underlying Tryz.underlying51, sizeOf, typeInfo, hi, Builtin.lenOf, Builtin.firstCells, storeCells, hnc]
theorem wpList_append_slots {w : World} {ops : Array Oper} {rest : List Oper} {o : Oper} {a : Act} {Q : Exit → Act → World → Prop} (hgd : o.guard = none) (s x : Operand)
    (ho : o.op = .call { callee := .builtin .append, args := #[s, x], argTypes := #[51, 51] })
    (B : Nat) (v : Value) (l : List (Int × Int)) (hs : a.eval s = v) (hown : Lst w B v l) (ox : Option Addr) (m c : Nat) (k : List (Int × Int)) (hx : a.eval x = .slice ox m c) (hm : k.length = m) (hno : ox = none → m = 0) (hxc : ∀ ad, ox = some ad → Row w ad k)
    (hn : l.length + m ≤ 1000000) (hB : B ≤ w.heap.size)
    (h : ∀ v' w', Lst w' B v' (l ++ k) → w.grownBy w' v.ownBlock → (v'.ownBlock = v.ownBlock ∨ v'.ownBlock = some w.heap.size) → wpList Tryz.prog ops Q rest (a.put o.dst v') w') : wpList Tryz.prog ops Q (o :: rest) a w := by
  refine wpList_plain hgd fun K' hK' => ?_
  obtain ⟨v', w', hr, h1, h2, h3⟩ := run_append_slots w B v l hown o.type ox m c k hm hno hxc hn hB
  unfold Oper.wp execOp
  simp only [ho, resolve, invoke, builtin, Sem.run_bind, Sem.run_pure, Result.andThen_ok, List.map_toArray, List.map_cons, List.map_nil, hs, hx, hr]
  exact hK' _ _ (h v' w' h1 h2 h3)

theorem sliceNil (w : World) (a : Option Addr) (n c : Nat) : (binOp .eql 51 (.slice a n c) (.slice none 0 0)).run Tryz.prog w = .ok (.bool a.isNone) w := Lib.run_eql_slice_nil w 51 31 a n c 0 0 Tryz.underlying51
theorem _root_.Go.Proofs.YtdnoidnpiaadaaaGreat.Lst.empty (w : World) : Lst (w.alloc (.cells #[] 31)) w.heap.size (.slice (some ⟨w.heap.size, 0, none⟩) 0 0) [] :=
  w.ownsRow_made (base := w.heap.size) (e := 31) (size := 2) #[] 0 (Nat.le_refl _) (by decide) (by simp)

set_option maxHeartbeats 400000 in
theorem clone_nil (w : World) : Calls Tryz.prog 100 #[.slice none 0 0] w fun e w' => e = .returned (.slice none 0 0) ∧ w.grownBy w' none := by
  have qnil := sliceNil
  go_enter Tryz.func100, Tryz.ntmps100
  go_wp2
  go_ret
  exact ⟨rfl, gbRefl _ _⟩
set_option maxHeartbeats 400000 in
theorem clone_row (w : World) (g n cap : Nat) (L : List (Int × Int)) (hn : L.length = n) (hn2 : n ≤ 1000) (HR : Hid (Row w ⟨g, 0, none⟩ L)) :
    Calls Tryz.prog 100 #[.slice (some ⟨g, 0, none⟩) n cap] w fun e w' => ∃ v, e = .returned v ∧ Lst w' w.heap.size v L ∧ w.grownBy w' none := by
  have HE := hideIt (Lst.empty w)
  have HR1 : Hid (Row (w.alloc (.cells #[] 31)) ⟨g, 0, none⟩ L) := hideIt (HR.out.kept (gbAlloc _ _ _))
  have Hn := hideIt hn
  clear hn
  have qnil := sliceNil
  go_enter Tryz.func100, Tryz.ntmps100
  go_wp2_with (at_builtin; refine wpList_append_slots rfl (.tmp 5) (.tmp 6) rfl w.heap.size (.slice (some ⟨w.heap.size, 0, none⟩) 0 0) [] rfl HE.out (some ⟨g, 0, none⟩) n cap L rfl Hn.out (by simp) (by rintro ad ⟨⟩; exact HR1.out) (by simp; omega) (by simp) ?_; intro v1 w1 l1 g1 o1; have l1 : Hid (Lst w1 w.heap.size v1 L) := l1)
  go_ret
  exact ⟨_, rfl, l1.out, gbNew (gbTrans (gbAny (gbAlloc _ _ _) _) g1) (Nat.le_refl _)⟩
theorem clone_is {w : World} {B : Nat} {v : Value} {L : List (Int × Int)} (h : Lst w B v L) (hl : L.length ≤ 1000) :
    Calls Tryz.prog 100 #[v] w fun e w' => ∃ v', e = .returned v' ∧ Lst w' w.heap.size v' L ∧ w.grownBy w' none := by
  rcases h.form with ⟨rfl, rfl⟩ | ⟨g, cap, rfl, _, _, _, _, hr⟩
  · refine (clone_nil w).mono ?_
    rintro _ w1 ⟨rfl, g1⟩
    exact ⟨_, rfl, Lst.nil _ _, g1⟩
  · exact clone_row w g _ cap L rfl hl (hideIt hr)

set_option maxHeartbeats 400000 in
theorem children_no {w : World} {p b m : Nat} {K : Int × Int → Option Nat} {V : Int × Int → Value} {P : Vw} (h : Hid (TA w p b m K V P)) (n i : Int) (hn : I64 n) (hi : I64 i) (hq : Hid (K (n, i) = none)) :
    Calls Tryz.prog 55 #[.pointer (some ⟨p, 0, none⟩), sv n i] w fun e w' => e = .returned (.slice none 0 0) ∧ w.grownBy w' none := by
  go_enter Tryz.func55, Tryz.ntmps55
  go_upto_region 1 with fail
  obtain ⟨W, hW, X, g0⟩ := sboxNew w n i
  rw [hW]
  clear hW
  obtain ⟨c0, x0, x1, hl⟩ := Reads.mk' (h.out.kept g0) hn hi X hq.out
  refine wp_region_grown (by kernel_rfl) (by kernel_rfl) fun _ => ?_
  repeat (go_big_quiet_step (fail))
  refine wpQuiet_nil ?_
  rintro w1 ⟨⟨_, g1⟩, rfl⟩
  go_wp2
  go_ret
  exact ⟨rfl, gbTrans g0 g1⟩
set_option maxHeartbeats 400000 in
theorem children_yes {w : World} {p b m q : Nat} {K : Int × Int → Option Nat} {V : Int × Int → Value} {P : Vw} (h : Hid (TA w p b m K V P)) (n i : Int) (hn : I64 n) (hi : I64 i) (hq : Hid (K (n, i) = some q)) (v : Value)
    (h3 : w.cell? ⟨q, 3, none⟩ = some v) (L : List (Int × Int)) (HV : Hid (Lst w 0 v L)) (hl : Hid (L.length ≤ 1000)) :
    Calls Tryz.prog 55 #[.pointer (some ⟨p, 0, none⟩), sv n i] w fun e w' => ∃ v', e = .returned v' ∧ Lst w' w.heap.size v' L ∧ w.grownBy w' none := by
  go_enter Tryz.func55, Tryz.ntmps55
  go_upto_region 1 with fail
  obtain ⟨W, hW, X, g0⟩ := sboxNew w n i
  rw [hW]
  clear hW
  obtain ⟨c0, x0, x1, hk⟩ := Reads.mk' (h.out.kept g0) hn hi X hq.out
  refine wp_region_grown (by kernel_rfl) (by kernel_rfl) fun _ => ?_
  repeat (go_big_quiet_step (fail))
  refine wpQuiet_nil ?_
  rintro w1 ⟨⟨_, g1⟩, rfl⟩
  clear c0 x0 x1 hk
  have q3 := (gbTrans g0 g1).cell h3 (by simp)
  clear h3
  go_wp2_with fail
  refine (clone_is (HV.out.kept (gbTrans g0 g1)) hl.out).mono ?_
  rintro _ w2 ⟨v2, rfl, l2, g2⟩
  have l2 := hideIt l2
  have gg := gbTrans g0 g1
  go_wp2
  go_ret
  exact ⟨_, rfl, l2.out.from gg.size, gbTrans gg g2⟩

theorem children_is {w : World} {p : Nat} {O : Nat → Prop} {f : Fo} (h : TAt w p O f) (n i : Int) (hn : I64 n) (hi : I64 i) (L : List (Int × Int)) (hL : f.children (n, i) = L) (hl : L.length ≤ 1000) :
    Calls Tryz.prog 55 #[.pointer (some ⟨p, 0, none⟩), sv n i] w fun e w' => ∃ v', e = .returned v' ∧ Lst w' w.heap.size v' L ∧ w.grownBy w' none := by
  subst hL
  obtain ⟨b, K, V, h, _⟩ := h
  rcases h.keyed (n, i) with ⟨q, hq, hh, hm, hv⟩ | ⟨hq, hh⟩
  · exact children_yes (hideIt h) n i hn hi (hideIt hq) _ hm.c3 _ (hideIt hv) (hideIt hl)
  · rw [(Fo.hasnt hh).2.2.2.1]
    refine (children_no (hideIt h) n i hn hi (hideIt hq)).mono ?_
    rintro _ w1 ⟨rfl, g1⟩
    exact ⟨_, rfl, Lst.nil _ _, g1⟩

end T9
end Go.Proofs.YtdnoidnpiaadaaaGreat

/-
  WHAT FOLLOWS of the plain tree: parents and children answer one another; no slot is of its own kin; what becomes of kin where a slot goes or moves. Speaks of no function of the program.
-/
namespace Go.Proofs.YtdnoidnpiaadaaaGreat
set_option maxRecDepth 10000
namespace T9
set_option linter.unusedVariables false
namespace Fo

theorem sub_in {f : Fo} {x : Int × Int} {d : Fo} (h : f.sub x = some d) : x ∈ f.pre := sub_some.1 ⟨d, h⟩
theorem view_in {f : Fo} {p : Option (Int × Int)} {x : Int × Int} {y : Option (Int × Int) × List (Int × Int)} (h : f.view p x = some y) : x ∈ f.pre := Classical.byContradiction fun hc => by rw [view_none.2 hc] at h; cases h
theorem sub_len {f : Fo} {x : Int × Int} {d : Fo} (h : f.sub x = some d) : d.pre.length < f.pre.length := by
  induction f using Fo.ind with
  | nil => cases h
  | node bb oo a e r ihe ihr =>
    simp only [sub] at h
    simp only [pre, List.length_cons, List.length_append]
    split at h
    · cases h; omega
    · cases he : e.sub x with
      | some y => rw [he] at h; simp at h; subst h; have := ihe he; omega
      | none => rw [he] at h; simp at h; have := ihr h; omega
theorem sub_node {bb oo : Nat} {a : Int × Int} {d r : Fo} (hn : (node bb oo a d r).pre.Nodup) {x : Int × Int} : (x ∈ d.pre → (node bb oo a d r).sub x = d.sub x) ∧ (x ∈ r.pre → (node bb oo a d r).sub x = r.sub x) := by
  obtain ⟨h1, h2, h3, h4, h5⟩ := nodup_node.1 hn
  refine ⟨fun h => ?_, fun h => ?_⟩
  · simp only [sub]
    rw [if_neg (show ¬ a = x from fun e => h1 (e ▸ h))]
    obtain ⟨e, he⟩ := sub_some.2 h
    rw [he]; rfl
  · simp only [sub]
    rw [if_neg (show ¬ a = x from fun e => h2 (e ▸ h)), sub_none.2 (fun e => h5 _ e h)]
    rfl
/-- A part is found in the whole. -/
theorem sub_sub {f d : Fo} {x y : Int × Int} (hn : f.pre.Nodup) (h : f.sub x = some d) (hy : y ∈ d.pre) : f.sub y = d.sub y := by
  induction f using Fo.ind with
  | nil => cases h
  | node bb oo a e r ihe ihr =>
    obtain ⟨h1, h2, h3, h4, h5⟩ := nodup_node.1 hn
    have hs := @sub_node bb oo a e r hn y
    simp only [sub] at h
    split at h
    · cases h; exact hs.1 hy
    · cases he : e.sub x with
      | some z =>
        rw [he] at h; simp at h; subst h
        rw [hs.1 (sub_pre he hy)]; exact ihe h3 he
      | none =>
        rw [he] at h; simp at h
        rw [hs.2 (sub_pre h hy)]; exact ihr h4 h
theorem nodup_sub {f d : Fo} {x : Int × Int} (hn : f.pre.Nodup) (h : f.sub x = some d) : d.pre.Nodup ∧ x ∉ d.pre := by
  induction f using Fo.ind with
  | nil => cases h
  | node bb oo a e r ihe ihr =>
    obtain ⟨h1, h2, h3, h4, h5⟩ := nodup_node.1 hn
    simp only [sub] at h
    split at h
    · rename_i ea; cases h; subst ea; exact ⟨h3, h1⟩
    · cases he : e.sub x with
      | some z => rw [he] at h; simp at h; subst h; exact ihe h3 he
      | none => rw [he] at h; simp at h; exact ihr h4 h
theorem nodup_tops {f : Fo} (hn : f.pre.Nodup) : f.tops.Nodup := by
  induction f using Fo.ind with
  | nil => simp [tops]
  | node bb oo a e r ihe ihr =>
    obtain ⟨h1, h2, h3, h4, h5⟩ := nodup_node.1 hn
    simp only [tops, List.nodup_cons]
    exact ⟨fun h => h2 (tops_pre h), ihr h4⟩
/-- Two slots are not of one another's kin. -/
theorem kin_lt {f d e : Fo} {x y : Int × Int} (hn : f.pre.Nodup) (h : f.sub x = some d) (hy : y ∈ d.pre) (he : f.sub y = some e) : e.pre.length < d.pre.length := by
  rw [sub_sub hn h hy] at he
  exact sub_len he

theorem view_top_is {d : Fo} (hn : d.pre.Nodup) {p q : Option (Int × Int)} {x : Int × Int} {l : List (Int × Int)} (h : d.view p x = some (q, l)) : (x ∈ d.tops → q = p) ∧ (x ∉ d.tops → ∃ y, q = some y ∧ y ∈ d.pre) := by
  have h0 := view_top hn none p x
  rw [h] at h0
  cases hv : d.view none x with
  | none => rw [hv] at h0; cases h0
  | some y =>
    rw [hv] at h0
    simp only [Option.map_some, Option.some.injEq, Prod.mk.injEq] at h0
    refine ⟨fun hx => by rw [h0.1, if_pos hx], fun hx => ?_⟩
    rw [if_neg hx] at h0
    obtain ⟨y1, y2⟩ := y
    simp only at h0
    rcases view_par hv with e | e
    · -- y1 = none: then x would stand in the first row
      exfalso
      have h2 := view_top hn (some x) none x
      rw [hv] at h2
      cases hw : d.view (some x) x with
      | none => rw [hw] at h2; cases h2
      | some z =>
        rw [hw] at h2
        simp only [Option.map_some, Option.some.injEq, Prod.mk.injEq, if_neg hx] at h2
        obtain ⟨z1, z2⟩ := z
        simp only at h2
        rcases view_par hw with e2 | ⟨u, e2, _⟩
        · rw [← h2.1, e] at e2; cases e2
        · rw [← h2.1, e] at e2; cases e2
    · rw [h0.1]; exact e
theorem view_node {bb oo : Nat} {a : Int × Int} {d r : Fo} (hn : (node bb oo a d r).pre.Nodup) {p : Option (Int × Int)} {x : Int × Int} : (x ∈ d.pre → (node bb oo a d r).view p x = d.view (some a) x) ∧ (x ∈ r.pre → (node bb oo a d r).view p x = r.view p x) := by
  obtain ⟨h1, h2, h3, h4, h5⟩ := nodup_node.1 hn
  refine ⟨fun h => ?_, fun h => ?_⟩
  · simp only [view]
    rw [if_neg (show ¬ a = x from fun e => h1 (e ▸ h)), view_none.2 (h5 _ h), Option.or_none]
  · simp only [view]
    rw [if_neg (show ¬ a = x from fun e => h2 (e ▸ h)), view_none.2 (fun e => h5 _ e h)]
    rfl
/-- A slot is among the children of what it comes of. -/
theorem par_child {f : Fo} {p q : Option (Int × Int)} {s : Int × Int} {l : List (Int × Int)} (hn : f.pre.Nodup) (h : f.view p s = some (q, l)) : q = p ∨ ∃ x y, q = some x ∧ f.view p x = some y ∧ s ∈ y.2 := by
  induction f using Fo.ind generalizing p with
  | nil => cases h
  | node bb oo a d r ihd ihr =>
    obtain ⟨h1, h2, h3, h4, h5⟩ := nodup_node.1 hn
    simp only [view] at h
    split at h
    · simp only [Option.some.injEq, Prod.mk.injEq] at h
      exact .inl h.1.symm
    · cases hd : d.view (some a) s with
      | some y =>
        rw [hd] at h
        simp only [Option.some_or, Option.some.injEq] at h
        subst h
        rcases ihd h3 hd with e | ⟨x, y, e1, e2, e3⟩
        · refine .inr ⟨a, (p, d.tops), e, by simp [view], ?_⟩
          refine Classical.byContradiction fun hc => ?_
          obtain ⟨z, hz, hz2⟩ := (view_top_is h3 hd).2 hc
          rw [e] at hz
          cases hz
          exact h1 hz2
        · exact .inr ⟨x, y, e1, by rw [(@view_node bb oo a d r hn p x).1 (view_in e2)]; exact e2, e3⟩
      | none =>
        rw [hd] at h
        simp only [Option.none_or] at h
        rcases ihr h4 h with e | ⟨x, y, e1, e2, e3⟩
        · exact .inl e
        · exact .inr ⟨x, y, e1, by rw [(@view_node bb oo a d r hn p x).2 (view_in e2)]; exact e2, e3⟩
/-- Of two slots not each comes of the other. -/
theorem par_not {f : Fo} {s x : Int × Int} {q o : Option (Int × Int)} {l lx : List (Int × Int)} (hn : f.pre.Nodup) (hs : f.view none s = some (q, l)) (hx : f.view none x = some (o, lx)) (h : s ∈ lx) : x ∉ l ∧ s ∉ l := by
  obtain ⟨d, hd, rfl⟩ := view_some hs
  obtain ⟨e, he, rfl⟩ := view_some hx
  refine ⟨fun hc => ?_, fun hc => (nodup_sub hn hd).2 (tops_pre hc)⟩
  have h1 := kin_lt hn hd (tops_pre hc) he
  have h2 := kin_lt hn he (tops_pre h) hd
  omega
theorem self_not {f : Fo} {s : Int × Int} {q : Option (Int × Int)} {l : List (Int × Int)} (hn : f.pre.Nodup) (hs : f.view none s = some (q, l)) : s ∉ l := by
  obtain ⟨d, hd, rfl⟩ := view_some hs
  exact fun hc => (nodup_sub hn hd).2 (tops_pre hc)
theorem nodup_ch {f : Fo} {s : Int × Int} {q : Option (Int × Int)} {l : List (Int × Int)} (hn : f.pre.Nodup) (hs : f.view none s = some (q, l)) : l.Nodup ∧ ∀ c ∈ l, c ∈ f.pre := by
  obtain ⟨d, hd, rfl⟩ := view_some hs
  exact ⟨nodup_tops (nodup_sub hn hd).1, fun c hc => sub_pre hd (tops_pre hc)⟩

/-- Where a slot stands in a list without doubles. -/
theorem put_at {l k : List (Int × Int)} {s : Int × Int} (hn : l.Nodup) (h : s ∈ l) : ∃ j, l[j]? = some s ∧ (∀ i, i < j → l[i]? ≠ some s) ∧ put l s k = l.take j ++ (k ++ l.drop (j + 1)) := by
  induction l with
  | nil => cases h
  | cons a l ih =>
    rw [List.nodup_cons] at hn
    by_cases e : a = s
    · subst e
      refine ⟨0, rfl, fun i hi => by omega, ?_⟩
      have := put_out (k := k) hn.1
      unfold put at this ⊢
      simp [this]
    · obtain ⟨j, h1, h2, h3⟩ := ih hn.2 (by rcases List.mem_cons.1 h with h | h; exact absurd h.symm e; exact h)
      refine ⟨j + 1, by simpa using h1, fun i hi => ?_, ?_⟩
      · cases i with
        | zero => simp; exact e
        | succ i => simpa using h2 i (by omega)
      · have h4 : put (a :: l) s k = a :: put l s k := by unfold put; simp [e]
        rw [h4, h3]
        simp
theorem len_drop {f : Fo} {s : Int × Int} (hn : f.pre.Nodup) (h : s ∈ f.pre) : (drop s f).pre.length + 1 = f.pre.length := by
  rw [pre_drop hn]
  have hg : ∀ l : List (Int × Int), l.Nodup → s ∈ l → (l.filter (· != s)).length + 1 = l.length := by
    intro l
    induction l with
    | nil => intro _ h; cases h
    | cons a l ih =>
      intro hn h
      rw [List.nodup_cons] at hn
      by_cases e : a = s
      · subst e
        have : l.filter (· != a) = l := List.filter_eq_self.2 (fun x hx => by simp; exact fun e => hn.1 (e ▸ hx))
        simp [this]
      · have := ih hn.2 (by rcases List.mem_cons.1 h with h | h; exact absurd h.symm e; exact h)
        simp [e, this]
  exact hg _ hn h
theorem len_mv (a b : Int × Int) (f : Fo) : (mv a b f).pre.length = f.pre.length := by rw [pre_mv, List.length_map]

end Fo
end T9
end Go.Proofs.YtdnoidnpiaadaaaGreat

/-
  THE PLAIN TREE AS A ROW of slots with their depths, each ahead of its kin (the document's own): what stands ahead of a slot, its kin, and what stands behind; what becomes of the row. Speaks of no function.
-/
namespace Go.Proofs.YtdnoidnpiaadaaaGreat
set_option maxRecDepth 10000
namespace T9
set_option linter.unusedVariables false
namespace Fo
def flat : Fo → Nat → List ((Int × Int) × Nat)
  | Deep.BT.nil, _ => []
  | Deep.BT.node bb oo a d r, k => (a, k) :: (flat d (k + 1) ++ flat r k)
theorem flat_fst (f : Fo) (k : Nat) : (flat f k).map Prod.fst = f.pre := by
  induction f using Fo.ind generalizing k with
  | nil => rfl
  | node bb oo a d r ihd ihr => simp [flat, pre, ihd, ihr]
theorem flat_len (f : Fo) (k : Nat) : (flat f k).length = f.pre.length := by rw [← flat_fst f k, List.length_map]
theorem flat_app (f g : Fo) (k : Nat) : flat (app f g) k = flat f k ++ flat g k := by
  induction f using Fo.ind generalizing k with
  | nil => rfl
  | node bb oo a d r _ ih => simp [app, flat, ih]
theorem flat_ge (f : Fo) (k : Nat) : ∀ x ∈ flat f k, k ≤ x.2 := by
  induction f using Fo.ind generalizing k with
  | nil => intro x hx; cases hx
  | node bb oo a d r ihd ihr =>
    intro x hx
    simp only [flat, List.mem_cons, List.mem_append] at hx
    rcases hx with rfl | hx | hx
    · exact Nat.le_refl _
    · have := ihd (k + 1) x hx; omega
    · exact ihr k x hx
theorem flat_lt (f : Fo) (k : Nat) : ∀ x ∈ flat f k, x.2 < k + f.pre.length := by
  induction f using Fo.ind generalizing k with
  | nil => intro x hx; cases hx
  | node bb oo a d r ihd ihr =>
    intro x hx
    simp only [flat, List.mem_cons, List.mem_append] at hx
    simp only [pre, List.length_cons, List.length_append]
    rcases hx with rfl | hx | hx
    · simp only; omega
    · have := ihd (k + 1) x hx; omega
    · have := ihr k x hx; omega
theorem flat_head (f : Fo) (k : Nat) (x : (Int × Int) × Nat) (h : (flat f k).head? = some x) : x.2 = k := by
  cases f using Fo.cs with
  | nil => cases h
  | node bb oo a d r => simp [flat] at h; rw [← h]
/-- One level up. -/
theorem flat_up (f : Fo) (k : Nat) : flat f k = (flat f (k + 1)).map fun x => (x.1, x.2 - 1) := by
  induction f using Fo.ind generalizing k with
  | nil => rfl
  | node bb oo a d r ihd ihr =>
    simp only [flat, List.map_cons, List.map_append]
    rw [← ihd (k + 1), ← ihr k]
    simp
/-- The first row, by depths. -/
theorem flat_tops (f : Fo) (k : Nat) : ((flat f k).filter fun x => x.2 == k).map Prod.fst = f.tops := by
  induction f using Fo.ind generalizing k with
  | nil => rfl
  | node bb oo a d r ihd ihr =>
    simp only [flat, tops]
    have h1 : (flat d (k + 1)).filter (fun x => x.2 == k) = [] := List.filter_eq_nil_iff.2 (fun x hx => by have := flat_ge d (k + 1) x hx; simp; omega)
    rw [List.filter_cons, List.filter_append, h1]
    simp [ihr]
/-- The last one ahead that is less deep. -/
def up : List ((Int × Int) × Nat) → Nat → Option (Int × Int)
  | [], _ => none
  | x :: l, j => match up l j with
    | some y => some y
    | none => if x.2 < j then some x.1 else none
theorem up_app (l m : List ((Int × Int) × Nat)) (j : Nat) : up (l ++ m) j = (up m j).or (up l j) := by
  induction l with
  | nil => simp [up]
  | cons x l ih =>
    simp only [List.cons_append, up, ih]
    cases up m j <;> rfl
theorem up_none {l : List ((Int × Int) × Nat)} {j : Nat} (h : ∀ x ∈ l, j ≤ x.2) : up l j = none := by
  induction l with
  | nil => rfl
  | cons x l ih =>
    simp only [up, ih (fun y hy => h y (by simp [hy]))]
    rw [if_neg (by have := h x (by simp); omega)]
theorem up_none' {l : List ((Int × Int) × Nat)} {j : Nat} (h : up l j = none) : ∀ x ∈ l, j ≤ x.2 := by
  induction l with
  | nil => intro x hx; cases hx
  | cons y l ih =>
    simp only [up] at h
    cases hl : up l j with
    | some z => rw [hl] at h; cases h
    | none =>
      rw [hl] at h
      simp only at h
      intro x hx
      rcases List.mem_cons.1 hx with rfl | hx
      · by_cases e : x.2 < j
        · rw [if_pos e] at h; cases h
        · omega
      · exact ih hl x hx

/-- A slot's place in the row. -/
structure At (f : Fo) (k : Nat) (s : Int × Int) (d : Fo) (A C : List ((Int × Int) × Nat)) (j : Nat) : Prop where
  eq : flat f k = A ++ ((s, j) :: (flat d (j + 1) ++ C))
  out : ∀ x ∈ A, x.1 ≠ s
  hd : ∀ x, C.head? = some x → x.2 ≤ j
  ge : k ≤ j
  lo : (∀ x ∈ A, j ≤ x.2) → j = k
  add : ∀ s', flat (add s s' f) k = A ++ ((s, j) :: (flat d (j + 1) ++ ((s', j + 1) :: C)))
  drop : flat (drop s f) k = A ++ (flat d j ++ C)
  mv : ∀ t, flat (mv s t f) k = A ++ ((t, j) :: (flat d (j + 1) ++ C))
  par : ∀ p q l, f.view p s = some (q, l) → q = (up A j).or p
theorem at_of {f d : Fo} {s : Int × Int} (hn : f.pre.Nodup) (h : f.sub s = some d) (k : Nat) : ∃ A C j, At f k s d A C j := by
  induction f using Fo.ind generalizing k with
  | nil => cases h
  | node bb oo a e r ihe ihr =>
    obtain ⟨h1, h2, h3, h4, h5⟩ := nodup_node.1 hn
    simp only [sub] at h
    by_cases ea : a = s
    · rw [if_pos ea] at h
      cases h
      subst ea
      refine ⟨[], flat r k, k, ⟨rfl, by simp, fun x hx => Nat.le_of_eq (flat_head r k x hx), Nat.le_refl _, fun _ => rfl, fun s' => ?_, ?_, fun t => ?_, fun p q l hv => ?_⟩⟩
      · simp [add, flat, flat_app, one]
      · simp [Fo.drop, flat_app]
      · simp [Fo.mv, flat, mv_out h1, mv_out h2]
      · simp only [view, if_true, Option.some.injEq, Prod.mk.injEq] at hv
        simp [up, hv.1]
    · rw [if_neg ea] at h
      cases he : e.sub s with
      | some z =>
        rw [he] at h
        simp only [Option.some_or, Option.some.injEq] at h
        subst h
        have hse := sub_in he
        have hsr := h5 _ hse
        obtain ⟨A, C, j, H⟩ := ihe h3 he (k + 1)
        refine ⟨(a, k) :: A, C ++ flat r k, j, ⟨?_, ?_, ?_, by have := H.ge; omega, ?_, fun s' => ?_, ?_, fun t => ?_, fun p q l hv => ?_⟩⟩
        · simp [flat, H.eq]
        · intro x hx
          rcases List.mem_cons.1 hx with rfl | hx
          · exact ea
          · exact H.out x hx
        · intro x hx
          cases C with
          | nil =>
            simp only [List.nil_append] at hx
            have := flat_head r k x hx
            have := H.ge
            omega
          | cons y C => exact H.hd x (by simpa using hx)
        · intro hA
          have h6 : j ≤ k := hA (a, k) (by simp)
          have h7 := H.ge
          omega
        · simp [add, ea, flat, H.add s', add_out hsr]
        · simp [Fo.drop, ea, flat, H.drop, drop_out hsr]
        · simp [Fo.mv, ea, flat, H.mv t, mv_out hsr]
        · simp only [view, if_neg ea] at hv
          cases hw : e.view (some a) s with
          | none => exact absurd hse (view_none.1 hw)
          | some y =>
            rw [hw] at hv
            simp only [Option.some_or, Option.some.injEq] at hv
            subst hv
            have hq := H.par (some a) q l hw
            rw [hq]
            simp only [up]
            cases hu : up A j with
            | some y => rfl
            | none => rw [if_pos (by have := H.ge; omega)]; rfl
      | none =>
        rw [he] at h
        simp only [Option.none_or] at h
        have hse := sub_none.1 he
        obtain ⟨A, C, j, H⟩ := ihr h4 h k
        refine ⟨(a, k) :: (flat e (k + 1) ++ A), C, j, ⟨?_, ?_, H.hd, H.ge, ?_, fun s' => ?_, ?_, fun t => ?_, fun p q l hv => ?_⟩⟩
        · simp [flat, H.eq]
        · intro x hx
          rcases List.mem_cons.1 hx with rfl | hx
          · exact ea
          · rcases List.mem_append.1 hx with hx | hx
            · intro e2
              refine hse ?_
              rw [← flat_fst e (k + 1), ← e2]
              exact List.mem_map_of_mem hx
            · exact H.out x hx
        · intro hA
          have h6 : j ≤ k := hA (a, k) (by simp)
          have h7 := H.ge
          omega
        · simp [add, ea, flat, H.add s', add_out hse]
        · simp [Fo.drop, ea, flat, H.drop, drop_out hse]
        · simp [Fo.mv, ea, flat, H.mv t, mv_out hse]
        · simp only [view, if_neg ea, view_none.2 hse, Option.none_or] at hv
          rw [H.par p q l hv]
          simp only [up, up_app]
          cases hu : up A j with
          | some y => rfl
          | none =>
            have hj := H.lo (up_none' hu)
            subst hj
            have : up (flat e (j + 1)) j = none := up_none (fun x hx => by have := flat_ge e (j + 1) x hx; omega)
            simp [this]
end Fo
end T9
end Go.Proofs.YtdnoidnpiaadaaaGreat
