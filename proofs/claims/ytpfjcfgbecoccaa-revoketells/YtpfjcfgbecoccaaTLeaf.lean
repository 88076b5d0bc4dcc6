/-
  THE CONTRACTS of package tree: New, Has, Len, Parent, Children (with slices.Clone).
-/
import Derived.Test.YtpfjcfgbecoccaaTMem
import Derived.RegionTactic
import Derived.Lib.SliceRun
namespace Go.Proofs.Ytpfjcfgbecoccaa
set_option maxRecDepth 10000
namespace T9
open Go.RowKit
set_option linter.unusedVariables false

set_option maxHeartbeats 400000 in
theorem new_is (w : World) : Calls Try.prog 37 #[] w fun e w' => ∃ p, e = .returned (.pointer (some ⟨p, 0, none⟩)) ∧ TAt w' p (fun i => w.heap.size ≤ i ∧ i < w'.heap.size) .nil ∧ w.grownBy w' none := by
  have hmm := @run_makeMap Try.prog
  go_enter Try.func37, Try.ntmps37
  go_wp2
  go_ret
  refine ⟨w.heap.size + 1, rfl, ⟨w.heap.size, fun _ => none, fun _ => .slice none 0 0, ⟨?_, ?_, fun _ _ => rfl, fun s y h => (nomatch h), fun _ _ _ h _ => (nomatch h), fun _ _ _ h _ => absurd rfl h⟩, ⟨by omega, by simp⟩, ⟨by omega, by simp; omega⟩, fun _ _ h => (nomatch h), fun _ _ _ h => (nomatch h)⟩, ?_⟩
  · have e := Deep.blk_alloc_new (w.alloc (.map #[] 0)) (.cells #[.map (some w.heap.size)] 100)
    rw [Deep.nblk_alloc] at e; exact e
  · exact (KMap.made w).fr (O := fun _ => False) (Fr.grown (gbAlloc _ _ _)) (fun e => e)
  · exact gbTrans (gbAlloc _ _ _) (gbAlloc _ _ _)

theorem _root_.Go.Proofs.Ytpfjcfgbecoccaa.Lst.from {w : World} {B B' : Nat} {v : Value} {L : List (Int × Int)} (h : Lst w B v L) (hB : B' ≤ B) : Lst w B' v L := by
  obtain ⟨h1, h2⟩ := h
  refine ⟨h1, ?_⟩
  rcases h2 with h2 | ⟨g, cap, cur, rfl, hb, hg, h3⟩
  · exact .inl h2
  · exact .inr ⟨g, cap, cur, rfl, Nat.le_trans hB hb, hg, h3⟩

/-- What a region reads that looks a slot up, in every world that it grows into. -/
structure Reads (W : World) (p b x : Nat) (n i : Int) (v : Value) : Prop where
  c0 : ∀ y : Gr W, y.w.cell? ⟨p, 0, none⟩ = some (.map (some b))
  x0 : ∀ y : Gr W, y.w.cell? ⟨x, 0, none⟩ = some (.int .i64 n)
  x1 : ∀ y : Gr W, y.w.cell? ⟨x, 1, none⟩ = some (.int .i64 i)
  hl : ∀ y : Gr W, (Instr.lookup 98 (.map (some b)) (sv n i) false).run Try.prog y.w = .ok v y.w
theorem Reads.mk' {W : World} {p b m x : Nat} {K : Int × Int → Option Nat} {V : Int × Int → Value} {P : Vw} {n i : Int} {r : Option Nat} (h : TA W p b m K V P) (hn : I64 n) (hi : I64 i) (X : SBox W x n i) (hr : K (n, i) = r) : Reads W p b x n i (ptr r) :=
  ⟨fun y => y.g.cell h.cell (by simp), fun y => (X.kept y.g).at0, fun y => (X.kept y.g).at1, fun y => by rw [← hr]; exact (h.kept y.g).map.look n i hn hi⟩

set_option maxHeartbeats 400000 in
theorem has_yes {w : World} {p b m q : Nat} {K : Int × Int → Option Nat} {V : Int × Int → Value} {P : Vw} (h : Hid (TA w p b m K V P)) (n i : Int) (hn : I64 n) (hi : I64 i) (hq : Hid (K (n, i) = some q)) :
    Calls Try.prog 52 #[.pointer (some ⟨p, 0, none⟩), sv n i] w fun e w' => e = .returned (.bool true) ∧ w.grownBy w' none := by
  go_enter Try.func52, Try.ntmps52
  go_upto_region 1 with fail
  obtain ⟨W, hW, X, g0⟩ := sboxNew w n i
  rw [hW]
  clear hW
  obtain ⟨c0, x0, x1, hl⟩ := Reads.mk' (h.out.kept g0) hn hi X hq.out
  refine wp_region_grown (by kernel_rfl) (by kernel_rfl) fun _ => ?_
  repeat (go_big_quiet_step (fail))
  refine wpQuiet_nil ?_
  rintro w1 ⟨⟨_, g1⟩, rfl⟩
  go_wp2
  go_ret
  exact ⟨rfl, gbTrans g0 g1⟩
set_option maxHeartbeats 400000 in
theorem has_no {w : World} {p b m : Nat} {K : Int × Int → Option Nat} {V : Int × Int → Value} {P : Vw} (h : Hid (TA w p b m K V P)) (n i : Int) (hn : I64 n) (hi : I64 i) (hq : Hid (K (n, i) = none)) :
    Calls Try.prog 52 #[.pointer (some ⟨p, 0, none⟩), sv n i] w fun e w' => e = .returned (.bool false) ∧ w.grownBy w' none := by
  go_enter Try.func52, Try.ntmps52
  go_upto_region 1 with fail
  obtain ⟨W, hW, X, g0⟩ := sboxNew w n i
  rw [hW]
  clear hW
  obtain ⟨c0, x0, x1, hl⟩ := Reads.mk' (h.out.kept g0) hn hi X hq.out
  refine wp_region_grown (by kernel_rfl) (by kernel_rfl) fun _ => ?_
  repeat (go_big_quiet_step (fail))
  refine wpQuiet_nil ?_
  rintro w1 ⟨⟨_, g1⟩, rfl⟩
  go_wp2
  go_ret
  exact ⟨rfl, gbTrans g0 g1⟩

theorem TA.keyed {w : World} {p b m : Nat} {K : Int × Int → Option Nat} {V : Int × Int → Value} {f : Fo} (h : TA w p b m K V (f.view none)) (s : Int × Int) : (∃ q, K s = some q ∧ f.has s = true ∧ MemAt w q (f.parent s) (V s) ∧ Lst w 0 (V s) (f.children s)) ∨ (K s = none ∧ f.has s = false) := by
  cases hs : f.has s with
  | false => exact .inr ⟨h.gone s (Fo.hasnt hs).1, rfl⟩
  | true => obtain ⟨q, h1, h2, h3⟩ := h.mem s _ (Fo.has_view hs); exact .inl ⟨q, h1, rfl, h2, h3⟩

theorem has_is {w : World} {p : Nat} {O : Nat → Prop} {f : Fo} (h : TAt w p O f) (n i : Int) (hn : I64 n) (hi : I64 i) (v : Bool) (hv : f.has (n, i) = v) :
    Calls Try.prog 52 #[.pointer (some ⟨p, 0, none⟩), sv n i] w fun e w' => e = .returned (.bool v) ∧ w.grownBy w' none := by
  obtain ⟨b, K, V, h, _⟩ := h
  rcases h.keyed (n, i) with ⟨q, hq, hh, _⟩ | ⟨hq, hh⟩
  · rw [hh] at hv; subst hv; exact has_yes (hideIt h) n i hn hi (hideIt hq)
  · rw [hh] at hv; subst hv; exact has_no (hideIt h) n i hn hi (hideIt hq)

/-- Two slots' names, laid. -/
theorem twoNew (w : World) (n i a c : Int) : ∃ W, (w.alloc (.cells #[.int .i64 n, .int .i64 i] 24)).alloc (.cells #[.int .i64 a, .int .i64 c] 24) = W ∧
    SBox W w.heap.size n i ∧ SBox W (w.heap.size + 1) a c ∧ (∀ j, W.frozen? ⟨w.heap.size + 1, j, none⟩ = false) ∧ w.grownBy W none :=
  ⟨_, rfl, (SBox.made w n i).kept (gbAlloc _ _ _), by simpa using SBox.made (w.alloc (.cells #[.int .i64 n, .int .i64 i] 24)) a c, fun j => by simp, gbTrans (gbAlloc _ _ _) (gbAlloc _ _ _)⟩

theorem run_append_slots (w : World) (B : Nat) (v : Value) (l : List (Int × Int)) (hown : Lst w B v l) (ty : TypeId) (ox : Option Addr) (m c : Nat) (k : List (Int × Int)) (hm : k.length = m) (hno : ox = none → m = 0) (hx : ∀ ad, ox = some ad → Row w ad k) (hn : l.length + m ≤ 1000000) (hB : B ≤ w.heap.size) :
    ∃ v' w', (Builtin.append_ #[29, 29] ty #[v, .slice ox m c]).run Try.prog w = .ok v' w' ∧ Lst w' B v' (l ++ k) ∧ w.grownBy w' v.ownBlock ∧ (v'.ownBlock = v.ownBlock ∨ v'.ownBlock = some w.heap.size) := by
  obtain ⟨i, hi, hx0⟩ := Option.map_eq_some_iff.1 Try.infoSlot
  simp only [Prod.mk.injEq] at hx0
  obtain ⟨hz0, hz1, hz2⟩ := hx0
  cases ox with
  | some ad =>
    obtain ⟨v', w', h1, h2, h3, _, h5⟩ := run_append_own_at (P := Try.prog) w B 29 ty 24 i (.agg #[.int .i64 0, .int .i64 0]) 2 16 Try.underlying29 hi hz0 hz1 hz2 (by kernel_rfl) (by decide) v l.length (cellsL l) hown ad m c (cellsL k) (by rw [cellsL_len, hm]) (hx ad rfl).cells (cellsL_one k) (by unfold maxLen; omega) (by omega) hB
    refine ⟨v', w', h1, ?_, h3, h5⟩
    unfold Lst
    rw [← cellsL_app, List.length_append, hm]
    exact h2
  | none =>
    obtain rfl : m = 0 := hno rfl
    obtain rfl : k = [] := List.eq_nil_of_length_eq_zero hm
    refine ⟨v, w, ?_, by rw [List.append_nil]; exact hown, gbRefl _ _, .inl rfl⟩
    rcases hown.2 with ⟨rfl, _⟩ | ⟨g, cap, cur, rfl, _, _, hnc, _⟩
    · simp [Builtin.append_, run_underlying Try.underlying29, sizeOf, typeInfo, hi, Builtin.lenOf, Builtin.firstCells]
    · have : l.length + 0 ≤ cap := by omega
      simp [Builtin.append_, run_underlying Try.underlying29, sizeOf, typeInfo, hi, Builtin.lenOf, Builtin.firstCells, storeCells, hnc]
theorem wpList_append_slots {w : World} {ops : Array Oper} {rest : List Oper} {o : Oper} {a : Act} {Q : Exit → Act → World → Prop} (hgd : o.guard = none) (s x : Operand)
    (ho : o.op = .call { callee := .builtin .append, args := #[s, x], argTypes := #[29, 29] })
    (B : Nat) (v : Value) (l : List (Int × Int)) (hs : a.eval s = v) (hown : Lst w B v l) (ox : Option Addr) (m c : Nat) (k : List (Int × Int)) (hx : a.eval x = .slice ox m c) (hm : k.length = m) (hno : ox = none → m = 0) (hxc : ∀ ad, ox = some ad → Row w ad k)
    (hn : l.length + m ≤ 1000000) (hB : B ≤ w.heap.size)
    (h : ∀ v' w', Lst w' B v' (l ++ k) → w.grownBy w' v.ownBlock → (v'.ownBlock = v.ownBlock ∨ v'.ownBlock = some w.heap.size) → wpList Try.prog ops Q rest (a.put o.dst v') w') : wpList Try.prog ops Q (o :: rest) a w := by
  refine wpList_plain hgd fun K' hK' => ?_
  obtain ⟨v', w', hr, h1, h2, h3⟩ := run_append_slots w B v l hown o.type ox m c k hm hno hxc hn hB
  unfold Oper.wp execOp
  simp only [ho, resolve, invoke, builtin, Sem.run_bind, Sem.run_pure, Result.andThen_ok, List.map_toArray, List.map_cons, List.map_nil, hs, hx, hr]
  exact hK' _ _ (h v' w' h1 h2 h3)

theorem sliceNil (w : World) (a : Option Addr) (n c : Nat) : (binOp .eql 29 (.slice a n c) (.slice none 0 0)).run Try.prog w = .ok (.bool a.isNone) w := Lib.run_eql_slice_nil w 29 24 a n c 0 0 Try.underlying29
theorem _root_.Go.Proofs.Ytpfjcfgbecoccaa.Lst.empty (w : World) : Lst (w.alloc (.cells #[] 24)) w.heap.size (.slice (some ⟨w.heap.size, 0, none⟩) 0 0) [] :=
  w.ownsRow_made (base := w.heap.size) (e := 24) (size := 2) #[] 0 (Nat.le_refl _) (by decide) (by simp)

set_option maxHeartbeats 400000 in
theorem clone_nil (w : World) : Calls Try.prog 64 #[.slice none 0 0] w fun e w' => e = .returned (.slice none 0 0) ∧ w.grownBy w' none := by
  have qnil := sliceNil
  go_enter Try.func64, Try.ntmps64
  go_wp2
  go_ret
  exact ⟨rfl, gbRefl _ _⟩
set_option maxHeartbeats 400000 in
theorem clone_row (w : World) (g n cap : Nat) (L : List (Int × Int)) (hn : L.length = n) (hn2 : n ≤ 1000) (HR : Hid (Row w ⟨g, 0, none⟩ L)) :
    Calls Try.prog 64 #[.slice (some ⟨g, 0, none⟩) n cap] w fun e w' => ∃ v, e = .returned v ∧ Lst w' w.heap.size v L ∧ w.grownBy w' none := by
  have HE := hideIt (Lst.empty w)
  have HR1 : Hid (Row (w.alloc (.cells #[] 24)) ⟨g, 0, none⟩ L) := hideIt (HR.out.kept (gbAlloc _ _ _))
  have Hn := hideIt hn
  clear hn
  have qnil := sliceNil
  go_enter Try.func64, Try.ntmps64
  go_wp2_with (at_builtin; refine wpList_append_slots rfl (.tmp 5) (.tmp 6) rfl w.heap.size (.slice (some ⟨w.heap.size, 0, none⟩) 0 0) [] rfl HE.out (some ⟨g, 0, none⟩) n cap L rfl Hn.out (by simp) (by rintro ad ⟨⟩; exact HR1.out) (by simp; omega) (by simp) ?_; intro v1 w1 l1 g1 o1; have l1 : Hid (Lst w1 w.heap.size v1 L) := l1)
  go_ret
  exact ⟨_, rfl, l1.out, gbNew (gbTrans (gbAny (gbAlloc _ _ _) _) g1) (Nat.le_refl _)⟩
theorem clone_is {w : World} {B : Nat} {v : Value} {L : List (Int × Int)} (h : Lst w B v L) (hl : L.length ≤ 1000) :
    Calls Try.prog 64 #[v] w fun e w' => ∃ v', e = .returned v' ∧ Lst w' w.heap.size v' L ∧ w.grownBy w' none := by
  rcases h.form with ⟨rfl, rfl⟩ | ⟨g, cap, rfl, _, _, _, _, hr⟩
  · refine (clone_nil w).mono ?_
    rintro _ w1 ⟨rfl, g1⟩
    exact ⟨_, rfl, Lst.nil _ _, g1⟩
  · exact clone_row w g _ cap L rfl hl (hideIt hr)

set_option maxHeartbeats 400000 in
theorem children_no {w : World} {p b m : Nat} {K : Int × Int → Option Nat} {V : Int × Int → Value} {P : Vw} (h : Hid (TA w p b m K V P)) (n i : Int) (hn : I64 n) (hi : I64 i) (hq : Hid (K (n, i) = none)) :
    Calls Try.prog 49 #[.pointer (some ⟨p, 0, none⟩), sv n i] w fun e w' => e = .returned (.slice none 0 0) ∧ w.grownBy w' none := by
  go_enter Try.func49, Try.ntmps49
  go_upto_region 1 with fail
  obtain ⟨W, hW, X, g0⟩ := sboxNew w n i
  rw [hW]
  clear hW
  obtain ⟨c0, x0, x1, hl⟩ := Reads.mk' (h.out.kept g0) hn hi X hq.out
  refine wp_region_grown (by kernel_rfl) (by kernel_rfl) fun _ => ?_
  repeat (go_big_quiet_step (fail))
  refine wpQuiet_nil ?_
  rintro w1 ⟨⟨_, g1⟩, rfl⟩
  go_wp2
  go_ret
  exact ⟨rfl, gbTrans g0 g1⟩
set_option maxHeartbeats 400000 in
theorem children_yes {w : World} {p b m q : Nat} {K : Int × Int → Option Nat} {V : Int × Int → Value} {P : Vw} (h : Hid (TA w p b m K V P)) (n i : Int) (hn : I64 n) (hi : I64 i) (hq : Hid (K (n, i) = some q)) (v : Value)
    (h3 : w.cell? ⟨q, 3, none⟩ = some v) (L : List (Int × Int)) (HV : Hid (Lst w 0 v L)) (hl : Hid (L.length ≤ 1000)) :
    Calls Try.prog 49 #[.pointer (some ⟨p, 0, none⟩), sv n i] w fun e w' => ∃ v', e = .returned v' ∧ Lst w' w.heap.size v' L ∧ w.grownBy w' none := by
  go_enter Try.func49, Try.ntmps49
  go_upto_region 1 with fail
  obtain ⟨W, hW, X, g0⟩ := sboxNew w n i
  rw [hW]
  clear hW
  obtain ⟨c0, x0, x1, hk⟩ := Reads.mk' (h.out.kept g0) hn hi X hq.out
  refine wp_region_grown (by kernel_rfl) (by kernel_rfl) fun _ => ?_
  repeat (go_big_quiet_step (fail))
  refine wpQuiet_nil ?_
  rintro w1 ⟨⟨_, g1⟩, rfl⟩
  clear c0 x0 x1 hk
  have q3 := (gbTrans g0 g1).cell h3 (by simp)
  clear h3
  go_wp2_with fail
  refine (clone_is (HV.out.kept (gbTrans g0 g1)) hl.out).mono ?_
  rintro _ w2 ⟨v2, rfl, l2, g2⟩
  have l2 := hideIt l2
  have gg := gbTrans g0 g1
  go_wp2
  go_ret
  exact ⟨_, rfl, l2.out.from gg.size, gbTrans gg g2⟩

theorem children_is {w : World} {p : Nat} {O : Nat → Prop} {f : Fo} (h : TAt w p O f) (n i : Int) (hn : I64 n) (hi : I64 i) (L : List (Int × Int)) (hL : f.children (n, i) = L) (hl : L.length ≤ 1000) :
    Calls Try.prog 49 #[.pointer (some ⟨p, 0, none⟩), sv n i] w fun e w' => ∃ v', e = .returned v' ∧ Lst w' w.heap.size v' L ∧ w.grownBy w' none := by
  subst hL
  obtain ⟨b, K, V, h, _⟩ := h
  rcases h.keyed (n, i) with ⟨q, hq, hh, hm, hv⟩ | ⟨hq, hh⟩
  · exact children_yes (hideIt h) n i hn hi (hideIt hq) _ hm.c3 _ (hideIt hv) (hideIt hl)
  · rw [(Fo.hasnt hh).2.2.2.1]
    refine (children_no (hideIt h) n i hn hi (hideIt hq)).mono ?_
    rintro _ w1 ⟨rfl, g1⟩
    exact ⟨_, rfl, Lst.nil _ _, g1⟩

end T9
end Go.Proofs.Ytpfjcfgbecoccaa
