/-
  THE CONTRACTS of package tree: Root, Child.
-/
import Derived.Test.YtkpcdfiebjigbaaTRep
namespace Go.Proofs.Ytkpcdfiebjigbaa
set_option maxRecDepth 10000
namespace T9
open Go.RowKit
set_option linter.unusedVariables false

abbrev gHas (w : World) (p : Nat) (n i : Int) (v : Bool) : Prop := ∀ W, w.grownBy W none → Calls Try.prog 49 #[.pointer (some ⟨p, 0, none⟩), sv n i] W fun e w' => e = .returned (.bool v) ∧ W.grownBy w' none

set_option maxHeartbeats 400000 in
theorem root_twice (w : World) (p : Nat) (n i : Int) (HH : gHas w p n i true) :
    Calls Try.prog 31 #[.pointer (some ⟨p, 0, none⟩), sv n i] w fun e w' => e = .returned (.int .i64 4) ∧ w.grownBy w' none := by
  go_enter Try.func31, Try.ntmps31
  go_upto_region 1 with fail
  obtain ⟨W, hW, X, g0⟩ := sboxNew w n i
  rw [hW]
  clear hW
  have x0 := X.at0
  have x1 := X.at1
  go_wp2_with fail
  refine (HH _ g0).mono ?_
  rintro _ w1 ⟨rfl, g1⟩
  go_wp2
  go_ret
  exact ⟨rfl, gbTrans g0 g1⟩

set_option maxHeartbeats 400000 in
theorem root_new {w : World} {p b m : Nat} {K : Int × Int → Option Nat} {V : Int × Int → Value} {P : Vw} (h : Hid (TA w p b m K V P)) (n i : Int) (hn : I64 n) (hi : I64 i) (hm : m ≤ 1000) (hk : Hid (K (n, i) = none)) (hp : Hid (P (n, i) = none)) (HH : gHas w p n i false) :
    Calls Try.prog 31 #[.pointer (some ⟨p, 0, none⟩), sv n i] w fun e w' => e = .returned (.int .i64 0) ∧ ∃ q, w.heap.size ≤ q ∧ q < w'.heap.size ∧
      TA w' p b (m + 1) (fun j => if j = (n, i) then some q else K j) (fun t => if t = (n, i) then .slice none 0 0 else V t) (fun t => if t = (n, i) then some (none, []) else P t) ∧ Fr (fun i => i = b) w w' := by
  go_enter Try.func31, Try.ntmps31
  go_upto_region 1 with fail
  obtain ⟨W, hW, X, g0⟩ := sboxNew w n i
  rw [hW]
  clear hW
  have x0 := X.at0
  have x1 := X.at1
  go_wp2_with fail
  refine (HH _ g0).mono ?_
  rintro _ w1 ⟨rfl, g1⟩
  have y0 := (X.kept g1).at0
  have y1 := (X.kept g1).at1
  have gg := gbTrans g0 g1
  have c0 := gg.cell h.out.cell (by simp)
  have gm : w.grownBy (w1.alloc (.cells #[.int .i64 0, .int .i64 0, .bool false, .slice none 0 0] 86)).drew none := gbDrew (gbAllocN gg _)
  have hx1 : w.heap.size < w1.heap.size := (X.kept g1).lt
  have hp1 : p < w1.heap.size := Nat.lt_of_lt_of_le h.out.plt gg.size
  have hx2 : ¬ w1.heap.size = w.heap.size := by omega
  have hx3 : ¬ w.heap.size = w1.heap.size := by omega
  have hp2 : ¬ w1.heap.size = p := by omega
  have hp3 : ¬ p = w1.heap.size := by omega
  obtain ⟨w2, hr2, k2, g2⟩ := (h.out.kept gm).map.put n i w1.heap.size hn hi hm hk.out
  obtain ⟨A, F⟩ := h.out.put hp.out (o := none) gm (MemAt.new w1 none _) gg.size g2 k2
  have HA := hideIt A
  have HF := hideIt F
  have hsz : w1.heap.size < w2.heap.size := Nat.lt_of_lt_of_le (by simp) g2.size
  clear x0 x1 A F k2
  go_wp2
  go_region
  go_wp2
  go_ret
  exact ⟨rfl, w1.heap.size, gg.size, hsz, HA.out, HF.out⟩

theorem gHas.of {w : World} {p : Nat} {O : Nat → Prop} {f : Fo} (h : TAt w p O f) (n i : Int) (hn : I64 n) (hi : I64 i) (v : Bool) (hv : f.has (n, i) = v) : gHas w p n i v := fun W g => has_is (h.kept g) n i hn hi v hv

theorem Fo.view_root {f : Fo} {s : Int × Int} (hs : f.has s = false) (x : Int × Int) : (Fo.app f (Fo.one s)).view none x = if x = s then some (none, []) else f.view none x := by
  rw [Fo.view_app, Fo.view_one]
  by_cases e : x = s
  · subst e; rw [(Fo.hasnt hs).1, if_pos rfl]; simp
  · rw [if_neg e, if_neg (Ne.symm e), Option.or_none]

theorem Good.root {f : Fo} (G : Good f) {s : Int × Int} (h1 : I64 s.1) (h2 : I64 s.2) : Good (f.rootF s) := by
  unfold Fo.rootF
  cases hs : f.has s with
  | true => exact G
  | false =>
    have hn := Fo.has_not.1 hs
    simp only [Bool.false_eq_true, if_false]
    refine ⟨?_, fun x hx => ?_⟩
    · rw [Fo.pre_app, Fo.pre_one]
      exact List.nodup_append.2 ⟨G.nd, by simp, fun x hx y hy e => hn (by simp at hy; rw [← hy, ← e]; exact hx)⟩
    · rw [Fo.pre_app, Fo.pre_one] at hx
      simp at hx
      rcases hx with hx | rfl
      · exact G.num x hx
      · exact ⟨h1, h2⟩

theorem root_is {w : World} {p : Nat} {O : Nat → Prop} {f : Fo} (h : TAt w p O f) (n i e : Int) (hn : I64 n) (hi : I64 i) (hm : f.len ≤ 1000) (he : f.rootE (n, i) = e) :
    Calls Try.prog 31 #[.pointer (some ⟨p, 0, none⟩), sv n i] w fun x w' => x = .returned (.int .i64 e) ∧ TAt w' p (wide O w w') (f.rootF (n, i)) ∧ Fr O w w' := by
  unfold Fo.rootE at he
  unfold Fo.rootF
  cases hs : f.has (n, i) with
  | true =>
    rw [hs] at he
    simp only [if_true] at he ⊢
    subst he
    refine (root_twice w p n i (gHas.of h n i hn hi true hs)).mono ?_
    rintro _ w1 ⟨rfl, g1⟩
    exact ⟨rfl, (h.kept g1).mono (fun i e => .inl e), Fr.grown g1⟩
  | false =>
    rw [hs] at he
    simp only [Bool.false_eq_true, if_false] at he ⊢
    subst he
    have HH := gHas.of h n i hn hi false hs
    obtain ⟨b, K, V, h, hp, hb, hq, hg⟩ := h
    refine (root_new (hideIt h) n i hn hi hm (hideIt (h.gone _ (Fo.hasnt hs).1)) (hideIt (Fo.hasnt hs).1) HH).mono ?_
    rintro _ w1 ⟨rfl, q, h1, h2, A, F⟩
    refine ⟨rfl, ⟨b, _, _, A.congr (fun x => (Fo.view_root hs x).symm) (by rw [Fo.pre_app, Fo.pre_one]; simp), .inl hp, .inl hb, fun s q' hs' => ?_, fun s q' g hs' hg' => ?_⟩, F.mono (fun i _ e => e ▸ hb)⟩
    · by_cases e : s = (n, i)
      · simp only [if_pos e] at hs'; cases hs'; exact .inr ⟨h1, h2⟩
      · simp only [if_neg e] at hs'; exact .inl (hq s q' hs')
    · by_cases e : s = (n, i)
      · simp only [if_pos e] at hg'; cases hg'
      · simp only [if_neg e] at hs' hg'; exact .inl (hg s q' g hs' hg')

/-- append inside a region that draws its order, its run known. -/
theorem step_append_run {ops : Array Oper} {o : Oper} {a : Act} {w : World} {K : Act → World → Prop} {Q : Exit → Act → World → Prop} {E : Prop} (hgd : o.guard = none) (s x : Operand)
    (ho : o.op = .call { callee := .builtin .append, args := #[s, x], argTypes := #[42, 42] }) (vs vx : Value) (hs : a.eval s = vs) (hx : a.eval x = vx)
    (v' : Value) (w' : World) (hr : (Builtin.append_ #[42, 42] o.type #[vs, vx]).run Try.prog w = .ok v' w') (h : K (a.put o.dst v') w') :
    if Region.wanted o (yielded ops a.tmps) = true then Oper.wp Try.prog o a w K Q else E := by
  have hw : Region.wanted o (yielded ops a.tmps) = true := by simp [Region.wanted, hgd]
  rw [if_pos hw]
  unfold Oper.wp execOp
  simp only [ho, resolve, invoke, builtin, Sem.run_bind, Sem.run_pure, Result.andThen_ok, List.map_toArray, List.map_cons, List.map_nil, hs, hx, hr]
  exact h

/-! ### Child -/
theorem twoS (w : World) (n i a c : Int) : ∃ W, (w.alloc (.cells #[.int .i64 n, .int .i64 i] 29)).alloc (.cells #[.int .i64 a, .int .i64 c] 29) = W ∧ SBox W w.heap.size n i ∧ SBox W (w.heap.size + 1) a c ∧ w.grownBy W none := by
  obtain ⟨W, h1, h2, h3, _, h4⟩ := twoNew w n i a c
  exact ⟨W, h1, h2, h3, h4⟩

set_option maxHeartbeats 400000 in
theorem child_none {w : World} {p b m : Nat} {K : Int × Int → Option Nat} {V : Int × Int → Value} {P : Vw} (h : Hid (TA w p b m K V P)) (n i a c : Int) (hn : I64 n) (hi : I64 i) (hk : Hid (K (n, i) = none)) :
    Calls Try.prog 45 #[.pointer (some ⟨p, 0, none⟩), sv n i, sv a c] w fun e w' => e = .returned (.int .i64 3) ∧ w.grownBy w' none := by
  go_enter Try.func45, Try.ntmps45
  go_upto_region 1 with fail
  obtain ⟨W, hW, X, Y, g0⟩ := twoS w n i a c
  rw [hW]
  clear hW
  obtain ⟨c0, x0, x1, hl⟩ := Reads.mk' (h.out.kept g0) hn hi X hk.out
  refine wp_region_grown (by kernel_rfl) (by kernel_rfl) fun _ => ?_
  repeat (go_big_quiet_step (fail))
  refine wpQuiet_nil ?_
  rintro w1 ⟨⟨_, g1⟩, rfl⟩
  go_wp2
  go_ret
  exact ⟨rfl, gbTrans g0 g1⟩
set_option maxHeartbeats 400000 in
theorem child_twice {w : World} {p b m q : Nat} {K : Int × Int → Option Nat} {V : Int × Int → Value} {P : Vw} (h : Hid (TA w p b m K V P)) (n i a c : Int) (hn : I64 n) (hi : I64 i) (hk : Hid (K (n, i) = some q)) (HH : gHas w p a c true) :
    Calls Try.prog 45 #[.pointer (some ⟨p, 0, none⟩), sv n i, sv a c] w fun e w' => e = .returned (.int .i64 4) ∧ w.grownBy w' none := by
  go_enter Try.func45, Try.ntmps45
  go_upto_region 1 with fail
  obtain ⟨W, hW, X, Y, g0⟩ := twoS w n i a c
  rw [hW]
  clear hW
  obtain ⟨c0, x0, x1, hl⟩ := Reads.mk' (h.out.kept g0) hn hi X hk.out
  refine wp_region_grown (by kernel_rfl) (by kernel_rfl) fun _ => ?_
  repeat (go_big_quiet_step (fail))
  refine wpQuiet_nil ?_
  rintro w1 ⟨⟨_, g1⟩, rfl⟩
  clear c0 x0 x1 hl
  have y0 := (Y.kept g1).at0
  have y1 := (Y.kept g1).at1
  go_wp2_with fail
  refine (HH _ (gbTrans g0 g1)).mono ?_
  rintro _ w2 ⟨rfl, g2⟩
  go_wp2
  go_ret
  exact ⟨rfl, gbTrans (gbTrans g0 g1) g2⟩

set_option maxHeartbeats 1000000 in
theorem child_new {w : World} {p b m q : Nat} {K : Int × Int → Option Nat} {V : Int × Int → Value} {P : Vw} (h : Hid (TA w p b m K V P)) (n i a c : Int) (hn : I64 n) (hi : I64 i) (ha : I64 a) (hc : I64 c) (hm : m ≤ 1000) (hk : Hid (K (n, i) = some q)) (o : Option (Int × Int)) (l : List (Int × Int)) (hp : Hid (P (n, i) = some (o, l))) (hl : Hid (l.length ≤ 1000))
    (hk2 : Hid (K (a, c) = none)) (hp2 : Hid (P (a, c) = none)) (HH : gHas w p a c false) :
    Calls Try.prog 45 #[.pointer (some ⟨p, 0, none⟩), sv n i, sv a c] w fun e w' => e = .returned (.int .i64 0) ∧ ∃ q' v', w.heap.size ≤ q' ∧ q' < w'.heap.size ∧ (v'.ownBlock = (V (n, i)).ownBlock ∨ ∀ g, v'.ownBlock = some g → w.heap.size ≤ g ∧ g < w'.heap.size) ∧
      TA w' p b (m + 1) (fun j => if j = (a, c) then some q' else K j) (fun t => if t = (n, i) then v' else if t = (a, c) then .slice none 0 0 else V t) (fun t => if t = (n, i) then some (o, l ++ [(a, c)]) else if t = (a, c) then some (some (n, i), []) else P t) ∧ Fr (fun i' => i' = b ∨ i' = q ∨ (V (n, i)).ownBlock = some i') w w' := by
  obtain ⟨y, hy, hmem, hlst⟩ := h.out.has hk.out
  rw [hp.out] at hy; cases hy
  obtain ⟨v, hv⟩ : ∃ v, V (n, i) = v := ⟨_, rfl⟩
  rw [hv] at hmem hlst
  have HV := hideIt hv
  have HM := hideIt hmem
  have HLs := hideIt hlst
  have hne : Hid ((n, i) ≠ (a, c)) := hideIt (fun e => by have h1 := hk.out; rw [e, hk2.out] at h1; cases h1)
  clear hmem hlst hv
  go_enter Try.func45, Try.ntmps45
  go_upto_region 1 with fail
  obtain ⟨W, hW, X, Y, g0⟩ := twoS w n i a c
  rw [hW]
  clear hW
  obtain ⟨c0, x0, x1, hlk⟩ := Reads.mk' (h.out.kept g0) hn hi X hk.out
  refine wp_region_grown (by kernel_rfl) (by kernel_rfl) fun _ => ?_
  repeat (go_big_quiet_step (fail))
  refine wpQuiet_nil ?_
  rintro w1 ⟨⟨_, g1⟩, rfl⟩
  clear c0 x0 x1 hlk
  have y0 := (Y.kept g1).at0
  have y1 := (Y.kept g1).at1
  go_wp2_with fail
  refine (HH _ (gbTrans g0 g1)).mono ?_
  rintro _ w2 ⟨rfl, g2⟩
  clear y0 y1
  have X2 := (X.kept g1).kept g2
  have Y2 := (Y.kept g1).kept g2
  have gg := gbTrans (gbTrans g0 g1) g2
  have y0 := Y2.at0
  have y1 := Y2.at1
  have x0 := X2.at0
  have x1 := X2.at1
  have c0 := gg.cell h.out.cell (by simp)
  have gm : w.grownBy (w2.alloc (.cells #[.int .i64 n, .int .i64 i, .bool true, .slice none 0 0] 86)).drew none := gbDrew (gbAllocN gg _)
  have hx1 : w.heap.size + 1 < w2.heap.size := Y2.lt
  have hp1 : p < w2.heap.size := Nat.lt_of_lt_of_le h.out.plt gg.size
  have hx2 : ¬ w2.heap.size = w.heap.size := by omega
  have hx3 : ¬ w.heap.size = w2.heap.size := by omega
  have hx4 : ¬ w2.heap.size = w.heap.size + 1 := by omega
  have hx5 : ¬ w.heap.size + 1 = w2.heap.size := by omega
  have hp2' : ¬ w2.heap.size = p := by omega
  have hp3 : ¬ p = w2.heap.size := by omega
  obtain ⟨w3, hr3, k3, g3⟩ := (h.out.kept gm).map.put a c w2.heap.size ha hc hm hk2.out
  obtain ⟨A, F⟩ := h.out.put hp2.out (o := some (n, i)) gm (MemAt.new w2 (some (n, i)) _) gg.size g3 k3
  have HA := hideIt A
  have HF := hideIt F
  have hsz : w2.heap.size < w3.heap.size := Nat.lt_of_lt_of_le (by simp) g3.size
  clear A F k3
  go_wp2
  go_region
  clear y0 y1 x0 x1 c0 hr3
  have hbl := h.out.map.lt
  have g3y : some (w.heap.size + 1) ≠ some b := by simp; omega
  have gmm : w2.grownBy (w2.alloc (.cells #[.int .i64 n, .int .i64 i, .bool true, .slice none 0 0] 86)).drew none := gbDrew (gbAllocN (gbRefl _ _) _)
  have y0 := g3.cell (gmm.cell Y2.at0 (by simp)) g3y
  have y1 := g3.cell (gmm.cell Y2.at1 (by simp)) g3y
  have hq3 : (fun j => if j = (a, c) then some w2.heap.size else K j) (n, i) = some q := by simp only [if_neg hne.out]; exact hk.out
  have hp3' : (fun t => if t = (a, c) then some (some (n, i), ([] : List (Int × Int))) else P t) (n, i) = some (o, l) := by simp only [if_neg hne.out]; exact hp.out
  obtain ⟨yy, hyy, hmm, hll⟩ := HA.out.has hq3
  simp only [if_neg hne.out, HV.out, hp.out] at hyy hmm hll
  cases hyy
  have hyl : w.heap.size + 1 < w3.heap.size := by omega
  have hql : q < w3.heap.size := hmm.lt
  have g5 : w3.grownBy (w3.alloc (.cells #[.int .i64 a, .int .i64 c] 29)).drew none := gbDrew (gbAllocN (gbRefl _ _) _)
  obtain ⟨v4, w4, hr4, l4, g4, o4⟩ := run_append_slots (w3.alloc (.cells #[.int .i64 a, .int .i64 c] 29)).drew 0 v l (hll.kept g5) 42 (some ⟨w3.heap.size, 0, none⟩) 1 1 [(a, c)] rfl (by simp) (by rintro ad ⟨⟩; exact (rowOne w3 a c).kept (gbDrewN _ 1 none)) (by have := hl.out; omega) (Nat.zero_le _)
  obtain ⟨kk, hkk⟩ : ∃ kk, (l ++ [(a, c)]).length = kk := ⟨_, rfl⟩
  obtain ⟨g', cap', rfl⟩ := l4.shape hkk (by rw [← hkk]; simp)
  have gv4 : w3.grownBy w4 v.ownBlock := gbTrans (gbAny g5 _) g4
  have hqv : ∀ g, v.ownBlock = some g → g ≠ q := fun g hg => HA.out.gq hq3 (by simp only [if_neg hne.out, HV.out]; exact hg) hq3
  have m4 : MemAt w4 q o v := by
    have F1 : Fr (fun i => v.ownBlock = some i) w3 w4 := by
      cases e : v.ownBlock with
      | none => rw [e] at gv4; exact Fr.grown gv4
      | some g => rw [e] at gv4; exact Fr.at gv4 rfl
    exact hmm.fr F1 (fun e => hqv q e rfl)
  have q3 := hmm.c3
  have q4 := m4.c3
  have f4 := m4.fz
  have hA2 := TA.setCh HA.out (s := (n, i)) (w1 := w4) (v' := .slice (some ⟨g', 0, none⟩) kk cap') (l' := l ++ [(a, c)]) hq3 hp3' (by simp only [if_neg hne.out, HV.out]; exact gv4) l4 (by
    simp only [if_neg hne.out, HV.out]
    rcases o4 with o4 | o4
    · exact .inl o4
    · exact .inr (fun g e => by rw [o4] at e; cases e; simp))
  have hz4 : w3.heap.size ≤ w4.heap.size := gv4.size
  have hzs : (w4.setCell ⟨q, 3, none⟩ (.slice (some ⟨g', 0, none⟩) kk cap')).heap.size = w4.heap.size := by simp [World.setCell]
  have hgl := (l4.lt g' rfl).2
  have HFIN : Hid (∃ q' v', w.heap.size ≤ q' ∧ q' < (w4.setCell ⟨q, 3, none⟩ (.slice (some ⟨g', 0, none⟩) kk cap')).heap.size ∧ (v'.ownBlock = (V (n, i)).ownBlock ∨ ∀ g, v'.ownBlock = some g → w.heap.size ≤ g ∧ g < (w4.setCell ⟨q, 3, none⟩ (.slice (some ⟨g', 0, none⟩) kk cap')).heap.size) ∧
      TA (w4.setCell ⟨q, 3, none⟩ (.slice (some ⟨g', 0, none⟩) kk cap')) p b (m + 1) (fun j => if j = (a, c) then some q' else K j) (fun t => if t = (n, i) then v' else if t = (a, c) then .slice none 0 0 else V t) (fun t => if t = (n, i) then some (o, l ++ [(a, c)]) else if t = (a, c) then some (some (n, i), []) else P t) ∧ Fr (fun i' => i' = b ∨ i' = q ∨ (V (n, i)).ownBlock = some i') w (w4.setCell ⟨q, 3, none⟩ (.slice (some ⟨g', 0, none⟩) kk cap'))) := hideIt (by
    refine ⟨w2.heap.size, .slice (some ⟨g', 0, none⟩) kk cap', gg.size, by rw [hzs]; omega, ?_, hA2.1, ?_⟩
    · rcases o4 with o4 | o4
      · exact .inl (by rw [HV.out]; exact o4)
      · refine .inr (fun g e => ?_)
        cases e
        have h1 : g' = w3.heap.size + 1 := by simpa [Value.ownBlock] using o4
        have h2 := gg.size
        rw [hzs]
        show w.heap.size ≤ g' ∧ g' < w4.heap.size
        omega
    · have F2 := hA2.2
      simp only [if_neg hne.out] at F2
      exact (HF.out.mono (fun i' _ e => .inl e)).join F2 (fun i' _ e => .inr e))
  have hq5 : ¬ w3.heap.size = q := by omega
  have hq6 : ¬ q = w3.heap.size := by omega
  have hq7 : ¬ w3.heap.size = w.heap.size + 1 := by omega
  have hq8 : ¬ w.heap.size + 1 = w3.heap.size := by omega
  clear hA2 hmm hll l4 hkk o4 hgl
  go_wp2
  go_region_law (refine step_append_run rfl (.tmp 32) (.tmp 34) rfl v (.slice (some ⟨w3.heap.size, 0, none⟩) 1 1) rfl rfl (.slice (some ⟨g', 0, none⟩) kk cap') w4 hr4 ?_)
  all_goals (go_wp2; go_ret; exact ⟨rfl, HFIN.out⟩)

theorem Good.child {f : Fo} (G : Good f) {o s : Int × Int} (h1 : I64 s.1) (h2 : I64 s.2) : Good (f.childF o s) := by
  unfold Fo.childF
  cases ho : f.has o with
  | false => exact G
  | true =>
    cases hs : f.has s with
    | true => exact G
    | false =>
      have hn := Fo.has_not.1 hs
      have hi := Fo.has_iff.1 ho
      simp only [Bool.false_eq_true, if_false, if_true]
      refine ⟨Fo.nodup_add G.nd hi hn, fun x hx => ?_⟩
      rcases (Fo.mem_add hi).1 hx with rfl | hx
      · exact ⟨h1, h2⟩
      · exact G.num x hx

theorem len_children {f : Fo} (s : Int × Int) : (f.children s).length ≤ f.len := by
  unfold Fo.children Fo.len
  cases hs : f.sub s with
  | none => simp
  | some d =>
    have h1 : ∀ g : Fo, g.tops.length ≤ g.pre.length := fun g => by
      induction g using Fo.ind with
      | nil => simp [Fo.tops]
      | node bb oo a d r _ ih => simp only [Fo.tops, Fo.pre, List.length_cons, List.length_append]; omega
    have h2 : ∀ (g e : Fo), g.sub s = some e → e.pre.length ≤ g.pre.length := fun g => by
      induction g using Fo.ind with
      | nil => intro e h; cases h
      | node bb oo a d r ihd ihr =>
        intro e h
        simp only [Fo.sub] at h
        simp only [Fo.pre, List.length_cons, List.length_append]
        split at h
        · cases h; omega
        · cases hd : d.sub s with
          | some x => rw [hd] at h; simp at h; subst h; have := ihd _ hd; omega
          | none => rw [hd] at h; simp at h; have := ihr _ h; omega
    exact Nat.le_trans (h1 d) (h2 f d hs)

theorem child_is {w : World} {p : Nat} {O : Nat → Prop} {f : Fo} (h : TAt w p O f) (G : Good f) (n i a c e : Int) (hn : I64 n) (hi : I64 i) (ha : I64 a) (hc : I64 c) (hm : f.len ≤ 1000) (he : f.childE (n, i) (a, c) = e) :
    Calls Try.prog 45 #[.pointer (some ⟨p, 0, none⟩), sv n i, sv a c] w fun x w' => x = .returned (.int .i64 e) ∧ TAt w' p (wide O w w') (f.childF (n, i) (a, c)) ∧ Fr O w w' := by
  unfold Fo.childE at he
  unfold Fo.childF
  cases hs : f.has (n, i) with
  | false =>
    rw [hs] at he
    simp only [Bool.false_eq_true, if_false] at he ⊢
    subst he
    obtain ⟨b, K, V, h, hr⟩ := id h
    refine (child_none (hideIt h) n i a c hn hi (hideIt (h.gone _ (Fo.hasnt hs).1))).mono ?_
    rintro _ w1 ⟨rfl, g1⟩
    exact ⟨rfl, (TAt.kept ⟨b, K, V, h, hr⟩ g1).mono (fun i e => .inl e), Fr.grown g1⟩
  | true =>
    rw [hs] at he
    simp only [if_true] at he ⊢
    cases hs2 : f.has (a, c) with
    | true =>
      rw [hs2] at he
      simp only [if_true] at he ⊢
      subst he
      have HH := gHas.of h a c ha hc true hs2
      obtain ⟨b, K, V, h, hr⟩ := id h
      obtain ⟨q, hq, _⟩ := h.mem _ _ (Fo.has_view hs)
      refine (child_twice (hideIt h) n i a c hn hi (hideIt hq) HH).mono ?_
      rintro _ w1 ⟨rfl, g1⟩
      exact ⟨rfl, (TAt.kept ⟨b, K, V, h, hr⟩ g1).mono (fun i e => .inl e), Fr.grown g1⟩
    | false =>
      rw [hs2] at he
      simp only [Bool.false_eq_true, if_false] at he ⊢
      subst he
      have HH := gHas.of h a c ha hc false hs2
      obtain ⟨b, K, V, h, hp, hb, hqs, hgs⟩ := h
      obtain ⟨q, hq, _⟩ := h.mem _ _ (Fo.has_view hs)
      refine (child_new (hideIt h) n i a c hn hi ha hc hm (hideIt hq) _ _ (hideIt (Fo.has_view hs)) (hideIt (Nat.le_trans (len_children _) hm)) (hideIt (h.gone _ (Fo.hasnt hs2).1)) (hideIt (Fo.hasnt hs2).1) HH).mono ?_
      rintro _ w1 ⟨rfl, q', v', h1, h2, h3, A, F⟩
      refine ⟨rfl, ⟨b, _, _, A.congr (fun x => ?_) (by rw [Fo.len_add G.nd (Fo.has_iff.1 hs)]), .inl hp, .inl hb, fun s r hs' => ?_, fun s r g hs' hg' => ?_⟩, F.mono (fun i' _ e => ?_)⟩
      · rw [Fo.view_add G.nd (Fo.has_iff.1 hs) (Fo.has_not.1 hs2)]
        by_cases e1 : x = (n, i)
        · have : (n, i) ≠ (a, c) := fun e => by rw [e, hs2] at hs; cases hs
          rw [e1, if_pos rfl, if_neg this, Fo.has_view hs]
          simp
        · rw [if_neg e1]
          by_cases e2 : x = (a, c)
          · rw [if_pos e2, if_pos e2]
          · rw [if_neg e2, if_neg e2]
            cases f.view none x <;> simp [e1]
      · by_cases e : s = (a, c)
        · simp only [if_pos e] at hs'; cases hs'; exact .inr ⟨h1, h2⟩
        · simp only [if_neg e] at hs'; exact .inl (hqs s r hs')
      · by_cases e1 : s = (n, i)
        · simp only [if_pos e1] at hg'
          rcases h3 with h3 | h3
          · exact .inl (hgs (n, i) q g hq (h3 ▸ hg'))
          · exact .inr (h3 g hg')
        · simp only [if_neg e1] at hg'
          by_cases e : s = (a, c)
          · simp only [if_pos e] at hg'; cases hg'
          · simp only [if_neg e] at hs' hg'; exact .inl (hgs s r g hs' hg')
      · rcases e with rfl | rfl | e
        · exact hb
        · exact hqs _ _ hq
        · exact hgs _ _ _ hq e

end T9
end Go.Proofs.Ytkpcdfiebjigbaa
