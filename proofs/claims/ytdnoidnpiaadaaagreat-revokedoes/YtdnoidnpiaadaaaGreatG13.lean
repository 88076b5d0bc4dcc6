/-
  THE CONTRACTS of package tree: Root, Child.
-/
import Derived.Test.YtdnoidnpiaadaaaGreatTRep
namespace Go.Proofs.YtdnoidnpiaadaaaGreat
set_option maxRecDepth 10000
namespace T9
open Go.RowKit
set_option linter.unusedVariables false

abbrev gHas (w : World) (p : Nat) (n i : Int) (v : Bool) : Prop := ∀ W, w.grownBy W none → Calls Tryz.prog 109 #[.pointer (some ⟨p, 0, none⟩), sv n i] W fun e w' => e = .returned (.bool v) ∧ W.grownBy w' none

set_option maxHeartbeats 400000 in
theorem root_twice (w : World) (p : Nat) (n i : Int) (HH : gHas w p n i true) :
    Calls Tryz.prog 77 #[.pointer (some ⟨p, 0, none⟩), sv n i] w fun e w' => e = .returned (.int .i64 4) ∧ w.grownBy w' none := by
  go_enter Tryz.func77, Tryz.ntmps77
  go_upto_region 1 with fail
  obtain ⟨W, hW, X, g0⟩ := sboxNew w n i
  rw [hW]
  clear hW
  have x0 := X.at0
  have x1 := X.at1
  go_wp2_with fail
  refine (HH _ g0).mono ?_
  rintro _ w1 ⟨rfl, g1⟩
  go_wp2
  go_ret
  exact ⟨rfl, gbTrans g0 g1⟩

set_option maxHeartbeats 400000 in
theorem root_new {w : World} {p b m : Nat} {K : Int × Int → Option Nat} {V : Int × Int → Value} {P : Vw} (h : Hid (TA w p b m K V P)) (n i : Int) (hn : I64 n) (hi : I64 i) (hm : m ≤ 1000) (hk : Hid (K (n, i) = none)) (hp : Hid (P (n, i) = none)) (HH : gHas w p n i false) :
    Calls Tryz.prog 77 #[.pointer (some ⟨p, 0, none⟩), sv n i] w fun e w' => e = .returned (.int .i64 0) ∧ ∃ q, w.heap.size ≤ q ∧ q < w'.heap.size ∧
      TA w' p b (m + 1) (fun j => if j = (n, i) then some q else K j) (fun t => if t = (n, i) then .slice none 0 0 else V t) (fun t => if t = (n, i) then some (none, []) else P t) ∧ Fr (fun i => i = b) w w' := by
  go_enter Tryz.func77, Tryz.ntmps77
  go_upto_region 1 with fail
  obtain ⟨W, hW, X, g0⟩ := sboxNew w n i
  rw [hW]
  clear hW
  have x0 := X.at0
  have x1 := X.at1
  go_wp2_with fail
  refine (HH _ g0).mono ?_
  rintro _ w1 ⟨rfl, g1⟩
  have y0 := (X.kept g1).at0
  have y1 := (X.kept g1).at1
  have gg := gbTrans g0 g1
  have c0 := gg.cell h.out.cell (by simp)
  have gm : w.grownBy (w1.alloc (.cells #[.int .i64 0, .int .i64 0, .bool false, .slice none 0 0] 131)).drew none := gbDrew (gbAllocN gg _)
  have hx1 : w.heap.size < w1.heap.size := (X.kept g1).lt
  have hp1 : p < w1.heap.size := Nat.lt_of_lt_of_le h.out.plt gg.size
  have hx2 : ¬ w1.heap.size = w.heap.size := by omega
  have hx3 : ¬ w.heap.size = w1.heap.size := by omega
  have hp2 : ¬ w1.heap.size = p := by omega
  have hp3 : ¬ p = w1.heap.size := by omega
  obtain ⟨w2, hr2, k2, g2⟩ := (h.out.kept gm).map.put n i w1.heap.size hn hi hm hk.out
  obtain ⟨A, F⟩ := h.out.put hp.out (o := none) gm (MemAt.new w1 none _) gg.size g2 k2
  have HA := hideIt A
  have HF := hideIt F
  have hsz : w1.heap.size < w2.heap.size := Nat.lt_of_lt_of_le (by simp) g2.size
  clear x0 x1 A F k2
  go_wp2
  go_region
  go_wp2
  go_ret
  exact ⟨rfl, w1.heap.size, gg.size, hsz, HA.out, HF.out⟩

theorem gHas.of {w : World} {p : Nat} {O : Nat → Prop} {f : Fo} (h : TAt w p O f) (n i : Int) (hn : I64 n) (hi : I64 i) (v : Bool) (hv : f.has (n, i) = v) : gHas w p n i v := fun W g => has_is (h.kept g) n i hn hi v hv

theorem Fo.view_root {f : Fo} {s : Int × Int} (hs : f.has s = false) (x : Int × Int) : (Fo.app f (Fo.one s)).view none x = if x = s then some (none, []) else f.view none x := by
  rw [Fo.view_app, Fo.view_one]
  by_cases e : x = s
  · subst e; rw [(Fo.hasnt hs).1, if_pos rfl]; simp
  · rw [if_neg e, if_neg (Ne.symm e), Option.or_none]

theorem Good.root {f : Fo} (G : Good f) {s : Int × Int} (h1 : I64 s.1) (h2 : I64 s.2) : Good (f.rootF s) := by
  unfold Fo.rootF
  cases hs : f.has s with
  | true => exact G
  | false =>
    have hn := Fo.has_not.1 hs
    simp only [Bool.false_eq_true, if_false]
    refine ⟨?_, fun x hx => ?_⟩
    · rw [Fo.pre_app, Fo.pre_one]
      exact List.nodup_append.2 ⟨G.nd, by simp, fun x hx y hy e => hn (by simp at hy; rw [← hy, ← e]; exact hx)⟩
    · rw [Fo.pre_app, Fo.pre_one] at hx
      simp at hx
      rcases hx with hx | rfl
      · exact G.num x hx
      · exact ⟨h1, h2⟩

theorem root_is {w : World} {p : Nat} {O : Nat → Prop} {f : Fo} (h : TAt w p O f) (n i e : Int) (hn : I64 n) (hi : I64 i) (hm : f.len ≤ 1000) (he : f.rootE (n, i) = e) :
    Calls Tryz.prog 77 #[.pointer (some ⟨p, 0, none⟩), sv n i] w fun x w' => x = .returned (.int .i64 e) ∧ TAt w' p (wide O w w') (f.rootF (n, i)) ∧ Fr O w w' := by
  unfold Fo.rootE at he
  unfold Fo.rootF
  cases hs : f.has (n, i) with
  | true =>
    rw [hs] at he
    simp only [if_true] at he ⊢
    subst he
    refine (root_twice w p n i (gHas.of h n i hn hi true hs)).mono ?_
    rintro _ w1 ⟨rfl, g1⟩
    exact ⟨rfl, (h.kept g1).mono (fun i e => .inl e), Fr.grown g1⟩
  | false =>
    rw [hs] at he
    simp only [Bool.false_eq_true, if_false] at he ⊢
    subst he
    have HH := gHas.of h n i hn hi false hs
    obtain ⟨b, K, V, h, hp, hb, hq, hg⟩ := h
    refine (root_new (hideIt h) n i hn hi hm (hideIt (h.gone _ (Fo.hasnt hs).1)) (hideIt (Fo.hasnt hs).1) HH).mono ?_
    rintro _ w1 ⟨rfl, q, h1, h2, A, F⟩
    refine ⟨rfl, ⟨b, _, _, A.congr (fun x => (Fo.view_root hs x).symm) (by rw [Fo.pre_app, Fo.pre_one]; simp), .inl hp, .inl hb, fun s q' hs' => ?_, fun s q' g hs' hg' => ?_⟩, F.mono (fun i _ e => e ▸ hb)⟩
    · by_cases e : s = (n, i)
      · simp only [if_pos e] at hs'; cases hs'; exact .inr ⟨h1, h2⟩
      · simp only [if_neg e] at hs'; exact .inl (hq s q' hs')
    · by_cases e : s = (n, i)
      · simp only [if_pos e] at hg'; cases hg'
      · simp only [if_neg e] at hs' hg'; exact .inl (hg s q' g hs' hg')

/-- append inside a region that draws its order, its run known. -/
theorem step_append_run {ops : Array Oper} {o : Oper} {a : Act} {w : World} {K : Act → World → Prop} {Q : Exit → Act → World → Prop} {E : Prop} (hgd : o.guard = none) (s x : Operand)
    (ho : o.op = .call { callee := .builtin .append, args := #[s, x], argTypes := #[51, 51] }) (vs vx : Value) (hs : a.eval s = vs) (hx : a.eval x = vx)
    (v' : Value) (w' : World) (hr : (Builtin.append_ #[51, 51] o.type #[vs, vx]).run Tryz.prog w = .ok v' w') (h : K (a.put o.dst v') w') :
    if Region.wanted o (yielded ops a.tmps) = true then Oper.wp Tryz.prog o a w K Q else E := by
  have hw : Region.wanted o (yielded ops a.tmps) = true := by simp [Region.wanted, hgd]
  rw [if_pos hw]
  unfold Oper.wp execOp
  simp only [ho, resolve, invoke, builtin, Sem.run_bind, Sem.run_pure, Result.andThen_ok, List.map_toArray, List.map_cons, List.map_nil, hs, hx, hr]
  exact h

/-! ### Child -/
theorem twoS (w : World) (n i a c : Int) : ∃ W, (w.alloc (.cells #[.int .i64 n, .int .i64 i] 31)).alloc (.cells #[.int .i64 a, .int .i64 c] 31) = W ∧ SBox W w.heap.size n i ∧ SBox W (w.heap.size + 1) a c ∧ w.grownBy W none := by
  obtain ⟨W, h1, h2, h3, _, h4⟩ := twoNew w n i a c
  exact ⟨W, h1, h2, h3, h4⟩

set_option maxHeartbeats 400000 in
theorem child_none {w : World} {p b m : Nat} {K : Int × Int → Option Nat} {V : Int × Int → Value} {P : Vw} (h : Hid (TA w p b m K V P)) (n i a c : Int) (hn : I64 n) (hi : I64 i) (hk : Hid (K (n, i) = none)) :
    Calls Tryz.prog 81 #[.pointer (some ⟨p, 0, none⟩), sv n i, sv a c] w fun e w' => e = .returned (.int .i64 3) ∧ w.grownBy w' none := by
  go_enter Tryz.func81, Tryz.ntmps81
  go_upto_region 1 with fail
  obtain ⟨W, hW, X, Y, g0⟩ := twoS w n i a c
  rw [hW]
  clear hW
  obtain ⟨c0, x0, x1, hl⟩ := Reads.mk' (h.out.kept g0) hn hi X hk.out
  refine wp_region_grown (by kernel_rfl) (by kernel_rfl) fun _ => ?_
  repeat (go_big_quiet_step (fail))
  refine wpQuiet_nil ?_
  rintro w1 ⟨⟨_, g1⟩, rfl⟩
  go_wp2
  go_ret
  exact ⟨rfl, gbTrans g0 g1⟩
set_option maxHeartbeats 400000 in
theorem child_twice {w : World} {p b m q : Nat} {K : Int × Int → Option Nat} {V : Int × Int → Value} {P : Vw} (h : Hid (TA w p b m K V P)) (n i a c : Int) (hn : I64 n) (hi : I64 i) (hk : Hid (K (n, i) = some q)) (HH : gHas w p a c true) :
    Calls Tryz.prog 81 #[.pointer (some ⟨p, 0, none⟩), sv n i, sv a c] w fun e w' => e = .returned (.int .i64 4) ∧ w.grownBy w' none := by
  go_enter Tryz.func81, Tryz.ntmps81
  go_upto_region 1 with fail
  obtain ⟨W, hW, X, Y, g0⟩ := twoS w n i a c
  rw [hW]
  clear hW
  obtain ⟨c0, x0, x1, hl⟩ := Reads.mk' (h.out.kept g0) hn hi X hk.out
  refine wp_region_grown (by kernel_rfl) (by kernel_rfl) fun _ => ?_
  repeat (go_big_quiet_step (fail))
  refine wpQuiet_nil ?_
  rintro w1 ⟨⟨_, g1⟩, rfl⟩
  clear c0 x0 x1 hl
  have y0 := (Y.kept g1).at0
  have y1 := (Y.kept g1).at1
  go_wp2_with fail
  refine (HH _ (gbTrans g0 g1)).mono ?_
  rintro _ w2 ⟨rfl, g2⟩
  go_wp2
  go_ret
  exact ⟨rfl, gbTrans (gbTrans g0 g1) g2⟩

set_option maxHeartbeats 1000000 in
theorem child_new {w : World} {p b m q : Nat} {K : Int × Int → Option Nat} {V : Int × Int → Value} {P : Vw} (h : Hid (TA w p b m K V P)) (n i a c : Int) (hn : I64 n) (hi : I64 i) (ha : I64 a) (hc : I64 c) (hm : m ≤ 1000) (hk : Hid (K (n, i) = some q)) (o : Option (Int × Int)) (l : List (Int × Int)) (hp : Hid (P (n, i) = some (o, l))) (hl : Hid (l.length ≤ 1000))
    (hk2 : Hid (K (a, c) = none)) (hp2 : Hid (P (a, c) = none)) (HH : gHas w p a c false) :
    Calls Tryz.prog 81 #[.pointer (some ⟨p, 0, none⟩), sv n i, sv a c] w fun e w' => e = .returned (.int .i64 0) ∧ ∃ q' v', w.heap.size ≤ q' ∧ q' < w'.heap.size ∧ (v'.ownBlock = (V (n, i)).ownBlock ∨ ∀ g, v'.ownBlock = some g → w.heap.size ≤ g ∧ g < w'.heap.size) ∧
      TA w' p b (m + 1) (fun j => if j = (a, c) then some q' else K j) (fun t => if t = (n, i) then v' else if t = (a, c) then .slice none 0 0 else V t) (fun t => if t = (n, i) then some (o, l ++ [(a, c)]) else if t = (a, c) then some (some (n, i), []) else P t) ∧ Fr (fun i' => i' = b ∨ i' = q ∨ (V (n, i)).ownBlock = some i') w w' := by
  obtain ⟨y, hy, hmem, hlst⟩ := h.out.has hk.out
  rw [hp.out] at hy; cases hy
  obtain ⟨v, hv⟩ : ∃ v, V (n, i) = v := ⟨_, rfl⟩
  rw [hv] at hmem hlst
  have HV := hideIt hv
  have HM := hideIt hmem
  have HLs := hideIt hlst
  have hne : Hid ((n, i) ≠ (a, c)) := hideIt (fun e => by have h1 := hk.out; rw [e, hk2.out] at h1; cases h1)
  clear hmem hlst hv
  go_enter Tryz.func81, Tryz.ntmps81
  go_upto_region 1 with fail
  obtain ⟨W, hW, X, Y, g0⟩ := twoS w n i a c
  rw [hW]
  clear hW
  obtain ⟨c0, x0, x1, hlk⟩ := Reads.mk' (h.out.kept g0) hn hi X hk.out
  refine wp_region_grown (by kernel_rfl) (by kernel_rfl) fun _ => ?_
  repeat (go_big_quiet_step (fail))
  refine wpQuiet_nil ?_
  rintro w1 ⟨⟨_, g1⟩, rfl⟩
  clear c0 x0 x1 hlk
  have y0 := (Y.kept g1).at0
  have y1 := (Y.kept g1).at1
  go_wp2_with fail
  refine (HH _ (gbTrans g0 g1)).mono ?_
  rintro _ w2 ⟨rfl, g2⟩
  clear y0 y1
  have X2 := (X.kept g1).kept g2
  have Y2 := (Y.kept g1).kept g2
  have gg := gbTrans (gbTrans g0 g1) g2
  have y0 := Y2.at0
  have y1 := Y2.at1
  have x0 := X2.at0
  have x1 := X2.at1
  have c0 := gg.cell h.out.cell (by simp)
  have gm : w.grownBy (w2.alloc (.cells #[.int .i64 n, .int .i64 i, .bool true, .slice none 0 0] 131)).drew none := gbDrew (gbAllocN gg _)
  have hx1 : w.heap.size + 1 < w2.heap.size := Y2.lt
  have hp1 : p < w2.heap.size := Nat.lt_of_lt_of_le h.out.plt gg.size
  have hx2 : ¬ w2.heap.size = w.heap.size := by omega
  have hx3 : ¬ w.heap.size = w2.heap.size := by omega
  have hx4 : ¬ w2.heap.size = w.heap.size + 1 := by omega
  have hx5 : ¬ w.heap.size + 1 = w2.heap.size := by omega
  have hp2' : ¬ w2.heap.size = p := by omega
  have hp3 : ¬ p = w2.heap.size := by omega
  obtain ⟨w3, hr3, k3, g3⟩ := (h.out.kept gm).map.put a c w2.heap.size ha hc hm hk2.out
  obtain ⟨A, F⟩ := h.out.put hp2.out (o := some (n, i)) gm (MemAt.new w2 (some (n, i)) _) gg.size g3 k3
  have HA := hideIt A
  have HF := hideIt F
  have hsz : w2.heap.size < w3.heap.size := Nat.lt_of_lt_of_le (by simp) g3.size
  clear A F k3
  go_wp2
  go_region
  clear y0 y1 x0 x1 c0 hr3
  have hbl := h.out.map.lt
  have g3y : some (w.heap.size + 1) ≠ some b := by simp; omega
  have gmm : w2.grownBy (w2.alloc (.cells #[.int .i64 n, .int .i64 i, .bool true, .slice none 0 0] 131)).drew none := gbDrew (gbAllocN (gbRefl _ _) _)
  have y0 := g3.cell (gmm.cell Y2.at0 (by simp)) g3y
  have y1 := g3.cell (gmm.cell Y2.at1 (by simp)) g3y
  have hq3 : (fun j => if j = (a, c) then some w2.heap.size else K j) (n, i) = some q := by simp only [if_neg hne.out]; exact hk.out
  have hp3' : (fun t => if t = (a, c) then some (some (n, i), ([] : List (Int × Int))) else P t) (n, i) = some (o, l) := by simp only [if_neg hne.out]; exact hp.out
  obtain ⟨yy, hyy, hmm, hll⟩ := HA.out.has hq3
  simp only [if_neg hne.out, HV.out, hp.out] at hyy hmm hll
  cases hyy
  have hyl : w.heap.size + 1 < w3.heap.size := by omega
  have hql : q < w3.heap.size := hmm.lt
  have g5 : w3.grownBy (w3.alloc (.cells #[.int .i64 a, .int .i64 c] 31)).drew none := gbDrew (gbAllocN (gbRefl _ _) _)
  obtain ⟨v4, w4, hr4, l4, g4, o4⟩ := run_append_slots (w3.alloc (.cells #[.int .i64 a, .int .i64 c] 31)).drew 0 v l (hll.kept g5) 51 (some ⟨w3.heap.size, 0, none⟩) 1 1 [(a, c)] rfl (by simp) (by rintro ad ⟨⟩; exact (rowOne w3 a c).kept (gbDrewN _ 1 none)) (by have := hl.out; omega) (Nat.zero_le _)
  obtain ⟨kk, hkk⟩ : ∃ kk, (l ++ [(a, c)]).length = kk := ⟨_, rfl⟩
  obtain ⟨g', cap', rfl⟩ := l4.shape hkk (by rw [← hkk]; simp)
  have gv4 : w3.grownBy w4 v.ownBlock := gbTrans (gbAny g5 _) g4
  have hqv : ∀ g, v.ownBlock = some g → g ≠ q := fun g hg => HA.out.gq hq3 (by simp only [if_neg hne.out, HV.out]; exact hg) hq3
  have m4 : MemAt w4 q o v := by
    have F1 : Fr (fun i => v.ownBlock = some i) w3 w4 := by
      cases e : v.ownBlock with
      | none => rw [e] at gv4; exact Fr.grown gv4
      | some g => rw [e] at gv4; exact Fr.at gv4 rfl
    exact hmm.fr F1 (fun e => hqv q e rfl)
  have q3 := hmm.c3
  have q4 := m4.c3
  have f4 := m4.fz
  have hA2 := TA.setCh HA.out (s := (n, i)) (w1 := w4) (v' := .slice (some ⟨g', 0, none⟩) kk cap') (l' := l ++ [(a, c)]) hq3 hp3' (by simp only [if_neg hne.out, HV.out]; exact gv4) l4 (by
    simp only [if_neg hne.out, HV.out]
    rcases o4 with o4 | o4
    · exact .inl o4
    · exact .inr (fun g e => by rw [o4] at e; cases e; simp))
  have hz4 : w3.heap.size ≤ w4.heap.size := gv4.size
  have hzs : (w4.setCell ⟨q, 3, none⟩ (.slice (some ⟨g', 0, none⟩) kk cap')).heap.size = w4.heap.size := by simp [World.setCell]
  have hgl := (l4.lt g' rfl).2
  have HFIN : Hid (∃ q' v', w.heap.size ≤ q' ∧ q' < (w4.setCell ⟨q, 3, none⟩ (.slice (some ⟨g', 0, none⟩) kk cap')).heap.size ∧ (v'.ownBlock = (V (n, i)).ownBlock ∨ ∀ g, v'.ownBlock = some g → w.heap.size ≤ g ∧ g < (w4.setCell ⟨q, 3, none⟩ (.slice (some ⟨g', 0, none⟩) kk cap')).heap.size) ∧
      TA (w4.setCell ⟨q, 3, none⟩ (.slice (some ⟨g', 0, none⟩) kk cap')) p b (m + 1) (fun j => if j = (a, c) then some q' else K j) (fun t => if t = (n, i) then v' else if t = (a, c) then .slice none 0 0 else V t) (fun t => if t = (n, i) then some (o, l ++ [(a, c)]) else if t = (a, c) then some (some (n, i), []) else P t) ∧ Fr (fun i' => i' = b ∨ i' = q ∨ (V (n, i)).ownBlock = some i') w (w4.setCell ⟨q, 3, none⟩ (.slice (some ⟨g', 0, none⟩) kk cap'))) := hideIt (by
    refine ⟨w2.heap.size, .slice (some ⟨g', 0, none⟩) kk cap', gg.size, by rw [hzs]; omega, ?_, hA2.1, ?_⟩
    · rcases o4 with o4 | o4
      · exact .inl (by rw [HV.out]; exact o4)
      · refine .inr (fun g e => ?_)
        cases e
        have h1 : g' = w3.heap.size + 1 := by simpa [Value.ownBlock] using o4
        have h2 := gg.size
        rw [hzs]
        show w.heap.size ≤ g' ∧ g' < w4.heap.size
        omega
    · have F2 := hA2.2
      simp only [if_neg hne.out] at F2
      exact (HF.out.mono (fun i' _ e => .inl e)).join F2 (fun i' _ e => .inr e))
  have hq5 : ¬ w3.heap.size = q := by omega
  have hq6 : ¬ q = w3.heap.size := by omega
  have hq7 : ¬ w3.heap.size = w.heap.size + 1 := by omega
  have hq8 : ¬ w.heap.size + 1 = w3.heap.size := by omega
  clear hA2 hmm hll l4 hkk o4 hgl
  go_wp2
  go_region_law (refine step_append_run rfl (.tmp 32) (.tmp 34) rfl v (.slice (some ⟨w3.heap.size, 0, none⟩) 1 1) rfl rfl (.slice (some ⟨g', 0, none⟩) kk cap') w4 hr4 ?_)
  all_goals (go_wp2; go_ret; exact ⟨rfl, HFIN.out⟩)

theorem Good.child {f : Fo} (G : Good f) {o s : Int × Int} (h1 : I64 s.1) (h2 : I64 s.2) : Good (f.childF o s) := by
  unfold Fo.childF
  cases ho : f.has o with
  | false => exact G
  | true =>
    cases hs : f.has s with
    | true => exact G
    | false =>
      have hn := Fo.has_not.1 hs
      have hi := Fo.has_iff.1 ho
      simp only [Bool.false_eq_true, if_false, if_true]
      refine ⟨Fo.nodup_add G.nd hi hn, fun x hx => ?_⟩
      rcases (Fo.mem_add hi).1 hx with rfl | hx
      · exact ⟨h1, h2⟩
      · exact G.num x hx

theorem len_children {f : Fo} (s : Int × Int) : (f.children s).length ≤ f.len := by
  unfold Fo.children Fo.len
  cases hs : f.sub s with
  | none => simp
  | some d =>
    have h1 : ∀ g : Fo, g.tops.length ≤ g.pre.length := fun g => by
      induction g using Fo.ind with
      | nil => simp [Fo.tops]
      | node bb oo a d r _ ih => simp only [Fo.tops, Fo.pre, List.length_cons, List.length_append]; omega
    have h2 : ∀ (g e : Fo), g.sub s = some e → e.pre.length ≤ g.pre.length := fun g => by
      induction g using Fo.ind with
      | nil => intro e h; cases h
      | node bb oo a d r ihd ihr =>
        intro e h
        simp only [Fo.sub] at h
        simp only [Fo.pre, List.length_cons, List.length_append]
        split at h
        · cases h; omega
        · cases hd : d.sub s with
          | some x => rw [hd] at h; simp at h; subst h; have := ihd _ hd; omega
          | none => rw [hd] at h; simp at h; have := ihr _ h; omega
    exact Nat.le_trans (h1 d) (h2 f d hs)

theorem child_is {w : World} {p : Nat} {O : Nat → Prop} {f : Fo} (h : TAt w p O f) (G : Good f) (n i a c e : Int) (hn : I64 n) (hi : I64 i) (ha : I64 a) (hc : I64 c) (hm : f.len ≤ 1000) (he : f.childE (n, i) (a, c) = e) :
    Calls Tryz.prog 81 #[.pointer (some ⟨p, 0, none⟩), sv n i, sv a c] w fun x w' => x = .returned (.int .i64 e) ∧ TAt w' p (wide O w w') (f.childF (n, i) (a, c)) ∧ Fr O w w' := by
  unfold Fo.childE at he
  unfold Fo.childF
  cases hs : f.has (n, i) with
  | false =>
    rw [hs] at he
    simp only [Bool.false_eq_true, if_false] at he ⊢
    subst he
    obtain ⟨b, K, V, h, hr⟩ := id h
    refine (child_none (hideIt h) n i a c hn hi (hideIt (h.gone _ (Fo.hasnt hs).1))).mono ?_
    rintro _ w1 ⟨rfl, g1⟩
    exact ⟨rfl, (TAt.kept ⟨b, K, V, h, hr⟩ g1).mono (fun i e => .inl e), Fr.grown g1⟩
  | true =>
    rw [hs] at he
    simp only [if_true] at he ⊢
    cases hs2 : f.has (a, c) with
    | true =>
      rw [hs2] at he
      simp only [if_true] at he ⊢
      subst he
      have HH := gHas.of h a c ha hc true hs2
      obtain ⟨b, K, V, h, hr⟩ := id h
      obtain ⟨q, hq, _⟩ := h.mem _ _ (Fo.has_view hs)
      refine (child_twice (hideIt h) n i a c hn hi (hideIt hq) HH).mono ?_
      rintro _ w1 ⟨rfl, g1⟩
      exact ⟨rfl, (TAt.kept ⟨b, K, V, h, hr⟩ g1).mono (fun i e => .inl e), Fr.grown g1⟩
    | false =>
      rw [hs2] at he
      simp only [Bool.false_eq_true, if_false] at he ⊢
      subst he
      have HH := gHas.of h a c ha hc false hs2
      obtain ⟨b, K, V, h, hp, hb, hqs, hgs⟩ := h
      obtain ⟨q, hq, _⟩ := h.mem _ _ (Fo.has_view hs)
      refine (child_new (hideIt h) n i a c hn hi ha hc hm (hideIt hq) _ _ (hideIt (Fo.has_view hs)) (hideIt (Nat.le_trans (len_children _) hm)) (hideIt (h.gone _ (Fo.hasnt hs2).1)) (hideIt (Fo.hasnt hs2).1) HH).mono ?_
      rintro _ w1 ⟨rfl, q', v', h1, h2, h3, A, F⟩
      refine ⟨rfl, ⟨b, _, _, A.congr (fun x => ?_) (by rw [Fo.len_add G.nd (Fo.has_iff.1 hs)]), .inl hp, .inl hb, fun s r hs' => ?_, fun s r g hs' hg' => ?_⟩, F.mono (fun i' _ e => ?_)⟩
      · rw [Fo.view_add G.nd (Fo.has_iff.1 hs) (Fo.has_not.1 hs2)]
        by_cases e1 : x = (n, i)
        · have : (n, i) ≠ (a, c) := fun e => by rw [e, hs2] at hs; cases hs
          rw [e1, if_pos rfl, if_neg this, Fo.has_view hs]
          simp
        · rw [if_neg e1]
          by_cases e2 : x = (a, c)
          · rw [if_pos e2, if_pos e2]
          · rw [if_neg e2, if_neg e2]
            cases f.view none x <;> simp [e1]
      · by_cases e : s = (a, c)
        · simp only [if_pos e] at hs'; cases hs'; exact .inr ⟨h1, h2⟩
        · simp only [if_neg e] at hs'; exact .inl (hqs s r hs')
      · by_cases e1 : s = (n, i)
        · simp only [if_pos e1] at hg'
          rcases h3 with h3 | h3
          · exact .inl (hgs (n, i) q g hq (h3 ▸ hg'))
          · exact .inr (h3 g hg')
        · simp only [if_neg e1] at hg'
          by_cases e : s = (a, c)
          · simp only [if_pos e] at hg'; cases hg'
          · simp only [if_neg e] at hs' hg'; exact .inl (hgs s r g hs' hg')
      · rcases e with rfl | rfl | e
        · exact hb
        · exact hqs _ _ hq
        · exact hgs _ _ _ hq e

end T9
end Go.Proofs.YtdnoidnpiaadaaaGreat

/-
  THE CONTRACTS of package tree: adopt, replace.
-/
namespace Go.Proofs.YtdnoidnpiaadaaaGreat
set_option maxRecDepth 10000
namespace T9
open Go.RowKit
set_option linter.unusedVariables false

/-- Those of a list come of another one. -/
def M.adp (P : Vw) (l : List (Int × Int)) (o : Option (Int × Int)) : Vw := fun t => if t ∈ l then (P t).map (fun y => (o, y.2)) else P t
theorem M.adp_nil (P : Vw) (o : Option (Int × Int)) : M.adp P [] o = P := by funext t; simp [M.adp]
theorem M.adp_snoc (P : Vw) (l : List (Int × Int)) (c : Int × Int) (o o' : Option (Int × Int)) (ll : List (Int × Int)) (h : M.adp P l o c = some (o', ll)) : (fun t => if t = c then some (o, ll) else M.adp P l o t) = M.adp P (l ++ [c]) o := by
  funext t
  unfold M.adp at h ⊢
  by_cases e : t = c
  · subst e
    rw [if_pos rfl, if_pos (by simp)]
    by_cases hm : t ∈ l
    · rw [if_pos hm] at h
      cases hp : P t with
      | none => rw [hp] at h; cases h
      | some y => rw [hp] at h; simp at h; simp [h.2]
    · rw [if_neg hm] at h
      rw [h]; rfl
  · rw [if_neg e]
    by_cases hm : t ∈ l
    · rw [if_pos hm, if_pos (by simp [hm])]
    · rw [if_neg hm, if_neg (by simp [hm, e])]

/-- Three cells: what a slot comes of. -/
structure PBox (w : World) (x : Nat) (n i : Int) (f : Bool) : Prop where
  at0 : w.cell? ⟨x, 0, none⟩ = some (.int .i64 n)
  at1 : w.cell? ⟨x, 1, none⟩ = some (.int .i64 i)
  at2 : w.cell? ⟨x, 2, none⟩ = some (.bool f)
  lt : x < w.heap.size
theorem PBox.made (w : World) (n i : Int) (f : Bool) : PBox (w.alloc (.cells #[.int .i64 n, .int .i64 i, .bool f] 129)) w.heap.size n i f := ⟨by simp, by simp, by simp, by simp⟩
theorem PBox.fr {O : Nat → Prop} {w w' : World} {x : Nat} {n i : Int} {f : Bool} (X : PBox w x n i f) (h : Fr O w w') (ho : ¬ O x) : PBox w' x n i f := ⟨h.cell X.at0 ho, h.cell X.at1 ho, h.cell X.at2 ho, Nat.lt_of_lt_of_le X.lt h.size⟩
theorem PBox.kept {w w' : World} {x : Nat} {n i : Int} {f : Bool} (X : PBox w x n i f) (h : w.grownBy w' none) : PBox w' x n i f := X.fr (O := fun _ => False) (Fr.grown h) (fun e => e)
theorem pboxNew (w : World) (n i : Int) (f : Bool) : ∃ W, w.alloc (.cells #[.int .i64 n, .int .i64 i, .bool f] 129) = W ∧ PBox W w.heap.size n i f ∧ w.grownBy W none ∧ W.heap.size = w.heap.size + 1 := ⟨_, rfl, PBox.made w n i f, gbAlloc _ _ _, by simp⟩
theorem _root_.Go.Proofs.YtdnoidnpiaadaaaGreat.Row.fr {O : Nat → Prop} {w w' : World} {x : Addr} {L : List (Int × Int)} (h : Row w x L) (k : Fr O w w') (ho : ¬ O x.block) : Row w' x L :=
  fun i p hp => ⟨k.cell (h i p hp).at0 (by rw [add_block]; exact ho), k.cell (h i p hp).at1 (by simp only [add_block]; exact ho)⟩

/-- The members of a list's slots. -/
def M.own (L : List (Int × Int)) (K : Int × Int → Option Nat) (i : Nat) : Prop := ∃ c ∈ L, K c = some i
theorem sboxNew' (w : World) (n i : Int) : ∃ W, w.alloc (.cells #[.int .i64 n, .int .i64 i] 31) = W ∧ SBox W w.heap.size n i ∧ w.grownBy W none ∧ W.heap.size = w.heap.size + 1 := ⟨_, rfl, SBox.made w n i, gbAlloc _ _ _, by simp⟩

set_option maxHeartbeats 1000000 in
theorem adopt_row {w : World} {p b m g len cap : Nat} {K : Int × Int → Option Nat} {V : Int × Int → Value} {P : Vw} (h : Hid (TA w p b m K V P)) (L : List (Int × Int)) (hlen : Hid (L.length = len)) (hlen2 : len ≤ 1000) (HR : Hid (Row w ⟨g, 0, none⟩ L)) (on oa : Int) (ob : Bool) (o : Option (Int × Int)) (ho : Hid (oN o = on ∧ oA o = oa ∧ oB o = ob))
    (hin : Hid (∀ c ∈ L, I64 c.1 ∧ I64 c.2 ∧ P c ≠ none)) (hgq : Hid (∀ c q, K c = some q → g ≠ q)) :
    Calls Tryz.prog 123 #[.pointer (some ⟨p, 0, none⟩), .slice (some ⟨g, 0, none⟩) len cap, .agg #[.int .i64 on, .int .i64 oa, .bool ob]] w fun e w' => e = .returned (.tuple #[]) ∧ TA w' p b m K V (M.adp P L o) ∧ Fr (M.own L K) w w' := by
  go_enter Tryz.func123, Tryz.ntmps123
  go_upto_region 1 with fail
  obtain ⟨W, hW, X, g0, hs0⟩ := pboxNew w on oa ob
  rw [hW]
  clear hW
  go_wp2
  go_loopg [10] len (fun y i wr => ∃ j : Nat, j + y = len ∧ i = .int .i64 j ∧ Hid (TA wr p b m K V (M.adp P (L.take j) o)) ∧ Hid (Fr (M.own L K) W wr))
  case atStart => exact ⟨0, by omega, rfl, hideIt (by rw [List.take_zero, M.adp_nil]; exact h.out.kept g0), hideIt (Fr.refl _ _)⟩
  case round =>
    obtain ⟨j, hj, rfl, HA, HF⟩ := hrel
    by_cases hlt : j < len
    · have hlt' : (j : Int) < (len : Int) := by omega
      obtain ⟨⟨a, c⟩, hac⟩ : ∃ q, L[j]? = some q := ⟨_, List.getElem?_eq_getElem (by rw [hlen.out]; exact hlt)⟩
      have hmem : (a, c) ∈ L := List.mem_of_getElem? hac
      obtain ⟨ha, hc, hpn⟩ := hin.out _ hmem
      have E := ((HR.out.kept g0).fr HF.out (by rintro ⟨c', _, e⟩; exact hgq.out c' _ e rfl)) j _ hac
      rw [Addr.add_lit, Nat.zero_add] at E
      simp only at E
      have e0 := E.at0
      have e1 := E.at1
      obtain ⟨q, hq⟩ : ∃ q, K (a, c) = some q := by
        cases hk : K (a, c) with
        | some q => exact ⟨q, rfl⟩
        | none =>
          cases hp : P (a, c) with
          | none => exact absurd hp hpn
          | some y => obtain ⟨q, h1, _⟩ := h.out.mem _ _ hp; rw [hk] at h1; cases h1
      have Hq := hideIt hq
      have HMem := hideIt hmem
      have Hac := hideIt hac
      clear hac hmem hpn E hq
      go_upto_region 4 with fail
      obtain ⟨W2, hW2, Y, g2, hs2⟩ := sboxNew' wr a c
      rw [hW2]
      clear hW2 e0 e1
      have A2 := HA.out.kept g2
      obtain ⟨y, hy, hm2, hl2⟩ := A2.has Hq.out
      have y0 := Y.at0
      have y1 := Y.at1
      have c0 := A2.cell
      have lk := (A2.kept (gbDrew (gbRefl W2 none))).map.look a c ha hc
      rw [Hq.out] at lk
      have X2 := (X.fr HF.out (by rintro ⟨c', _, e⟩; obtain ⟨_, _, hm, _⟩ := h.out.has e; have := hm.lt; omega)).kept g2
      have x0 := X2.at0
      have x1 := X2.at1
      have x2 := X2.at2
      have q0 := hm2.c0
      have q1 := hm2.c1
      have q2 := hm2.c2
      have qf := hm2.fz
      have Hy := hideIt hy
      have HM2 := hideIt hm2
      clear hm2 hl2 hy A2
      go_wp2
      go_region
      obtain ⟨W3, hW3, HA3, HF3⟩ : ∃ W3, (((W2.setCell ⟨q, 0, none⟩ (.int .i64 on)).setCell ⟨q, 1, none⟩ (.int .i64 oa)).setCell ⟨q, 2, none⟩ (.bool ob)).drew = W3 ∧ Hid (TA W3 p b m K V (M.adp P (L.take (j + 1)) o)) ∧ Hid (Fr (M.own L K) W W3) := by
        obtain ⟨h1, h2, h3⟩ := ho.out
        obtain ⟨T, Gq⟩ := (HA.out.kept g2).setOf (s := (a, c)) (o := y.1) (l := y.2) Hq.out Hy.out o
        rw [h1, h2, h3] at T Gq
        refine ⟨_, rfl, hideIt ?_, hideIt ?_⟩
        · have e := M.adp_snoc P (L.take j) (a, c) o y.1 y.2 Hy.out
          have e2 : L.take (j + 1) = L.take j ++ [(a, c)] := by rw [List.take_add_one, Hac.out]; rfl
          rw [e2, ← e]
          exact T.kept (gbDrewN _ 1 none)
        · exact HF.out.join ((Fr.grown (O := fun i => i = q) g2).trans ((Fr.at (O := fun i => i = q) Gq rfl).trans (Fr.grown (gbDrew (gbRefl _ none))))) (fun i _ e => ⟨(a, c), HMem.out, by rw [e]; exact Hq.out⟩)
      rw [hW3]
      clear hW3
      go_wp2
      go_roundg (gk - 1)
      case rel => exact ⟨j + 1, by omega, by go_num, HA3, HF3⟩
      case measure => omega
    · have hlt' : ¬ (j : Int) < (len : Int) := by omega
      obtain rfl : j = len := by omega
      have HT : Hid (L.take j = L) := hideIt (List.take_of_length_le (by rw [hlen.out]; exact Nat.le_refl _))
      go_wp2
      exact bodyPost_end (results_none rfl _ _ _) rfl ⟨rfl, by have := HA.out; rw [HT.out] at this; exact this, (Fr.grown g0).trans HF.out⟩

set_option maxHeartbeats 400000 in
theorem adopt_nil (w : World) (p : Nat) (on oa : Int) (ob : Bool) :
    Calls Tryz.prog 123 #[.pointer (some ⟨p, 0, none⟩), .slice none 0 0, .agg #[.int .i64 on, .int .i64 oa, .bool ob]] w fun e w' => e = .returned (.tuple #[]) ∧ w.grownBy w' none := by
  go_enter Tryz.func123, Tryz.ntmps123
  go_wp2
  refine wp_loop_rounds 1 ?_
  rw [rounds_succ]
  go_wp2
  exact bodyPost_end (results_none rfl _ _ _) rfl ⟨rfl, gbAlloc _ _ _⟩
theorem adopt_is {w : World} {p b m : Nat} {K : Int × Int → Option Nat} {V : Int × Int → Value} {P : Vw} (h : TA w p b m K V P) (v : Value) (L : List (Int × Int)) (hv : Lst w 0 v L) (hl : L.length ≤ 1000) (on oa : Int) (ob : Bool) (o : Option (Int × Int)) (ho : oN o = on ∧ oA o = oa ∧ oB o = ob)
    (hin : ∀ c ∈ L, I64 c.1 ∧ I64 c.2 ∧ P c ≠ none) (hgq : ∀ g c q, v.ownBlock = some g → K c = some q → g ≠ q) :
    Calls Tryz.prog 123 #[.pointer (some ⟨p, 0, none⟩), v, .agg #[.int .i64 on, .int .i64 oa, .bool ob]] w fun e w' => e = .returned (.tuple #[]) ∧ TA w' p b m K V (M.adp P L o) ∧ Fr (M.own L K) w w' := by
  rcases hv.form with ⟨rfl, rfl⟩ | ⟨g, cap, rfl, _, _, _, _, hr⟩
  · refine (adopt_nil w p on oa ob).mono ?_
    rintro _ w1 ⟨rfl, g1⟩
    exact ⟨rfl, by rw [M.adp_nil]; exact h.kept g1, Fr.grown g1⟩
  · exact adopt_row (hideIt h) L (hideIt rfl) hl (hideIt hr) on oa ob o (hideIt ho) (hideIt hin) (hideIt (fun c q hq => hgq g c q rfl hq))

/-! ### replace -/
set_option maxHeartbeats 1000000 in
theorem rep_top {w : World} {p b m q : Nat} {K : Int × Int → Option Nat} {V : Int × Int → Value} {P : Vw} (h : Hid (TA w p b m K V P)) (n i : Int) (hn : I64 n) (hi : I64 i) (hk : Hid (K (n, i) = some q)) (l : List (Int × Int)) (hp : Hid (P (n, i) = some (none, l))) (vb : Value) :
    Calls Tryz.prog 124 #[.pointer (some ⟨p, 0, none⟩), sv n i, vb] w fun e w' => e = .returned (.tuple #[]) ∧ w.grownBy w' none := by
  go_enter Tryz.func124, Tryz.ntmps124
  go_upto_region 1 with fail
  obtain ⟨W, hW, X, g0, hs0⟩ := sboxNew' w n i
  rw [hW]
  clear hW
  have A0 := h.out.kept g0
  obtain ⟨y, hy, hm, hl⟩ := A0.has hk.out
  rw [hp.out] at hy; cases hy
  have x0 := X.at0
  have x1 := X.at1
  have c0 := A0.cell
  have lk := (A0.kept (gbDrew (gbRefl W none))).map.look n i hn hi
  rw [hk.out] at lk
  have q0 := hm.c0
  have q1 := hm.c1
  have q2 := hm.c2
  simp only [oN, oA, oB] at q0 q1 q2
  have lk2 := (A0.kept (gbDrew (gbAllocN (gbRefl W none) (.cells #[.int .i64 0, .int .i64 0, .bool false] 129)))).map.look n i hn hi
  rw [hk.out] at lk2
  have ga : W.grownBy (W.alloc (.cells #[.int .i64 0, .int .i64 0, .bool false] 129)) none := gbAllocN (gbRefl W none) _
  have c0' := ga.cell c0 (by simp)
  have x0' := ga.cell x0 (by simp)
  have x1' := ga.cell x1 (by simp)
  have q0' := ga.cell q0 (by simp)
  have q1' := ga.cell q1 (by simp)
  have q2' := ga.cell q2 (by simp)
  clear hm hl A0 hs0
  go_wp2
  go_region
  all_goals (go_wp2; exact bodyPost_ret (results_none rfl _ _ _) rfl ⟨rfl, gbDrew (gbAllocN g0 _)⟩)

set_option maxRecDepth 10000 in
set_option maxHeartbeats 1000000 in
theorem rep_in {w : World} {p b m q qx j j1 len cap g : Nat} {K : Int × Int → Option Nat} {V : Int × Int → Value} {P : Vw} (h : Hid (TA w p b m K V P)) (n i xn xi : Int) (hn : I64 n) (hi : I64 i) (hxn : I64 xn) (hxi : I64 xi) (hk : Hid (K (n, i) = some q)) (l : List (Int × Int)) (hp : Hid (P (n, i) = some (some (xn, xi), l)))
    (hkx : Hid (K (xn, xi) = some qx)) (o : Option (Int × Int)) (lx : List (Int × Int)) (hpx : Hid (P (xn, xi) = some (o, lx))) (hv : Hid (V (xn, xi) = .slice (some ⟨g, 0, none⟩) len cap)) (hlen : Hid (lx.length = len)) (hlen2 : len ≤ 1000) (hj : Hid (lx[j]? = some (n, i))) (hjf : Hid (∀ k, k < j → lx[k]? ≠ some (n, i))) (hj1 : j + 1 = j1)
    (vb : Value) (Kl : List (Int × Int)) (HB : Hid (Lst w 0 vb Kl)) (hbl : Hid (Kl.length ≤ 1000)) (hne : Hid (vb.ownBlock ≠ some g)) :
    Calls Tryz.prog 124 #[.pointer (some ⟨p, 0, none⟩), sv n i, vb] w fun e w' => e = .returned (.tuple #[]) ∧ ∃ v', (v'.ownBlock = some g ∨ ∀ g', v'.ownBlock = some g' → w.heap.size ≤ g' ∧ g' < w'.heap.size) ∧
      TA w' p b m K (fun t => if t = (xn, xi) then v' else V t) (fun t => if t = (xn, xi) then some (o, lx.take j ++ (Kl ++ lx.drop j1)) else P t) ∧ Fr (fun i' => i' = qx ∨ i' = g) w w' := by
  go_enter Tryz.func124, Tryz.ntmps124
  go_upto_region 1 with fail
  obtain ⟨W, hW, X, g0, hs0⟩ := sboxNew' w n i
  rw [hW]
  clear hW
  have A0 := h.out.kept g0
  obtain ⟨y, hy, hm, hl⟩ := A0.has hk.out
  rw [hp.out] at hy; cases hy
  have x0 := X.at0
  have x1 := X.at1
  have c0 := A0.cell
  have lk := (A0.kept (gbDrew (gbRefl W none))).map.look n i hn hi
  rw [hk.out] at lk
  have q0 := hm.c0
  have q1 := hm.c1
  have q2 := hm.c2
  simp only [oN, oA, oB] at q0 q1 q2
  have lk2 := (A0.kept (gbDrew (gbAllocN (gbRefl W none) (.cells #[.int .i64 0, .int .i64 0, .bool false] 129)))).map.look n i hn hi
  rw [hk.out] at lk2
  have ga : W.grownBy (W.alloc (.cells #[.int .i64 0, .int .i64 0, .bool false] 129)) none := gbAllocN (gbRefl W none) _
  have c0' := ga.cell c0 (by simp)
  have x0' := ga.cell x0 (by simp)
  have x1' := ga.cell x1 (by simp)
  have q0' := ga.cell q0 (by simp)
  have q1' := ga.cell q1 (by simp)
  have q2' := ga.cell q2 (by simp)
  clear hm hl A0 hs0
  go_wp2
  go_region
  all_goals (
    clear c0' x0' x1' q0' q1' q2' c0 x0 x1 q0 q1 q2 lk lk2 ga
    obtain ⟨W1, hW1, Z, g1⟩ : ∃ W1, (W.alloc (.cells #[.int .i64 xn, .int .i64 xi, .bool true] 129)).drew = W1 ∧ PBox W1 W.heap.size xn xi true ∧ W.grownBy W1 none := ⟨_, rfl, (PBox.made W xn xi true).kept (gbDrew (gbRefl _ none)), gbDrew (gbAllocN (gbRefl _ none) _)⟩
    rw [hW1]
    clear hW1
    have z2 := Z.at2
    have A1 := hideIt (h.out.kept (gbTrans g0 g1))
    go_upto_region 3 with fail
    have c0 : ∀ y : Gr W1, y.w.cell? ⟨p, 0, none⟩ = some (.map (some b)) := fun y => (A1.out.kept y.g).cell
    have z0 : ∀ y : Gr W1, y.w.cell? ⟨W.heap.size, 0, none⟩ = some (.int .i64 xn) := fun y => (Z.kept y.g).at0
    have z1 : ∀ y : Gr W1, y.w.cell? ⟨W.heap.size, 1, none⟩ = some (.int .i64 xi) := fun y => (Z.kept y.g).at1
    have lk : ∀ y : Gr W1, (Instr.lookup 117 (.map (some b)) (sv xn xi) false).run Tryz.prog y.w = .ok (ptr (some qx)) y.w := fun y => by rw [← hkx.out]; exact (A1.out.kept y.g).map.look xn xi hxn hxi
    refine wp_region_grown (by kernel_rfl) (by kernel_rfl) fun _ => ?_
    repeat (go_big_quiet_step (fail))
    refine wpQuiet_nil ?_
    rintro W2 ⟨⟨_, g2⟩, rfl⟩
    clear c0 z0 z1 z2 lk
    have G2 := gbTrans (gbTrans g0 g1) g2
    have A2 := hideIt (h.out.kept G2)
    obtain ⟨yx, hyx, hmx, hlx⟩ := A2.out.has hkx.out
    rw [hpx.out] at hyx; cases hyx
    rw [hv.out] at hmx hlx
    have HMx := hideIt hmx
    have HLx := hideIt hlx
    have HRx := hideIt (Lst.rowOf hlx)
    have X2 := X.kept (gbTrans g1 g2)
    have x0 : ∀ y : Gr W2, y.w.cell? ⟨w.heap.size, 0, none⟩ = some (.int .i64 n) := fun y => (X2.kept y.g).at0
    have x1 : ∀ y : Gr W2, y.w.cell? ⟨w.heap.size, 1, none⟩ = some (.int .i64 i) := fun y => (X2.kept y.g).at1
    have q3 : ∀ y : Gr W2, y.w.cell? ⟨qx, 3, none⟩ = some (.slice (some ⟨g, 0, none⟩) len cap) := fun y => y.g.cell HMx.out.c3 (by simp)
    have HI : ∀ y : Gr W2, Calls Tryz.prog 135 #[.slice (some ⟨g, 0, none⟩) len cap, sv n i] y.w fun e w' => e = .returned (.int .i64 j) ∧ y.w.grownBy w' none := fun y => index_row y.w g len cap j n i lx hlen hlen2 (hideIt (HRx.out.kept y.g)) hj hjf
    clear hmx hlx
    go_wp2
    refine wp_region_grown (by kernel_rfl) (by kernel_rfl) fun _ => ?_
    repeat (go_big_quiet_step ((go_at_call 135; with_reducible exact callsGr (HI _))))
    refine wpQuiet_nil ?_
    rintro W3 ⟨⟨_, g3⟩, rfl⟩
    clear x0 x1 q3 HI
    have G3 := gbTrans G2 g3
    have q3 := g3.cell HMx.out.c3 (by simp)
    have hj1' : (j : Int) + 1 = (j1 : Int) := by omega
    have hjl : Hid (j < lx.length) := hideIt (List.getElem?_eq_some_iff.1 hj.out).1
    have hj1b : j1 ≤ 1000 := by have := hjl.out; rw [hlen.out] at this; omega
    have hl1 : Hid (lx.length ≤ 1000) := hideIt (by rw [hlen.out]; exact hlen2)
    go_wp2_with fail
    refine (replace_is (HLx.out.kept g3) (HB.out.kept G3) (fun g' e => by cases e; exact hne.out) j hjl.out hl1.out hbl.out j1 hj1).mono ?_
    rintro _ W4 ⟨v4, rfl, l4, g4, o4⟩
    obtain ⟨ox, k4, c4, rfl⟩ : ∃ ox k4 c4, v4 = .slice ox k4 c4 := by
      rcases l4.form with ⟨rfl, _⟩ | ⟨_, _, rfl, _⟩
      · exact ⟨_, _, _, rfl⟩
      · exact ⟨_, _, _, rfl⟩
    have A3 := h.out.kept G3
    have hgq : g ≠ qx := A3.gq hkx.out (by rw [hv.out]; rfl) hkx.out
    have M4 : MemAt W4 qx o (.slice (some ⟨g, 0, none⟩) len cap) := (HMx.out.fr (O := fun _ => False) (Fr.grown g3) (fun e => e)).fr (O := fun i' => i' = g) (Fr.at g4 rfl) (fun e => hgq e.symm)
    obtain ⟨T, F⟩ := A3.setCh (s := (xn, xi)) (o := o) (l := lx) (w1 := W4) (v' := .slice ox k4 c4) (l' := lx.take j ++ (Kl ++ lx.drop j1)) hkx.out hpx.out (by rw [hv.out]; exact g4) l4 (by
      rw [hv.out]
      exact o4)
    rw [hv.out] at F
    have HT := hideIt T
    have HF : Hid (Fr (fun i' => i' = qx ∨ i' = g) w (W4.setCell ⟨qx, 3, none⟩ (.slice ox k4 c4))) := hideIt ((Fr.grown G3).trans (F.mono (fun i' _ e => by
      rcases e with e | e
      · exact .inl e
      · exact .inr (by simpa [Value.ownBlock] using e.symm))))
    have HO : Hid ((Value.slice ox k4 c4).ownBlock = some g ∨ ∀ g', (Value.slice ox k4 c4).ownBlock = some g' → w.heap.size ≤ g' ∧ g' < (W4.setCell ⟨qx, 3, none⟩ (.slice ox k4 c4)).heap.size) := hideIt (by
      rcases o4 with e | e
      · exact .inl e
      · exact .inr (fun g' hg' => ⟨Nat.le_trans G3.size (e g' hg'), by
          have := (l4.lt g' hg').2
          simpa [World.setCell] using this⟩))
    have q4 := M4.c3
    have f4 := M4.fz
    clear q3 l4 T F o4 M4 A3
    go_wp2
    exact bodyPost_end (results_none rfl _ _ _) rfl ⟨rfl, _, HO.out, HT.out, HF.out⟩)

end T9
end Go.Proofs.YtdnoidnpiaadaaaGreat
