/- MovesRefused holds for every input: works, and then, whatever acts come in (at most fifty are played), an act that answers an error leaves Full, what is in both its slots and the kin of the first as they were. No condition. -/
import Derived.Test.YtkpcdfiebjigbaaWks
import Derived.Test.YtkpcdfiebjigbaaOpq
import Derived.Deep.Cut
import Derived.Deep.CutRange
import Derived.Deep.DeepCutAuto
import Derived.Deep.CutBlock
import Derived.Deep.RegionHeld3
import Derived.Deep.LoopGhost
import Derived.Test.YtkpcdfiebjigbaaArgs
import Derived.ProofKit
import Derived.OpenShut
import Derived.ShutString
import Derived.ChangeOld
import Derived.Below
import Derived.Deep.Slices
namespace Go.Proofs.Ytkpcdfiebjigbaa.movesRefused
open Go.ChangeShapes Go.WideShapes Go.ChangeAt Go.RowKit
set_option linter.unusedVariables false

theorem own : ownKnob Try.prog.godebug = none := by kernel_rfl
theorem laidOut : laidOutB Try.prog = true := by kernel_rfl

abbrev Rf (w : World) (p s t X Z7 Z9 Z13 Z15 : Nat) (a a2 : Int) (c d : C) : Prop := Ptr w p 0 s ∧ Ptr w p 1 t ∧ (w.cell? ⟨X, 1, none⟩ = some (.int .i64 a) ∧ w.cell? ⟨X, 2, none⟩ = some (.int .i64 a2)) ∧ Six w Z7 c ∧ Six w Z9 d ∧ Six w Z13 c ∧ Six w Z15 d
theorem Six.kept {w w' : World} {x : Nat} {c : C} (h : Six w x c) (g : w.grownBy w' none) : Six w' x c := by
  obtain ⟨z0, z1, z2, z3, z4, z5⟩ := h
  exact ⟨g.cell z0 (by simp), g.cell z1 (by simp), g.cell z2 (by simp), g.cell z3 (by simp), g.cell z4 (by simp), g.cell z5 (by simp)⟩
theorem Rf.kept {w w' : World} {p s t X Z7 Z9 Z13 Z15 : Nat} {a a2 : Int} {c d : C} (h : Rf w p s t X Z7 Z9 Z13 Z15 a a2 c d) (g : w.grownBy w' none) : Rf w' p s t X Z7 Z9 Z13 Z15 a a2 c d := by
  obtain ⟨h1, h2, ⟨h3, h4⟩, h5, h6, h7, h8⟩ := h
  exact ⟨g.cell h1 (by simp), g.cell h2 (by simp), ⟨g.cell h3 (by simp), g.cell h4 (by simp)⟩, Six.kept h5 g, Six.kept h6 g, Six.kept h7 g, Six.kept h8 g⟩
set_option maxRecDepth 10000 in
set_option maxHeartbeats 8000000 in
theorem core (xo : Option Addr) (len cap : Nat) (w : World) (HX : Hid (∀ i, i < len → ∃ x q, xo = some x ∧ El18 w (x.add (i * 18)) q ∧ Op18 q)) :
    Calls Try.prog 5 #[.slice xo len cap] w fun e w' => e = .returned (.bool true) ∧ Below w.heap.size w w' := by
  have qn := run_neq_cap
  have qg := eqGuardCap
  go_enter Try.func5, Try.ntmps5
  go_wp2_with fail
  refine (works_is _).mono ?_
  rintro _ w1 ⟨rfl, g1⟩
  go_wp2_with fail
  refine (newCaps g1).mono ?_
  rintro _ w2 ⟨p, s, t, rfl, A, _⟩
  have H2 := hideIt A
  clear A g1
  go_wp2_with fail
  refine (H2.out.nodeA 0 3 0 (i64s _ (by decide) (by decide)) (by decide) (by decide +kernel)).mono ?_
  rintro _ w3 ⟨rfl, A, _⟩
  have H3 := hideIt A
  clear A H2
  go_wp2_with fail
  refine (H3.out.nodeA 1 3 0 (i64s _ (by decide) (by decide)) (by decide) (by decide +kernel)).mono ?_
  rintro _ w4 ⟨rfl, A, _⟩
  have H4 := hideIt A
  clear A H3
  have I4 : Hid (M.Inv (M.addS (M.addS (fun _ => none) 0 3) 1 3) .nil) := (M.Inv.none.same (fun x => M.gc_add _ _ _ x)).same (fun x => M.gc_add _ _ _ x)
  generalize M.addS (M.addS (fun _ => none) 0 3) 1 3 = S4 at H4 I4
  go_wp2
  go_loopg [4] 50 (fun y i wr => ∃ (j : Nat) (S : St) (f : T9.Fo) (O : Nat → Prop), j + y = 50 ∧ i = .int .i64 j ∧ Hid (Cs w wr O p s t 2 S f) ∧ Hid (M.Inv S f) ∧ Hid (f.len ≤ j))
  case atStart => exact ⟨0, S4, .nil, _, by omega, rfl, H4, I4, Nat.le_refl 0⟩
  case round =>
    obtain ⟨j, S, f, O, hj, rfl, HC, HI, HL⟩ := hrel
    by_cases hlt : j < len ∧ j < 50
    · obtain ⟨hlt, hlt2⟩ := hlt
      have hlt' : (j : Int) < (len : Int) := by omega
      have hlt2' : (j : Int) < 50 := by omega
      obtain ⟨x, q, rfl, E0, QQ⟩ := HX.out j hlt
      have E := hideIt (E0.kept HC.out.gr)
      clear E0
      have hm : f.len ≤ 1000 := Nat.le_trans HL.out (by omega)
      go_upto_region 10 with (first | (refine wpList_load_op rfl _ rfl _ q rfl E.out ?_) | (refine wpList_store_op rfl _ _ rfl _ q rfl rfl (opZero wr).1 (opZero wr).2 ?_; intro W5 B5 g5))
      have g5' : wr.grownBy W5 none := gbNew (gbTrans (gbAlloc _ _ _) g5) (Nat.le_refl _)
      have HC5 := hideIt (HC.out.kept g5')
      have HO5 : Hid (OB W5 O wr.heap.size q) := ⟨B5, fun e => absurd (HC.out.lo _ e).2 (Nat.lt_irrefl _)⟩
      clear HC g5 g5' E B5
      obtain ⟨k0, a, a2, b, b2, d, d2, ⟨ck, co, cr, cb, cg, cn⟩, n, rt, bd, gd, bt⟩ := q
      obtain ⟨ik, ia, ia2, ib, ib2, idd, id2, inn, hcb, hcg, hbd, hgd⟩ := QQ
      simp only at ik ia ia2 ib ib2 idd id2 inn hcb hcg hbd hgd
      have c0 := HC5.out.c0
      go_wp2_with fail
      refine (HC5.out.full).mono ?_
      rintro _ w6 ⟨vf, rfl, lf, g6⟩
      have LF6 := hideIt (LB.new HC5.out lf)
      have HC6 := hideIt (HC5.out.kept g6)
      have HO6 := hideIt (HO5.out.kept g6)
      clear lf c0 g6 HC5 HO5
      obtain ⟨⟨xk, xq, xr, xb, xg, xn⟩, hx⟩ : ∃ x, M.gc S (a, a2) = x := ⟨_, rfl⟩
      obtain ⟨ex, hex⟩ : ∃ x, M.getE S a a2 = x := ⟨_, rfl⟩
      obtain ⟨⟨yk, yq, yr, yb, yg, yn⟩, hy⟩ : ∃ x, M.gc S (b, b2) = x := ⟨_, rfl⟩
      obtain ⟨ey, hey⟩ : ∃ x, M.getE S b b2 = x := ⟨_, rfl⟩
      have HXX := hideIt hx
      have HEX := hideIt hex
      have HYY := hideIt hy
      have HEY := hideIt hey
      clear hx hex hy hey
      go_upto_region 11 with fail
      go_cut [7, 8] from 43 to 52 (fun sz se wc => ∃ Z : Nat, sz = .pointer (some ⟨Z, 0, none⟩) ∧ se = .int .i64 ex ∧ Hid (Box wc Z ⟨xk, xq, xr, xb, xg, xn⟩) ∧ Hid (w6.heap.size ≤ Z) ∧ Hid (w6.grownBy wc none))
      case first =>
        have T0b : Rx w6 p 0 s wr.heap.size 1 2 a a2 := ⟨HC6.out.c0, HO6.out.ob.at1, HO6.out.ob.at2⟩
        have T0 : Rx w6.drew p 0 s wr.heap.size 1 2 a a2 := T0b.kept (gbDrewN w6 1 none)
        go_region_held3 (fun w' => Rx w' p 0 s wr.heap.size 1 2 a a2)
          (first | with_reducible exact T0 | (focus (refine Rx.kept T0b ?_; (repeat (first | with_reducible exact G6 | with_reducible exact gbRefl w6 none | with_reducible refine gbDrew ?_ | with_reducible refine gbAllocN ?_ _ | with_reducible refine gbSetNew ?_ _ _ _ (by with_reducible first | exact Nat.le_refl _ | exact G6.size))); done)) | fail)
          ((first | (go_at_call 17; refine ((HC6.out.kept (by repeat (first | with_reducible exact gbRefl w6 none | with_reducible refine gbDrew ?_ | with_reducible refine gbAllocN ?_ _))).get a a2 _ _ _ _ _ _ _ ia HXX.out HEX.out).mono ?_; rintro _ u6 ⟨rfl, g6⟩; have hc6 := gcell g6; have hf6 := gfroz g6; have G6 : w6.grownBy u6 none := (by first | exact gbTrans (gbDrewN w6 1 none) g6 | exact gbTrans (gbDrew (gbAllocN (gbRefl w6 none) _)) g6)) | fail))
        · rename_i hold
          clear hold T0
          obtain ⟨W6, hW6, Z6, g7⟩ := boxNew u6 ⟨xk, xq, xr, xb, xg, xn⟩
          simp only at hW6
          rw [hW6]
          go_wp2
          go_meet
          exact ⟨_, rfl, rfl, Z6, G6.size, gbTrans G6 g7⟩
        · rename_i hold
          clear hold T0
          have Z0 : Box u6 w6.heap.size C.zero := ((Box.made w6 C.zero).kept (gbDrew (gbRefl _ none))).kept g6
          obtain ⟨W6, hW6, Z6, g7⟩ := Z0.put ⟨xk, xq, xr, xb, xg, xn⟩
          simp only at hW6
          rw [hW6]
          go_wp2
          go_meet
          exact ⟨_, rfl, rfl, Z6, Nat.le_refl _, gbNew (gbTrans (gbAny G6 _) g7) (Nat.le_refl _)⟩
      case rest =>
      obtain ⟨Z7, rfl, rfl, HZ7, hZ7, G7⟩ := hcut
      obtain ⟨w7, hw7⟩ : ∃ w7, w7 = wc := ⟨_, rfl⟩
      subst hw7
      have HC7 := hideIt (HC6.out.kept G7.out)
      have HO7 := hideIt (HO6.out.kept G7.out)
      have LF7 := hideIt (LF6.out.kept G7.out)
      have B7 : Hid (BB w7 O Z7 ⟨xk, xq, xr, xb, xg, xn⟩) := ⟨HZ7.out, fun e => absurd (HC6.out.lo _ e).2 (Nat.not_lt.2 hZ7.out)⟩
      clear HC6 HO6 LF6 HZ7 hZ7 G7
      go_upto_region 12 with fail
      go_cut [9, 10] from 53 to 62 (fun sz se wc => ∃ Z : Nat, sz = .pointer (some ⟨Z, 0, none⟩) ∧ se = .int .i64 ey ∧ Hid (Box wc Z ⟨yk, yq, yr, yb, yg, yn⟩) ∧ Hid (w7.heap.size ≤ Z) ∧ Hid (w7.grownBy wc none))
      case first =>
        have T0b : Rx w7 p 0 s wr.heap.size 3 4 b b2 := ⟨HC7.out.c0, HO7.out.ob.at3, HO7.out.ob.at4⟩
        have T0 : Rx w7.drew p 0 s wr.heap.size 3 4 b b2 := T0b.kept (gbDrewN w7 1 none)
        go_region_held3 (fun w' => Rx w' p 0 s wr.heap.size 3 4 b b2)
          (first | with_reducible exact T0 | (focus (refine Rx.kept T0b ?_; (repeat (first | with_reducible exact G6 | with_reducible exact gbRefl w7 none | with_reducible refine gbDrew ?_ | with_reducible refine gbAllocN ?_ _ | with_reducible refine gbSetNew ?_ _ _ _ (by with_reducible first | exact Nat.le_refl _ | exact G6.size))); done)) | fail)
          ((first | (go_at_call 17; refine ((HC7.out.kept (by repeat (first | with_reducible exact gbRefl w7 none | with_reducible refine gbDrew ?_ | with_reducible refine gbAllocN ?_ _))).get b b2 _ _ _ _ _ _ _ ib HYY.out HEY.out).mono ?_; rintro _ u6 ⟨rfl, g6⟩; have hc6 := gcell g6; have hf6 := gfroz g6; have G6 : w7.grownBy u6 none := (by first | exact gbTrans (gbDrewN w7 1 none) g6 | exact gbTrans (gbDrew (gbAllocN (gbRefl w7 none) _)) g6)) | fail))
        · rename_i hold
          clear hold T0
          obtain ⟨W6, hW6, Z6, g7⟩ := boxNew u6 ⟨yk, yq, yr, yb, yg, yn⟩
          simp only at hW6
          rw [hW6]
          go_wp2
          go_meet
          exact ⟨_, rfl, rfl, Z6, G6.size, gbTrans G6 g7⟩
        · rename_i hold
          clear hold T0
          have Z0 : Box u6 w7.heap.size C.zero := ((Box.made w7 C.zero).kept (gbDrew (gbRefl _ none))).kept g6
          obtain ⟨W6, hW6, Z6, g7⟩ := Z0.put ⟨yk, yq, yr, yb, yg, yn⟩
          simp only at hW6
          rw [hW6]
          go_wp2
          go_meet
          exact ⟨_, rfl, rfl, Z6, Nat.le_refl _, gbNew (gbTrans (gbAny G6 _) g7) (Nat.le_refl _)⟩
      case rest =>
      obtain ⟨Z9, rfl, rfl, HZ9, hZ9, G9⟩ := hcut
      obtain ⟨w8, hw8⟩ : ∃ w7, w7 = wc := ⟨_, rfl⟩
      subst hw8
      have HC8 := hideIt (HC7.out.kept G9.out)
      have HO8 := hideIt (HO7.out.kept G9.out)
      have LF8 := hideIt (LF7.out.kept G9.out)
      have B8 := hideIt (B7.out.kept G9.out)
      have D8 : Hid (BB w8 O Z9 ⟨yk, yq, yr, yb, yg, yn⟩) := ⟨HZ9.out, fun e => absurd (HC7.out.lo _ e).2 (Nat.not_lt.2 hZ9.out)⟩
      clear HC7 HO7 LF7 B7 HZ9 hZ9 G9
      go_upto_region 13 with fail
      have T0 : Rx w8.drew p 1 t wr.heap.size 1 2 a a2 := Rx.kept ⟨HC8.out.c1, HO8.out.ob.at1, HO8.out.ob.at2⟩ (gbDrewN w8 1 none)
      go_region_held3 (fun w' => Rx w' p 1 t wr.heap.size 1 2 a a2)
        (first | with_reducible exact T0 | with_reducible exact T1 | fail)
        ((first | (go_at_call 18; refine ((HC8.out.kept (gbDrewN w8 1 none)).kin a a2 ia ia2 hm).mono ?_; rintro _ w9 ⟨vk, rfl, lk, g6⟩; have Gw9 : w8.grownBy w9 none := gbTrans (gbDrewN w8 1 none) g6; have T1 : Rx w9 p 1 t wr.heap.size 1 2 a a2 := T0.kept g6; have LK9 := hideIt (LB.new (HC8.out.kept (gbDrewN w8 1 none)) lk); clear lk; clear g6) | fail))
      rename_i hold
      clear hold T0 T1
      have HC9 := hideIt (HC8.out.kept Gw9)
      have HO9 := hideIt (HO8.out.kept Gw9)
      have LF9 := hideIt (LF8.out.kept Gw9)
      have B9 := hideIt (B8.out.kept Gw9)
      have D9 := hideIt (D8.out.kept Gw9)
      clear HC8 HO8 LF8 B8 D8 Gw9
      have e0 := HO9.out.ob.at0
      simp only at e0
      go_upto_block 2 with fail
      clear e0
      go_cut [12] from 72 to 145 (fun s12 wc => ∃ (e : Int) (S' : St) (f' : T9.Fo) (O' : Nat → Prop), s12 = .int .i64 e ∧ Hid (Cs w wc O' p s t 2 S' f') ∧ Hid (M.Inv S' f') ∧ Hid (f'.len ≤ j + 1) ∧ Hid (e ≠ 0 → S' = S ∧ f' = f) ∧ Hid (OB wc O' wr.heap.size ⟨k0, a, a2, b, b2, d, d2, ⟨ck, co, cr, cb, cg, cn⟩, n, rt, bd, gd, bt⟩) ∧ Hid (LB wc O' vf (M.full S)) ∧ Hid (LB wc O' vk (f.kin (a, a2))) ∧ Hid (BB wc O' Z7 ⟨xk, xq, xr, xb, xg, xn⟩) ∧ Hid (BB wc O' Z9 ⟨yk, yq, yr, yb, yg, yn⟩))
      case first =>
        obtain ⟨e0, e1, e2, e3, e4, e5, e6, e7, e8, e9, e10, e11, e12, e13, e14, e15, e16, e17, _⟩ := HO9.out.ob
        simp only at e0 e1 e2 e3 e4 e5 e6 e7 e8 e9 e10 e11 e12 e13 e14 e15 e16 e17
        have hne : ∀ v : Int, ¬ k0 = v → (k0 == v) = false := fun v h => by simpa using h
        by_cases q2 : k0 = 2
        · subst q2
          clear hne
          go_wp2_with fail
          refine (HC9.out.plant HI.out a a2 ck co cr cb cg cn _ ia ia2 hcb hcg hm rfl).mono ?_
          rintro _ wf ⟨rfl, A, F⟩
          have HA := hideIt A
          have HO := hideIt (HO9.out.call F)
          have LF := hideIt (LF9.out.call F)
          have LK := hideIt (LK9.out.call F)
          have HB := hideIt (B9.out.call F)
          have HD := hideIt (D9.out.call F)
          clear A F e0 e1 e2 e3 e4 e5 e6 e7 e8 e9 e10 e11 e12 e13 e14 e15 e16 e17
          go_wp2
          go_meet
          exact ⟨_, _, _, _, rfl, HA, hideIt (HI.out.pla (a, a2) hcb hcg), hideIt (Nat.le_trans (M.len_pla S f (a, a2) _) (Nat.succ_le_succ HL.out)), hideIt (fun h => M.pla_no h), HO, LF, LK, HB, HD⟩
        · have z2 := hne 2 q2
          by_cases q3 : k0 = 3
          · subst q3
            clear hne
            go_wp2_with fail
            refine (HC9.out.childA HI.out a a2 b b2 ck co cr cb cg cn _ ia ia2 ib ib2 hcb hcg hm rfl).mono ?_
            rintro _ wf ⟨rfl, A, F⟩
            have HA := hideIt A
            have HO := hideIt (HO9.out.call F)
            have LF := hideIt (LF9.out.call F)
            have LK := hideIt (LK9.out.call F)
            have HB := hideIt (B9.out.call F)
            have HD := hideIt (D9.out.call F)
            clear A F e0 e1 e2 e3 e4 e5 e6 e7 e8 e9 e10 e11 e12 e13 e14 e15 e16 e17
            go_wp2
            go_meet
            exact ⟨_, _, _, _, rfl, HA, hideIt (HI.out.chi (a, a2) (b, b2) hcb hcg), hideIt (Nat.le_trans (M.len_chi S HC9.out.gt (a, a2) (b, b2) _) (Nat.succ_le_succ HL.out)), hideIt (fun h => M.chi_no h), HO, LF, LK, HB, HD⟩
          · have z3 := hne 3 q3
            by_cases q4 : k0 = 4
            · subst q4
              clear hne
              go_wp2_with fail
              refine (HC9.out.copy HI.out a a2 b b2 rt _ ia ia2 ib ib2 hm rfl).mono ?_
              rintro _ wf ⟨rfl, A, F⟩
              have HA := hideIt A
              have HO := hideIt (HO9.out.call F)
              have LF := hideIt (LF9.out.call F)
              have LK := hideIt (LK9.out.call F)
              have HB := hideIt (B9.out.call F)
              have HD := hideIt (D9.out.call F)
              clear A F e0 e1 e2 e3 e4 e5 e6 e7 e8 e9 e10 e11 e12 e13 e14 e15 e16 e17
              go_wp2
              go_meet
              exact ⟨_, _, _, _, rfl, HA, hideIt (HI.out.cop (a, a2) (b, b2) rt), hideIt (Nat.le_trans (M.len_cop S HC9.out.gt (a, a2) (b, b2) rt) (Nat.succ_le_succ HL.out)), hideIt (fun h => M.cop_no h), HO, LF, LK, HB, HD⟩
            · have z4 := hne 4 q4
              by_cases q5 : k0 = 5
              · subst q5
                clear hne
                go_wp2_with fail
                refine (HC9.out.mint HI.out a a2 b b2 rt bd gd bt _ ia ia2 ib ib2 hbd hgd hm rfl).mono ?_
                rintro _ wf ⟨rfl, A, F⟩
                have HA := hideIt A
                have HO := hideIt (HO9.out.call F)
                have LF := hideIt (LF9.out.call F)
                have LK := hideIt (LK9.out.call F)
                have HB := hideIt (B9.out.call F)
                have HD := hideIt (D9.out.call F)
                clear A F e0 e1 e2 e3 e4 e5 e6 e7 e8 e9 e10 e11 e12 e13 e14 e15 e16 e17
                go_wp2
                go_meet
                exact ⟨_, _, _, _, rfl, HA, hideIt (HI.out.min (a, a2) (b, b2) hbd hgd), hideIt (Nat.le_trans (M.len_min S HC9.out.gt (a, a2) (b, b2) rt bd gd bt) (Nat.succ_le_succ HL.out)), hideIt (fun h => M.min_no h), HO, LF, LK, HB, HD⟩
              · have z5 := hne 5 q5
                by_cases q6 : k0 = 6
                · subst q6
                  clear hne
                  go_wp2_with fail
                  refine (HC9.out.moveA HI.out a a2 b b2 _ ia ia2 ib ib2 hm rfl).mono ?_
                  rintro _ wf ⟨rfl, A, F⟩
                  have HA := hideIt A
                  have HO := hideIt (HO9.out.call F)
                  have LF := hideIt (LF9.out.call F)
                  have LK := hideIt (LK9.out.call F)
                  have HB := hideIt (B9.out.call F)
                  have HD := hideIt (D9.out.call F)
                  clear A F e0 e1 e2 e3 e4 e5 e6 e7 e8 e9 e10 e11 e12 e13 e14 e15 e16 e17
                  go_wp2
                  go_meet
                  exact ⟨_, _, _, _, rfl, HA, hideIt (HI.out.mov (a, a2) (b, b2)), hideIt (Nat.le_trans (M.len_mov S f (a, a2) (b, b2)) (Nat.succ_le_succ HL.out)), hideIt (fun h => M.mov_no h), HO, LF, LK, HB, HD⟩
                · have z6 := hne 6 q6
                  by_cases q7 : k0 = 7
                  · subst q7
                    clear hne
                    go_wp2_with fail
                    refine (HC9.out.mutate HI.out a a2 b b2 gd bt _ ia ia2 ib ib2 hgd hm rfl).mono ?_
                    rintro _ wf ⟨rfl, A, F⟩
                    have HA := hideIt A
                    have HO := hideIt (HO9.out.call F)
                    have LF := hideIt (LF9.out.call F)
                    have LK := hideIt (LK9.out.call F)
                    have HB := hideIt (B9.out.call F)
                    have HD := hideIt (D9.out.call F)
                    clear A F e0 e1 e2 e3 e4 e5 e6 e7 e8 e9 e10 e11 e12 e13 e14 e15 e16 e17
                    go_wp2
                    go_meet
                    exact ⟨_, _, _, _, rfl, HA, hideIt (HI.out.mut (a, a2) (b, b2) hgd), hideIt (Nat.le_trans (M.len_mut S f (a, a2) (b, b2) gd bt) (Nat.succ_le_succ HL.out)), hideIt (fun h => M.mut_no h), HO, LF, LK, HB, HD⟩
                  · have z7 := hne 7 q7
                    by_cases q8 : k0 = 8
                    · subst q8
                      clear hne
                      go_wp2_with fail
                      refine (HC9.out.rotate HI.out a a2 b b2 d d2 _ ia ia2 ib ib2 idd id2 hm rfl).mono ?_
                      rintro _ wf ⟨rfl, A, F⟩
                      have HA := hideIt A
                      have HO := hideIt (HO9.out.call F)
                      have LF := hideIt (LF9.out.call F)
                      have LK := hideIt (LK9.out.call F)
                      have HB := hideIt (B9.out.call F)
                      have HD := hideIt (D9.out.call F)
                      clear A F e0 e1 e2 e3 e4 e5 e6 e7 e8 e9 e10 e11 e12 e13 e14 e15 e16 e17
                      go_wp2
                      go_meet
                      exact ⟨_, _, _, _, rfl, HA, hideIt (HI.out.rot HC9.out.gs (a, a2) (b, b2) (d, d2)), hideIt (Nat.le_trans (M.len_rot S f (a, a2) (b, b2) (d, d2)) (Nat.succ_le_succ HL.out)), hideIt (fun h => M.rot_no h), HO, LF, LK, HB, HD⟩
                    · have z8 := hne 8 q8
                      clear hne
                      go_wp2
                      go_meet
                      exact ⟨0, _, _, _, rfl, HC9, HI, hideIt (Nat.le_succ_of_le HL.out), hideIt (fun h => absurd rfl h), HO9, LF9, LK9, B9, D9⟩
      case rest =>
      obtain ⟨e, S', f', O', rfl, HC10, HI10, HL10, HN10, HO10, LF10, LK10, B10, D10⟩ := hcut
      clear HC9 HO9 LF9 LK9 B9 D9
      obtain ⟨w10, hw10⟩ : ∃ w7, w7 = wc := ⟨_, rfl⟩
      subst hw10
      obtain ⟨v, hv⟩ : ∃ v, (e == 0) = v := ⟨_, rfl⟩
      cases v
      · have hz : e ≠ 0 := by simpa using hv
        obtain ⟨rfl, rfl⟩ := HN10.out hz
        clear HN10 hz
        go_upto_region 31 with fail
        go_cut [13, 14] from 148 to 157 (fun sz se wc => ∃ Z : Nat, sz = .pointer (some ⟨Z, 0, none⟩) ∧ se = .int .i64 ex ∧ Hid (Box wc Z ⟨xk, xq, xr, xb, xg, xn⟩) ∧ Hid (w10.heap.size ≤ Z) ∧ Hid (w10.grownBy wc none))
        case first =>
          have T0b : Rx w10 p 0 s wr.heap.size 1 2 a a2 := ⟨HC10.out.c0, HO10.out.ob.at1, HO10.out.ob.at2⟩
          have T0 : Rx w10.drew p 0 s wr.heap.size 1 2 a a2 := T0b.kept (gbDrewN w10 1 none)
          go_region_held3 (fun w' => Rx w' p 0 s wr.heap.size 1 2 a a2)
            (first | with_reducible exact T0 | (focus (refine Rx.kept T0b ?_; (repeat (first | with_reducible exact G6 | with_reducible exact gbRefl w10 none | with_reducible refine gbDrew ?_ | with_reducible refine gbAllocN ?_ _ | with_reducible refine gbSetNew ?_ _ _ _ (by with_reducible first | exact Nat.le_refl _ | exact G6.size))); done)) | fail)
            ((first | (go_at_call 17; refine ((HC10.out.kept (by repeat (first | with_reducible exact gbRefl w10 none | with_reducible refine gbDrew ?_ | with_reducible refine gbAllocN ?_ _))).get a a2 _ _ _ _ _ _ _ ia HXX.out HEX.out).mono ?_; rintro _ u6 ⟨rfl, g6⟩; have hc6 := gcell g6; have hf6 := gfroz g6; have G6 : w10.grownBy u6 none := (by first | exact gbTrans (gbDrewN w10 1 none) g6 | exact gbTrans (gbDrew (gbAllocN (gbRefl w10 none) _)) g6)) | fail))
          · rename_i hold
            clear hold T0
            obtain ⟨W6, hW6, Z6, g7⟩ := boxNew u6 ⟨xk, xq, xr, xb, xg, xn⟩
            simp only at hW6
            rw [hW6]
            go_wp2
            go_meet
            exact ⟨_, rfl, rfl, Z6, G6.size, gbTrans G6 g7⟩
          · rename_i hold
            clear hold T0
            have Z0 : Box u6 w10.heap.size C.zero := ((Box.made w10 C.zero).kept (gbDrew (gbRefl _ none))).kept g6
            obtain ⟨W6, hW6, Z6, g7⟩ := Z0.put ⟨xk, xq, xr, xb, xg, xn⟩
            simp only at hW6
            rw [hW6]
            go_wp2
            go_meet
            exact ⟨_, rfl, rfl, Z6, Nat.le_refl _, gbNew (gbTrans (gbAny G6 _) g7) (Nat.le_refl _)⟩
        case rest =>
        obtain ⟨Z13, rfl, rfl, HZ13, hZ13, G13⟩ := hcut
        obtain ⟨w11, hw11⟩ : ∃ w7, w7 = wc := ⟨_, rfl⟩
        subst hw11
        have HC11 := hideIt (HC10.out.kept G13.out)
        have HO11 := hideIt (HO10.out.kept G13.out)
        have LF11 := hideIt (LF10.out.kept G13.out)
        have LK11 := hideIt (LK10.out.kept G13.out)
        have B11 := hideIt (B10.out.kept G13.out)
        have D11 := hideIt (D10.out.kept G13.out)
        clear HC10 HO10 LF10 LK10 B10 D10 hZ13 G13
        go_upto_region 32 with fail
        go_cut [15, 16] from 158 to 167 (fun sz se wc => ∃ Z : Nat, sz = .pointer (some ⟨Z, 0, none⟩) ∧ se = .int .i64 ey ∧ Hid (Box wc Z ⟨yk, yq, yr, yb, yg, yn⟩) ∧ Hid (w11.heap.size ≤ Z) ∧ Hid (w11.grownBy wc none))
        case first =>
          have T0b : Rx w11 p 0 s wr.heap.size 3 4 b b2 := ⟨HC11.out.c0, HO11.out.ob.at3, HO11.out.ob.at4⟩
          have T0 : Rx w11.drew p 0 s wr.heap.size 3 4 b b2 := T0b.kept (gbDrewN w11 1 none)
          go_region_held3 (fun w' => Rx w' p 0 s wr.heap.size 3 4 b b2)
            (first | with_reducible exact T0 | (focus (refine Rx.kept T0b ?_; (repeat (first | with_reducible exact G6 | with_reducible exact gbRefl w11 none | with_reducible refine gbDrew ?_ | with_reducible refine gbAllocN ?_ _ | with_reducible refine gbSetNew ?_ _ _ _ (by with_reducible first | exact Nat.le_refl _ | exact G6.size))); done)) | fail)
            ((first | (go_at_call 17; refine ((HC11.out.kept (by repeat (first | with_reducible exact gbRefl w11 none | with_reducible refine gbDrew ?_ | with_reducible refine gbAllocN ?_ _))).get b b2 _ _ _ _ _ _ _ ib HYY.out HEY.out).mono ?_; rintro _ u6 ⟨rfl, g6⟩; have hc6 := gcell g6; have hf6 := gfroz g6; have G6 : w11.grownBy u6 none := (by first | exact gbTrans (gbDrewN w11 1 none) g6 | exact gbTrans (gbDrew (gbAllocN (gbRefl w11 none) _)) g6)) | fail))
          · rename_i hold
            clear hold T0
            obtain ⟨W6, hW6, Z6, g7⟩ := boxNew u6 ⟨yk, yq, yr, yb, yg, yn⟩
            simp only at hW6
            rw [hW6]
            go_wp2
            go_meet
            exact ⟨_, rfl, rfl, Z6, G6.size, gbTrans G6 g7⟩
          · rename_i hold
            clear hold T0
            have Z0 : Box u6 w11.heap.size C.zero := ((Box.made w11 C.zero).kept (gbDrew (gbRefl _ none))).kept g6
            obtain ⟨W6, hW6, Z6, g7⟩ := Z0.put ⟨yk, yq, yr, yb, yg, yn⟩
            simp only at hW6
            rw [hW6]
            go_wp2
            go_meet
            exact ⟨_, rfl, rfl, Z6, Nat.le_refl _, gbNew (gbTrans (gbAny G6 _) g7) (Nat.le_refl _)⟩
        case rest =>
        obtain ⟨Z15, rfl, rfl, HZ15, hZ15, G15⟩ := hcut
        obtain ⟨w12, hw12⟩ : ∃ w7, w7 = wc := ⟨_, rfl⟩
        subst hw12
        have HN := hideIt (HC11.out.kept (gbTrans G15.out (gbDrewN w12 1 none)))
        have LF := hideIt (LF11.out.kept (gbTrans G15.out (gbDrewN w12 1 none)))
        have LK := hideIt (LK11.out.kept (gbTrans G15.out (gbDrewN w12 1 none)))
        have T : Rf w12.drew p s t wr.heap.size Z7 Z9 Z13 Z15 a a2 ⟨xk, xq, xr, xb, xg, xn⟩ ⟨yk, yq, yr, yb, yg, yn⟩ := Rf.kept ⟨(HC11.out.kept G15.out).c0, (HC11.out.kept G15.out).c1, ⟨(HO11.out.kept G15.out).ob.at1, (HO11.out.kept G15.out).ob.at2⟩, (B11.out.kept G15.out).bx.tup, (D11.out.kept G15.out).bx.tup, (HZ13.out.kept G15.out).tup, HZ15.out.tup⟩ (gbDrewN w12 1 none)
        clear HC11 HO11 LF11 LK11 B11 D11 HZ13 HZ15 hZ15 G15
        have qx := M.eq_refl ⟨xk, xq, xr, xb, xg, xn⟩
        have qy := M.eq_refl ⟨yk, yq, yr, yb, yg, yn⟩
        have hf1024 : Hid ((M.full S').length ≤ 1024) := M.full_len S'
        have hk1024 : Hid ((f'.kin (a, a2)).length ≤ 1024) := Nat.le_trans (M.kin_len f' (a, a2)) (Nat.le_trans hm (by decide))
        go_upto_region 33 with fail
        go_region_held3 (fun w' => Rf w' p s t wr.heap.size Z7 Z9 Z13 Z15 a a2 ⟨xk, xq, xr, xb, xg, xn⟩ ⟨yk, yq, yr, yb, yg, yn⟩)
          (first | with_reducible exact T | fail)
          ((first
            | (go_at_call 21; refine (T9.same_is LK.out.ls LK2.out.ls hk1024.out).mono ?_; rintro _ y ⟨rfl, g⟩; replace HN := hideIt (HN.out.kept g); replace T := Rf.kept T g; clear g LK2)
            | (go_at_call 21; refine (T9.same_is LF.out.ls LF2.out.ls hf1024.out).mono ?_; rintro _ y ⟨rfl, g⟩; replace HN := hideIt (HN.out.kept g); replace LK := hideIt (LK.out.kept g); replace T := Rf.kept T g; clear g LF2)
            | (go_at_call 16; refine (HN.out.full).mono ?_; rintro _ y ⟨vf2, rfl, lk, g⟩; have LF2 := hideIt (LB.new HN.out lk); replace HN := hideIt (HN.out.kept g); replace LK := hideIt (LK.out.kept g); replace LF := hideIt (LF.out.kept g); replace T := Rf.kept T g; clear g lk)
            | (go_at_call 18; refine (HN.out.kin a a2 ia ia2 hm).mono ?_; rintro _ y ⟨vk2, rfl, lk, g⟩; have LK2 := hideIt (LB.new HN.out lk); replace HN := hideIt (HN.out.kept g); replace LK := hideIt (LK.out.kept g); replace T := Rf.kept T g; clear g lk)
            | fail))
        rename_i hold
        clear hold T LK LF
        go_wp2
        go_roundg (gk - 1)
        case rel => exact ⟨j + 1, _, _, _, by omega, by go_num, HN, HI10, HL10⟩
        case measure => omega
      · go_wp2
        go_roundg (gk - 1)
        case rel => exact ⟨j + 1, _, _, _, by omega, by go_num, HC10, HI10, HL10⟩
        case measure => omega
    · have h12 : ¬ (j < len ∧ j < 50) := hlt
      go_upto_region 7 with fail
      go_cut [31] (fun s wc => s = .bool false ∧ wc = wr)
      case first =>
        by_cases k1 : (j : Int) < (len : Int)
        · have k2 : ¬ (j : Int) < 50 := by omega
          go_wp2
          go_meet
          exact ⟨rfl, rfl⟩
        · go_wp2
          go_meet
          exact ⟨rfl, rfl⟩
      case rest =>
      obtain ⟨rfl, rfl⟩ := hcut
      go_wp2
      go_ret
      exact ⟨rfl, gbEnd HC.out.gr⟩

theorem walk (x0 : Option Addr) (len0 cap0 : Nat) (w : World) (hx0 : ∀ i, i < len0 → ∃ x q, x0 = some x ∧ El18 w (x.add (i * 18)) q ∧ Op18 q) :
    Calls Try.prog 5 #[.slice x0 len0 cap0] w fun e w' => e = .returned (.bool true) ∧ Below w.heap.size w w' := core x0 len0 cap0 w hx0

set_option maxRecDepth 100000 in
theorem lifted (os : Os) (started : os.Started) (H : Type) (enc : TypeId × Value → H) :
    ReturnsInHanded {} Try.checked os 5 .any (Rows.movesRefusedSpec.pre6 enc Try.prog Try.f5 Rows.movesRefusedRow.domain false) (Rows.movesRefusedSpec.post enc Try.prog Try.f5 false true false false) := by
  refine returnsInHanded_of_change (C := Try.checked) own started (by kernel_rfl) Try.func5
    (ChangeSpec.witness6 (enc := enc) (C := Try.checked) false ⟨#[], #[.slice none 0 0], []⟩ 8 (by kernel_rfl) (by kernel_rfl) (by kernel_rfl) (by kernel_rfl)) ?_
  intro W base args ds gs before hval0 hW hcnd _
  have hval : ∀ (j : Nat) t v, Try.f5.params[j]? = some t → args[j]? = some v → Value.okWide Try.prog W .any base t v := hval0
  have hW' := hW
  obtain ⟨p, q, hA0, hV, rfl, hfz, hnd⟩ := hW
  have hA : DataW.TrodAll enc Try.prog W 0 (fun _ => true) true Try.f5.params.toList args.toList ds p := hA0
  rw [Try.params5] at hA hval
  obtain ⟨v0, vs0, d0, ds0, p0, q0, hargs, rfl, rfl, h0, r0⟩ := trodAll_cons hA
  obtain ⟨rfl, rfl, rfl⟩ := trodAll_nil r0
  obtain rfl : args = #[v0] := by cases args; simp_all
  obtain ⟨rfl, rfl⟩ := trodVars_none hV
  obtain ⟨x0, len0, cap0, rfl⟩ := okWide_slice Try.underlying22 (hval 0 22 v0 rfl rfl)
  have hx0 := opsArg h0
  have k0 := h0
  have lt0 : ∀ x ∈ p0, x.block < W.heap.size := by obtain ⟨m, hm⟩ := k0; exact DataW.trod_lt m _ _ _ hm
  clear hA0 hval0
  refine (walk x0 len0 cap0 W hx0).mono fun e W' ⟨he, bel⟩ => ?_
  subst he
  exact ⟨_, rfl, _, _, _, [], _, [], hW', trodAll_mk1 (shut_bool Try.underlying4 _), (trodAll_cons_mk (Below.trod laidOut (by kernel_rfl) (of_decide_eq_true (by kernel_rfl)) k0 bel lt0) trodAll_mk0), rfl, bel.frame _, fun h => by cases h⟩

theorem over : Rows.movesRefusedRow.holds Try.pinned (OpenSpec.ofChange Rows.movesRefusedSpec) :=
  OpenClaim.holds_of_wide 5 Try.f5 rfl rfl rfl rfl rfl rfl rfl ⟨rfl, rfl, rfl, rfl, rfl⟩ rfl rfl rfl rfl rfl (by kernel_rfl) Try.func5 (by kernel_rfl)
    (of_decide_eq_true (by kernel_rfl)) (by unfold Func.isWrapper; first | (rw [if_pos (by decide +kernel)]; kernel_rfl) | (rw [if_neg (by decide +kernel)]; exact ⟨rfl, rfl⟩))
    (fun os started H enc _ => lifted os started H enc)

theorem proved : Rows.MovesRefusedSaid := over
end Go.Proofs.Ytkpcdfiebjigbaa.movesRefused
namespace Go.Proofs.Ytkpcdfiebjigbaa
theorem movesRefused_holds : Rows.MovesRefusedSaid := movesRefused.proved
#print axioms movesRefused_holds
end Go.Proofs.Ytkpcdfiebjigbaa
