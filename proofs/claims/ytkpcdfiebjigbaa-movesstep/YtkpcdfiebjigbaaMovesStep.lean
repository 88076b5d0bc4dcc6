/- MovesStep holds for every input: works, and then, whatever acts come in (at most sixty are played), each slot that Full tells is not empty, and each of its kin has a capability that is weaker. No condition. -/
import Derived.Test.YtkpcdfiebjigbaaWks
import Derived.Test.YtkpcdfiebjigbaaOpq
import Derived.Test.YtkpcdfiebjigbaaRder
import Derived.Deep.Cut
import Derived.Deep.DeepCutAuto
import Derived.Deep.RegionHeld3
import Derived.Deep.LoopGhost
import Derived.Test.YtkpcdfiebjigbaaArgs
import Derived.ProofKit
import Derived.OpenShut
import Derived.ShutString
import Derived.ChangeOld
import Derived.Below
import Derived.Deep.Slices
namespace Go.Proofs.Ytkpcdfiebjigbaa.movesStep
open Go.ChangeShapes Go.WideShapes Go.ChangeAt Go.RowKit
set_option linter.unusedVariables false

theorem own : ownKnob Try.prog.godebug = none := by kernel_rfl
theorem laidOut : laidOutB Try.prog = true := by kernel_rfl

set_option maxRecDepth 10000 in
set_option maxHeartbeats 8000000 in
theorem core (xo : Option Addr) (len cap : Nat) (w : World) (HX : Hid (∀ i, i < len → ∃ x q, xo = some x ∧ El18 w (x.add (i * 18)) q ∧ Op18 q)) :
    Calls Try.prog 3 #[.slice xo len cap] w fun e w' => e = .returned (.bool true) ∧ Below w.heap.size w w' := by
  go_enter Try.func3, Try.ntmps3
  go_wp2_with fail
  refine (works_is _).mono ?_
  rintro _ w1 ⟨rfl, g1⟩
  go_wp2_with fail
  refine (newCaps g1).mono ?_
  rintro _ w2 ⟨p, s, t, rfl, A, _⟩
  have H2 := hideIt A
  clear A g1
  go_wp2_with fail
  refine (H2.out.nodeA 0 4 0 (i64s _ (by decide) (by decide)) (by decide) (by decide +kernel)).mono ?_
  rintro _ w3 ⟨rfl, A, _⟩
  have H3 := hideIt A
  clear A H2
  go_wp2_with fail
  refine (H3.out.nodeA 1 3 0 (i64s _ (by decide) (by decide)) (by decide) (by decide +kernel)).mono ?_
  rintro _ w4 ⟨rfl, A, _⟩
  have H4 := hideIt A
  clear A H3
  have I4 : Hid (M.Inv (M.addS (M.addS (fun _ => none) 0 4) 1 3) .nil) := (M.Inv.none.same (fun x => M.gc_add _ _ _ x)).same (fun x => M.gc_add _ _ _ x)
  generalize M.addS (M.addS (fun _ => none) 0 4) 1 3 = S4 at H4 I4
  go_wp2
  go_loopg [4] 60 (fun y i wr => ∃ (j : Nat) (S : St) (f : T9.Fo) (O : Nat → Prop), j + y = 60 ∧ i = .int .i64 j ∧ Hid (Cs w wr O p s t 2 S f) ∧ Hid (M.Inv S f) ∧ Hid (M.Wks S f) ∧ Hid (f.len ≤ j))
  case atStart => exact ⟨0, S4, .nil, _, by omega, rfl, H4, I4, M.Wkf.congr (fun _ h => (nomatch h)) M.Wks.start, Nat.le_refl 0⟩
  case round =>
    obtain ⟨j, S, f, O, hj, rfl, HC, HI, HK, HL⟩ := hrel
    by_cases hlt : j < len ∧ j < 60
    · obtain ⟨hlt, hlt2⟩ := hlt
      have hlt' : (j : Int) < (len : Int) := by omega
      have hlt2' : (j : Int) < 60 := by omega
      obtain ⟨x, q, rfl, E0, QQ⟩ := HX.out j hlt
      have E := hideIt (E0.kept HC.out.gr)
      clear E0
      have hm : f.len ≤ 1000 := Nat.le_trans HL.out (by omega)
      go_upto_region 10 with (first | (refine wpList_load_op rfl _ rfl _ q rfl E.out ?_) | (refine wpList_store_op rfl _ _ rfl _ q rfl rfl (opZero wr).1 (opZero wr).2 ?_; intro W5 B5 g5))
      have g5' : wr.grownBy W5 none := gbNew (gbTrans (gbAlloc _ _ _) g5) (Nat.le_refl _)
      have HC5 := hideIt (HC.out.kept g5')
      clear HC g5 g5' E
      obtain ⟨k0, a, a2, b, b2, d, d2, ⟨ck, co, cr, cb, cg, cn⟩, n, rt, bd, gd, bt⟩ := q
      obtain ⟨ik, ia, ia2, ib, ib2, idd, id2, inn, hcb, hcg, hbd, hgd⟩ := QQ
      simp only at ik ia ia2 ib ib2 idd id2 inn hcb hcg hbd hgd
      obtain ⟨e0, e1, e2, e3, e4, e5, e6, e7, e8, e9, e10, e11, e12, e13, e14, e15, e16, e17, _⟩ := B5
      simp only at e0 e1 e2 e3 e4 e5 e6 e7 e8 e9 e10 e11 e12 e13 e14 e15 e16 e17
      have hne : ∀ v : Int, ¬ k0 = v → (k0 == v) = false := fun v h => by simpa using h
      by_cases q2 : k0 = 2
      · subst q2
        clear hne
        go_wp2_with fail
        refine (HC5.out.plant HI.out a a2 ck co cr cb cg cn _ ia ia2 hcb hcg hm rfl).mono ?_
        rintro _ w6 ⟨rfl, A, F⟩
        have HA := hideIt A
        clear A F e0 e1 e2 e3 e4 e5 e6 e7 e8 e9 e10 e11 e12 e13 e14 e15 e16 e17
        go_wp2
        go_roundg (gk - 1)
        case rel => exact ⟨j + 1, _, _, _, by omega, by go_num, HA, hideIt (HI.out.pla (a, a2) hcb hcg), hideIt (HK.out.pla HI.out (a, a2) _), hideIt (Nat.le_trans (M.len_pla S f (a, a2) _) (Nat.succ_le_succ HL.out))⟩
        case measure => omega
      · have z2 := hne 2 q2
        by_cases q4 : k0 = 4
        · subst q4
          clear hne
          go_wp2_with fail
          refine (HC5.out.copy HI.out a a2 b b2 rt _ ia ia2 ib ib2 hm rfl).mono ?_
          rintro _ w6 ⟨rfl, A, F⟩
          have HA := hideIt A
          clear A F e0 e1 e2 e3 e4 e5 e6 e7 e8 e9 e10 e11 e12 e13 e14 e15 e16 e17
          go_wp2
          go_roundg (gk - 1)
          case rel => exact ⟨j + 1, _, _, _, by omega, by go_num, HA, hideIt (HI.out.cop (a, a2) (b, b2) rt), hideIt (HK.out.cop HI.out (a, a2) (b, b2) rt), hideIt (Nat.le_trans (M.len_cop S HC5.out.gt (a, a2) (b, b2) rt) (Nat.succ_le_succ HL.out))⟩
          case measure => omega
        · have z4 := hne 4 q4
          by_cases q5 : k0 = 5
          · subst q5
            clear hne
            go_wp2_with fail
            refine (HC5.out.mint HI.out a a2 b b2 rt bd gd bt _ ia ia2 ib ib2 hbd hgd hm rfl).mono ?_
            rintro _ w6 ⟨rfl, A, F⟩
            have HA := hideIt A
            clear A F e0 e1 e2 e3 e4 e5 e6 e7 e8 e9 e10 e11 e12 e13 e14 e15 e16 e17
            go_wp2
            go_roundg (gk - 1)
            case rel => exact ⟨j + 1, _, _, _, by omega, by go_num, HA, hideIt (HI.out.min (a, a2) (b, b2) hbd hgd), hideIt (HK.out.min HI.out (a, a2) (b, b2) hbd hgd), hideIt (Nat.le_trans (M.len_min S HC5.out.gt (a, a2) (b, b2) rt bd gd bt) (Nat.succ_le_succ HL.out))⟩
            case measure => omega
          · have z5 := hne 5 q5
            by_cases q6 : k0 = 6
            · subst q6
              clear hne
              go_wp2_with fail
              refine (HC5.out.moveA HI.out a a2 b b2 _ ia ia2 ib ib2 hm rfl).mono ?_
              rintro _ w6 ⟨rfl, A, F⟩
              have HA := hideIt A
              clear A F e0 e1 e2 e3 e4 e5 e6 e7 e8 e9 e10 e11 e12 e13 e14 e15 e16 e17
              go_wp2
              go_roundg (gk - 1)
              case rel => exact ⟨j + 1, _, _, _, by omega, by go_num, HA, hideIt (HI.out.mov (a, a2) (b, b2)), hideIt (HK.out.mov HI.out (a, a2) (b, b2)), hideIt (Nat.le_trans (M.len_mov S f (a, a2) (b, b2)) (Nat.succ_le_succ HL.out))⟩
              case measure => omega
            · have z6 := hne 6 q6
              by_cases q8 : k0 = 8
              · subst q8
                clear hne
                go_wp2_with fail
                refine (HC5.out.rotate HI.out a a2 b b2 d d2 _ ia ia2 ib ib2 idd id2 hm rfl).mono ?_
                rintro _ w6 ⟨rfl, A, F⟩
                have HA := hideIt A
                clear A F e0 e1 e2 e3 e4 e5 e6 e7 e8 e9 e10 e11 e12 e13 e14 e15 e16 e17
                go_wp2
                go_roundg (gk - 1)
                case rel => exact ⟨j + 1, _, _, _, by omega, by go_num, HA, hideIt (HI.out.rot HC5.out.gs (a, a2) (b, b2) (d, d2)), hideIt (HK.out.rot HI.out HC5.out.gs (a, a2) (b, b2) (d, d2)), hideIt (Nat.le_trans (M.len_rot S f (a, a2) (b, b2) (d, d2)) (Nat.succ_le_succ HL.out))⟩
                case measure => omega
              · have z8 := hne 8 q8
                by_cases q9 : k0 = 9
                · subst q9
                  clear hne
                  obtain ⟨⟨tk, tq, tr, tb, tg, tn⟩, hT⟩ : ∃ c, M.srcC S (a, a2) = c := ⟨_, rfl⟩
                  go_wp2_with fail
                  refine (HC5.out.takeA HI.out a a2 tk tq tr tb tg tn _ ia ia2 hm hT rfl).mono ?_
                  rintro _ w6 ⟨rfl, A, F⟩
                  have HA := hideIt A
                  clear A F e0 e1 e2 e3 e4 e5 e6 e7 e8 e9 e10 e11 e12 e13 e14 e15 e16 e17
                  go_wp2
                  go_roundg (gk - 1)
                  case rel => exact ⟨j + 1, _, _, _, by omega, by go_num, HA, hideIt (HI.out.tak HC5.out.gt (a, a2)), hideIt (HK.out.tak HI.out HC5.out.gt (a, a2)), hideIt (Nat.le_trans (M.len_tak S HC5.out.gt (a, a2)) (Nat.succ_le_succ HL.out))⟩
                  case measure => omega
                · have z9 := hne 9 q9
                  clear hne
                  go_wp2
                  go_roundg (gk - 1)
                  case rel => exact ⟨j + 1, S, f, _, by omega, by go_num, HC5, HI, HK, hideIt (Nat.le_succ_of_le HL.out)⟩
                  case measure => omega
    · have h12 : ¬ (j < len ∧ j < 60) := hlt
      have hm : f.len ≤ 1000 := Nat.le_trans HL.out (by omega)
      go_upto_region 7 with fail
      go_cut [28] (fun s wc => s = .bool false ∧ wc = wr)
      case first =>
        by_cases k1 : (j : Int) < (len : Int)
        · have k2 : ¬ (j : Int) < 60 := by omega
          go_wp2
          go_meet
          exact ⟨rfl, rfl⟩
        · go_wp2
          go_meet
          exact ⟨rfl, rfl⟩
      case rest =>
      obtain ⟨rfl, rfl⟩ := hcut
      clear hlt h12 hj HL
      have c0 := HC.out.c0
      go_wp2_with fail
      refine (HC.out.full).mono ?_
      rintro _ w6 ⟨vf, rfl, lf, g6⟩
      have HF := hideIt (LB.new HC.out lf)
      have HC6 := hideIt (HC.out.kept g6)
      clear lf c0 g6 HC
      obtain ⟨L, hL⟩ : ∃ L, M.full S = L := ⟨_, rfl⟩
      have HLm : Hid (∀ x ∈ L, (M.gc S x).k ≠ 0) := fun x hx => (M.mem_full HC6.out.gs x).1 (hL ▸ hx)
      have hLn : L.length ≤ 1024 := hL ▸ M.full_len S
      rw [hL] at HF
      clear hL
      obtain ⟨xf, cf, rfl⟩ := HF.out.slice
      go_wp2
      go_loopg [7] L.length (fun y i wr => ∃ c : Nat, c + y = L.length ∧ i = .int .i64 c ∧ Hid (w6.grownBy wr none))
      case atStart => exact ⟨0, by omega, rfl, gbRefl _ _⟩
      case round =>
        obtain ⟨c, hc, rfl, gw⟩ := hrel
        by_cases hlc : c < L.length
        · have hlc' : (c : Int) < (L.length : Int) := by omega
          obtain ⟨gg, A, B, rfl, hAB, E, _⟩ := (HF.out.kept gw.out).el hlc
          have HE := hideIt E
          have HCr := hideIt (HC6.out.kept gw.out)
          have hk := HLm.out (A, B) (List.mem_of_getElem? hAB)
          have hth := M.gc_th hk
          obtain ⟨iA, iB⟩ := M.th_i64 HCr.out.gs hth
          have hge : M.getE S A B = 0 := M.getE_ok hth
          obtain ⟨⟨xk, xq, xr, xb, xg, xn⟩, hx⟩ : ∃ x, M.gc S (A, B) = x := ⟨_, rfl⟩
          rw [hx] at hk
          have hkf : (xk == 0) = false := by simpa using hk
          have HXX := hideIt hx
          have HGE := hideIt hge
          clear hk hth hge E hx hAB
          obtain ⟨wo, rfl⟩ : ∃ wo, wo = wr := ⟨_, rfl⟩
          obtain ⟨Gk, rfl⟩ : ∃ Gk, Gk = gk := ⟨_, rfl⟩
          go_upto_region 27 with fail
          go_cut [8, 9] (fun sz se wc => ∃ Z : Nat, sz = .pointer (some ⟨Z, 0, none⟩) ∧ se = .int .i64 0 ∧ Hid (Box wc Z ⟨xk, xq, xr, xb, xg, xn⟩) ∧ Hid (wo.heap.size ≤ Z) ∧ Hid (wo.grownBy wc none))
          case first =>
            have T0b : Rx wo p 0 s gg (c * 2) (c * 2 + 1) A B := ⟨HCr.out.c0, HE.out.at0, HE.out.at1⟩
            have T0 : Rx wo.drew p 0 s gg (c * 2) (c * 2 + 1) A B := T0b.kept (gbDrewN wo 1 none)
            go_region_held3 (fun w' => Rx w' p 0 s gg (c * 2) (c * 2 + 1) A B)
              (first | with_reducible exact T0 | (focus (refine Rx.kept T0b ?_; (repeat (first | with_reducible exact G6 | with_reducible exact gbRefl wo none | with_reducible refine gbDrew ?_ | with_reducible refine gbAllocN ?_ _ | with_reducible refine gbSetNew ?_ _ _ _ (by with_reducible first | exact Nat.le_refl _ | exact G6.size))); done)) | fail)
              ((first | (go_at_call 17; refine ((HCr.out.kept (by repeat (first | with_reducible exact gbRefl wo none | with_reducible refine gbDrew ?_ | with_reducible refine gbAllocN ?_ _))).get A B _ _ _ _ _ _ _ iA HXX.out HGE.out).mono ?_; rintro _ u6 ⟨rfl, g6⟩; have hc6 := gcell g6; have hf6 := gfroz g6; have G6 : wo.grownBy u6 none := (by first | exact gbTrans (gbDrewN wo 1 none) g6 | exact gbTrans (gbDrew (gbAllocN (gbRefl wo none) _)) g6)) | fail))
            · rename_i hold
              clear hold T0
              obtain ⟨W6, hW6, Z6, g7⟩ := boxNew u6 ⟨xk, xq, xr, xb, xg, xn⟩
              simp only at hW6
              rw [hW6]
              go_wp2
              go_meet
              exact ⟨_, rfl, rfl, Z6, G6.size, gbTrans G6 g7⟩
            · rename_i hold
              clear hold T0
              have Z0 : Box u6 wo.heap.size C.zero := ((Box.made wo C.zero).kept (gbDrew (gbRefl _ none))).kept g6
              obtain ⟨W6, hW6, Z6, g7⟩ := Z0.put ⟨xk, xq, xr, xb, xg, xn⟩
              simp only at hW6
              rw [hW6]
              go_wp2
              go_meet
              exact ⟨_, rfl, rfl, Z6, Nat.le_refl _, gbNew (gbTrans (gbAny G6 _) g7) (Nat.le_refl _)⟩
          case rest =>
          obtain ⟨Z27, rfl, rfl, HZ27, hZ27, G27⟩ := hcut
          have z0 := HZ27.out.at0
          simp only at z0
          have HC7 := hideIt (HCr.out.kept G27.out)
          have HE7 := hideIt (HE.out.kept G27.out)
          go_upto_region 30 with fail
          have T0 : Rx wc.drew p 1 t gg (c * 2) (c * 2 + 1) A B := Rx.kept ⟨HC7.out.c1, HE7.out.at0, HE7.out.at1⟩ (gbDrewN wc 1 none)
          go_region_held3 (fun w' => Rx w' p 1 t gg (c * 2) (c * 2 + 1) A B)
            (first | with_reducible exact T0 | with_reducible exact T1 | fail)
            ((first | (go_at_call 18; refine ((HC7.out.kept (gbDrewN wc 1 none)).kin A B iA iB hm).mono ?_; rintro _ w8 ⟨vk, rfl, lk, g6⟩; have Gw8 : wc.grownBy w8 none := gbTrans (gbDrewN wc 1 none) g6; have T1 : Rx w8 p 1 t gg (c * 2) (c * 2 + 1) A B := T0.kept g6; have HKL := hideIt (LB.new (HC7.out.kept (gbDrewN wc 1 none)) lk); clear lk; clear g6) | fail))
          rename_i hold
          clear hold T0 T1
          have HC8 := hideIt (HC7.out.kept Gw8)
          have HZ8 := hideIt (HZ27.out.kept Gw8)
          have G8 := hideIt (gbTrans gw.out (gbTrans G27.out Gw8))
          obtain ⟨KL, hKL⟩ : ∃ K, f.kin (A, B) = K := ⟨_, rfl⟩
          have HKm : Hid (∀ x ∈ KL, (M.gc S x).k ≠ 0 ∧ M.wkr (M.gc S x) (M.gc S (A, B)) = true) := fun x hx => by
            rw [← hKL] at hx
            refine ⟨?_, HK.out.kins (A, B) x hx⟩
            have hw := M.wkr_iff.1 (HK.out.kins (A, B) x hx)
            rw [hw.2.2.1, HXX.out]
            simpa using hkf
          have hKn : KL.length ≤ 1000 := Nat.le_trans (hKL ▸ M.kin_len f (A, B)) hm
          rw [hKL] at HKL
          clear hKL z0 HC7 HE7 HZ27 hZ27 Gw8
          obtain ⟨xl, cl, rfl⟩ := HKL.out.slice
          go_wp2
          go_loopg [11] KL.length (fun y i wr => ∃ e : Nat, e + y = KL.length ∧ i = .int .i64 e ∧ Hid (w8.grownBy wr none))
          case atStart => exact ⟨0, by omega, rfl, gbRefl _ _⟩
          case round =>
            obtain ⟨e, he, rfl, gx⟩ := hrel
            by_cases hle : e < KL.length
            · have hle' : (e : Int) < (KL.length : Int) := by omega
              obtain ⟨gh, A2, B2, rfl, hAB2, E2, _⟩ := (HKL.out.kept gx.out).el hle
              have HE2 := hideIt E2
              have HC9 := hideIt (HC8.out.kept gx.out)
              have HZ9 := hideIt (HZ8.out.kept gx.out)
              obtain ⟨hk2, hw2⟩ := HKm.out (A2, B2) (List.mem_of_getElem? hAB2)
              have hth2 := M.gc_th hk2
              obtain ⟨iA2, iB2⟩ := M.th_i64 HC9.out.gs hth2
              have hge2 : M.getE S A2 B2 = 0 := M.getE_ok hth2
              obtain ⟨⟨yk, yq, yr, yb, yg, yn⟩, hy⟩ : ∃ x, M.gc S (A2, B2) = x := ⟨_, rfl⟩
              rw [hy, HXX.out] at hw2
              have HYY := hideIt hy
              have HGE2 := hideIt hge2
              have HW2 := hideIt hw2
              clear hk2 hth2 hge2 E2 hy hAB2 hw2
              obtain ⟨wp, rfl⟩ : ∃ wp, wp = wr := ⟨_, rfl⟩
              go_upto_region 34 with fail
              go_cut [12, 13] (fun sz se wc => ∃ Z : Nat, sz = .pointer (some ⟨Z, 0, none⟩) ∧ se = .int .i64 0 ∧ Hid (Box wc Z ⟨yk, yq, yr, yb, yg, yn⟩) ∧ Hid (wp.heap.size ≤ Z) ∧ Hid (wp.grownBy wc none))
              case first =>
                have T0b : Rx wp p 0 s gh (e * 2) (e * 2 + 1) A2 B2 := ⟨HC9.out.c0, HE2.out.at0, HE2.out.at1⟩
                have T0 : Rx wp.drew p 0 s gh (e * 2) (e * 2 + 1) A2 B2 := T0b.kept (gbDrewN wp 1 none)
                go_region_held3 (fun w' => Rx w' p 0 s gh (e * 2) (e * 2 + 1) A2 B2)
                  (first | with_reducible exact T0 | (focus (refine Rx.kept T0b ?_; (repeat (first | with_reducible exact G6 | with_reducible exact gbRefl wp none | with_reducible refine gbDrew ?_ | with_reducible refine gbAllocN ?_ _ | with_reducible refine gbSetNew ?_ _ _ _ (by with_reducible first | exact Nat.le_refl _ | exact G6.size))); done)) | fail)
                  ((first | (go_at_call 17; refine ((HC9.out.kept (by repeat (first | with_reducible exact gbRefl wp none | with_reducible refine gbDrew ?_ | with_reducible refine gbAllocN ?_ _))).get A2 B2 _ _ _ _ _ _ _ iA2 HYY.out HGE2.out).mono ?_; rintro _ u6 ⟨rfl, g6⟩; have hc6 := gcell g6; have hf6 := gfroz g6; have G6 : wp.grownBy u6 none := (by first | exact gbTrans (gbDrewN wp 1 none) g6 | exact gbTrans (gbDrew (gbAllocN (gbRefl wp none) _)) g6)) | fail))
                · rename_i hold
                  clear hold T0
                  obtain ⟨W6, hW6, Z6, g7⟩ := boxNew u6 ⟨yk, yq, yr, yb, yg, yn⟩
                  simp only at hW6
                  rw [hW6]
                  go_wp2
                  go_meet
                  exact ⟨_, rfl, rfl, Z6, G6.size, gbTrans G6 g7⟩
                · rename_i hold
                  clear hold T0
                  have Z0 : Box u6 wp.heap.size C.zero := ((Box.made wp C.zero).kept (gbDrew (gbRefl _ none))).kept g6
                  obtain ⟨W6, hW6, Z6, g7⟩ := Z0.put ⟨yk, yq, yr, yb, yg, yn⟩
                  simp only at hW6
                  rw [hW6]
                  go_wp2
                  go_meet
                  exact ⟨_, rfl, rfl, Z6, Nat.le_refl _, gbNew (gbTrans (gbAny G6 _) g7) (Nat.le_refl _)⟩
              case rest =>
              obtain ⟨Z34, rfl, rfl, HZ34, hZ34, G34⟩ := hcut
              have HZa := hideIt (HZ9.out.kept G34.out)
              obtain ⟨z0, z1, z2, z3, z4, z5⟩ := HZ34.out.tup
              obtain ⟨y0, y1, y2, y3, y4, y5⟩ := HZa.out.tup
              simp only at z0 z1 z2 z3 z4 z5 y0 y1 y2 y3 y4 y5
              go_wp2_with fail
              refine (rweaker_is yk yq yr yb yg yn xk xq xr xb xg xn true HW2.out _).mono ?_
              rintro _ wq ⟨rfl, g9⟩
              clear z0 z1 z2 z3 z4 z5 y0 y1 y2 y3 y4 y5
              go_wp2
              go_roundg (gk - 1)
              case rel => exact ⟨e + 1, by omega, by go_num, gbTrans gx.out (gbTrans G34.out g9)⟩
              case measure => omega
            · have hle' : ¬ (e : Int) < (KL.length : Int) := by omega
              go_wp2
              go_roundg (Gk - 1)
              case rel => exact ⟨c + 1, by omega, by go_num, gbTrans G8.out gx.out⟩
              case measure => omega
        · have hlc' : ¬ (c : Int) < (L.length : Int) := by omega
          go_wp2
          go_ret
          exact ⟨rfl, gbEnd (gbTrans HC6.out.gr gw.out)⟩

theorem walk (x0 : Option Addr) (len0 cap0 : Nat) (w : World) (hx0 : ∀ i, i < len0 → ∃ x q, x0 = some x ∧ El18 w (x.add (i * 18)) q ∧ Op18 q) :
    Calls Try.prog 3 #[.slice x0 len0 cap0] w fun e w' => e = .returned (.bool true) ∧ Below w.heap.size w w' := core x0 len0 cap0 w hx0

set_option maxRecDepth 100000 in
theorem lifted (os : Os) (started : os.Started) (H : Type) (enc : TypeId × Value → H) :
    ReturnsInHanded {} Try.checked os 3 .any (Rows.movesStepSpec.pre6 enc Try.prog Try.f3 Rows.movesStepRow.domain false) (Rows.movesStepSpec.post enc Try.prog Try.f3 false true false false) := by
  refine returnsInHanded_of_change (C := Try.checked) own started (by kernel_rfl) Try.func3
    (ChangeSpec.witness6 (enc := enc) (C := Try.checked) false ⟨#[], #[.slice none 0 0], []⟩ 8 (by kernel_rfl) (by kernel_rfl) (by kernel_rfl) (by kernel_rfl)) ?_
  intro W base args ds gs before hval0 hW hcnd _
  have hval : ∀ (j : Nat) t v, Try.f3.params[j]? = some t → args[j]? = some v → Value.okWide Try.prog W .any base t v := hval0
  have hW' := hW
  obtain ⟨p, q, hA0, hV, rfl, hfz, hnd⟩ := hW
  have hA : DataW.TrodAll enc Try.prog W 0 (fun _ => true) true Try.f3.params.toList args.toList ds p := hA0
  rw [Try.params3] at hA hval
  obtain ⟨v0, vs0, d0, ds0, p0, q0, hargs, rfl, rfl, h0, r0⟩ := trodAll_cons hA
  obtain ⟨rfl, rfl, rfl⟩ := trodAll_nil r0
  obtain rfl : args = #[v0] := by cases args; simp_all
  obtain ⟨rfl, rfl⟩ := trodVars_none hV
  obtain ⟨x0, len0, cap0, rfl⟩ := okWide_slice Try.underlying22 (hval 0 22 v0 rfl rfl)
  have hx0 := opsArg h0
  have k0 := h0
  have lt0 : ∀ x ∈ p0, x.block < W.heap.size := by obtain ⟨m, hm⟩ := k0; exact DataW.trod_lt m _ _ _ hm
  clear hA0 hval0
  refine (walk x0 len0 cap0 W hx0).mono fun e W' ⟨he, bel⟩ => ?_
  subst he
  exact ⟨_, rfl, _, _, _, [], _, [], hW', trodAll_mk1 (shut_bool Try.underlying4 _), (trodAll_cons_mk (Below.trod laidOut (by kernel_rfl) (of_decide_eq_true (by kernel_rfl)) k0 bel lt0) trodAll_mk0), rfl, bel.frame _, fun h => by cases h⟩

theorem over : Rows.movesStepRow.holds Try.pinned (OpenSpec.ofChange Rows.movesStepSpec) :=
  OpenClaim.holds_of_wide 3 Try.f3 rfl rfl rfl rfl rfl rfl rfl ⟨rfl, rfl, rfl, rfl, rfl⟩ rfl rfl rfl rfl rfl (by kernel_rfl) Try.func3 (by kernel_rfl)
    (of_decide_eq_true (by kernel_rfl)) (by unfold Func.isWrapper; first | (rw [if_pos (by decide +kernel)]; kernel_rfl) | (rw [if_neg (by decide +kernel)]; exact ⟨rfl, rfl⟩))
    (fun os started H enc _ => lifted os started H enc)

theorem proved : Rows.MovesStepSaid := over
end Go.Proofs.Ytkpcdfiebjigbaa.movesStep
namespace Go.Proofs.Ytkpcdfiebjigbaa
theorem movesStep_holds : Rows.MovesStepSaid := movesStep.proved
#print axioms movesStep_holds
end Go.Proofs.Ytkpcdfiebjigbaa
