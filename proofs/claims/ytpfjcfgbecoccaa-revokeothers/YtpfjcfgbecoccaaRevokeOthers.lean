/- RevokeOthers holds for every input: works, and then, whatever acts made the capabilities (at most fifty), of whatever slot: behind a Revoke of a thousand steps each slot that did not come of it, and lies in no node that was told, has what it had. No condition. -/
import Derived.Test.YtpfjcfgbecoccaaOtr
import Derived.Deep.Cut
import Derived.Deep.DeepCutAuto
import Derived.Deep.RegionHeld3
import Derived.RegionTactic
import Derived.Test.YtpfjcfgbecoccaaArgs
import Derived.ProofKit
import Derived.OpenShut
import Derived.ShutString
import Derived.ChangeOld
import Derived.Below
import Derived.Deep.Slices
namespace Go.Proofs.Ytpfjcfgbecoccaa.revokeOthers
open Go.ChangeShapes Go.WideShapes Go.ChangeAt Go.RowKit
set_option linter.unusedVariables false

theorem own : ownKnob Try.prog.godebug = none := by kernel_rfl
theorem laidOut : laidOutB Try.prog = true := by kernel_rfl

set_option maxRecDepth 10000 in
set_option maxHeartbeats 8000000 in
theorem core (xo : Option Addr) (len cap : Nat) (A B : Int) (iA : I64 A) (iB : I64 B) (w : World) (qs : Nat → Q) (HX : Hid (Acts w xo len qs)) :
    Calls Try.prog 5 #[.slice xo len cap, sv A B] w fun e w' => e = .returned (.bool true) ∧ Below w.heap.size w w' := by
  have qe := run_eql_cap
  have qn := run_neq_cap
  have qg := eqGuardCap
  have qs2 := T9.run_eql_slots
  have qg2 := eqGuardSlots11
  have hmm := @run_makeMap Try.prog
  go_enter Try.func5, Try.ntmps5
  go_upto_region 1 with fail
  obtain ⟨W, hW, X0, g0⟩ := sboxNew w A B
  rw [hW]
  clear hW
  go_wp2_with fail
  refine (works_is _).mono ?_
  rintro _ w1 ⟨rfl, g1⟩
  have gw1 := gbTrans g0 g1
  go_wp2_with fail
  refine (made_is gw1 xo len cap qs (hideIt (fun i hi => by obtain ⟨x, h1, h2, h3⟩ := HX.out i hi; exact ⟨x, h1, h2.kept gw1, h3⟩))).mono ?_
  rintro _ w2 ⟨p, s, t, O, n, rfl, hn, A0, M0, g2, hO⟩
  obtain ⟨⟨S0, f0⟩, hX⟩ : ∃ X, M.mk11 qs (min len 50) = X := ⟨_, rfl⟩
  rw [hX] at A0 M0
  have HC2 := hideIt A0
  have HM := hideIt M0
  have HS2 : Hid (SB w2 O w.heap.size A B) := hideIt ⟨(X0.kept g1).kept g2, fun e => by have := hO _ e; have := X0.lt; have := g1.size; omega⟩
  clear A0 M0 hX hO g2 gw1 g1 X0 g0
  obtain ⟨⟨k, o, r, b, g, u⟩, hc⟩ : ∃ c, M.gc S0 (A, B) = c := ⟨_, rfl⟩
  obtain ⟨ev, hev⟩ : ∃ e, M.getE S0 A B = e := ⟨_, rfl⟩
  have hc' : M.getC S0 A B = ⟨k, o, r, b, g, u⟩ := hc
  have hm : f0.len ≤ 1000 := Nat.le_trans HM.out.len (by omega)
  go_upto_region 4 with fail
  go_cut [6, 7] (fun sz se wc => ∃ Z : Nat, sz = .pointer (some ⟨Z, 0, none⟩) ∧ se = .int .i64 ev ∧ Hid (Box wc Z ⟨k, o, r, b, g, u⟩) ∧ Hid (w2.heap.size ≤ Z) ∧ Hid (w2.grownBy wc none))
  case first =>
    have T0b : Rxi w2 p 0 s w.heap.size 0 1 A B := ⟨HC2.out.c0, HS2.out.sb.at0, HS2.out.sb.at1⟩
    have T0 : Rxi w2.drew p 0 s w.heap.size 0 1 A B := T0b.kept (gbDrewN w2 1 none)
    go_region_held3 (fun w' => Rxi w' p 0 s w.heap.size 0 1 A B)
      (first | with_reducible exact T0 | (focus (refine Rxi.kept T0b ?_; (repeat (first | with_reducible exact G6 | with_reducible exact gbRefl w2 none | with_reducible refine gbDrew ?_ | with_reducible refine gbAllocN ?_ _ | with_reducible refine gbSetNew ?_ _ _ _ (by with_reducible first | exact Nat.le_refl _ | exact G6.size))); done)) | fail)
      ((first | (go_at_call 11; refine ((HC2.out.kept (by repeat (first | with_reducible exact gbRefl w2 none | with_reducible refine gbDrew ?_ | with_reducible refine gbAllocN ?_ _))).get A B _ _ _ _ _ _ _ iA hc' hev).mono ?_; rintro _ u6 ⟨rfl, g6⟩; have hc6 := gcell g6; have hf6 := gfroz g6; have G6 : w2.grownBy u6 none := (by first | exact gbTrans (gbDrewN w2 1 none) g6 | exact gbTrans (gbDrew (gbAllocN (gbRefl w2 none) _)) g6)) | fail))
    · rename_i hold
      clear hold T0
      obtain ⟨W6, hW6, Z6, g7⟩ := boxNew u6 ⟨k, o, r, b, g, u⟩
      simp only at hW6
      rw [hW6]
      go_wp2
      go_meet
      exact ⟨_, rfl, rfl, Z6, G6.size, gbTrans G6 g7⟩
    · rename_i hold
      clear hold T0
      have Z0 : Box u6 w2.heap.size C.zero := ((Box.made w2 C.zero).kept (gbDrew (gbRefl _ none))).kept g6
      obtain ⟨W6, hW6, Z6, g7⟩ := Z0.put ⟨k, o, r, b, g, u⟩
      simp only at hW6
      rw [hW6]
      go_wp2
      go_meet
      exact ⟨_, rfl, rfl, Z6, Nat.le_refl _, gbNew (gbTrans (gbAny G6 _) g7) (Nat.le_refl _)⟩
  case rest =>
  obtain ⟨Z6, rfl, rfl, HZ6, hZ6, G6⟩ := hcut
  have HC6 := hideIt (HC2.out.kept G6.out)
  have HS6 := hideIt (HS2.out.kept G6.out)
  have z0 := HZ6.out.at0
  simp only at z0
  clear HC2 HS2 HZ6 hZ6 G6
  cases hv1 : (ev != 0) with
  | true =>
    go_wp2
    go_ret
    exact ⟨rfl, gbEnd HC6.out.gr⟩
  | false =>
  cases hv2 : (k == 0) with
  | true =>
    go_wp2
    go_ret
    exact ⟨rfl, gbEnd HC6.out.gr⟩
  | false =>
  have hat : (M.gc S0 (A, B)).k ≠ 0 := by rw [hc]; simpa using hv2
  have HSm : Hid (M.Sm S0 f0 (A, B)) := hideIt (M.Wks.sm HM.out.w (A, B))
  obtain ⟨K, hK⟩ : ∃ K, f0.kin (A, B) = K := ⟨_, rfl⟩
  have hKl : K.length ≤ 50 := by rw [← hK]; exact Nat.le_trans (M.kin_len f0 (A, B)) (Nat.le_trans HM.out.len hn)
  clear hc hc' hev
  go_upto_region 7 with fail
  have T0 : Rxi wc.drew p 1 t w.heap.size 0 1 A B := Rxi.kept ⟨HC6.out.c1, HS6.out.sb.at0, HS6.out.sb.at1⟩ (gbDrewN wc 1 none)
  go_region_held3 (fun w' => Rxi w' p 1 t w.heap.size 0 1 A B)
    (first | with_reducible exact T0 | with_reducible exact T1 | fail)
    ((first | (go_at_call 14; refine ((HC6.out.kept (gbDrewN wc 1 none)).kin A B iA iB hm).mono ?_; rintro _ w7 ⟨vk, rfl, lk, g6⟩; have Gw7 : wc.grownBy w7 none := gbTrans (gbDrewN wc 1 none) g6; have T1 : Rxi w7 p 1 t w.heap.size 0 1 A B := T0.kept g6; have LK7 := hideIt (LB.new (HC6.out.kept (gbDrewN wc 1 none)) lk); rw [hK] at LK7; clear lk; clear g6) | fail))
  rename_i hold
  clear hold T0 T1
  have HC7 := hideIt (HC6.out.kept Gw7)
  have HS7 := hideIt (HS6.out.kept Gw7)
  have c0 := HC7.out.c0
  clear HC6 HS6 Gw7
  go_wp2_with fail
  refine (HC7.out.full).mono ?_
  rintro _ w8 ⟨vf, rfl, lf, g8⟩
  obtain ⟨F, hF⟩ : ∃ F, M.full S0 = F := ⟨_, rfl⟩
  have LF8 := hideIt (LB.new HC7.out lf)
  rw [hF] at LF8
  have hFl : F.length ≤ 50 := by rw [← hF, M.full_len_pre HM.out.i HC7.out.gs HC7.out.gt]; exact Nat.le_trans HM.out.len hn
  have HF : Hid (∀ x, x ∈ F → (M.gc S0 x).k ≠ 0 ∧ I64 x.1 ∧ I64 x.2) := hideIt (fun x hx => by
    rw [← hF] at hx
    have h1 := (M.mem_full HC7.out.gs x).1 hx
    exact ⟨h1, M.th_i64 HC7.out.gs (M.gc_th h1)⟩)
  have HC8 := hideIt (HC7.out.kept g8)
  have HS8 := hideIt (HS7.out.kept g8)
  have LK8 := hideIt (LK7.out.kept g8)
  clear lf c0 HC7 HS7 LK7 g8 hF
  obtain ⟨xf, cf, rfl⟩ := LF8.out.slice
  obtain ⟨xk, ck, rfl⟩ := LK8.out.slice
  go_upto_region 10 with fail
  have gM := gbAlloc w8 (.map #[] 0) none
  have HT : Hid (Ot w (w8.alloc (.map #[] 0)) O p s t 3 S0 f0 w.heap.size A B (.slice xk K.length ck) K (.slice xf F.length cf) F w8.heap.size 0 (M.wasM S0 F 0)) := hideIt ⟨HC8.out.kept gM, HS8.out.kept gM, LK8.out.kept gM, LF8.out.kept gM, (CMap.made w8).congr (fun n i => by unfold M.wasM; simp), fun e => by have := (HC8.out.lo _ e).2; omega, Nat.ne_of_lt HS8.out.sb.lt, fun e => by have := (LK8.out.ls.lt _ e).2; omega, fun e => by have := (LF8.out.ls.lt _ e).2; omega, HC8.out.gr.size⟩
  obtain ⟨W8, hW8⟩ : ∃ W8, w8.alloc (.map #[] 0) = W8 := ⟨_, rfl⟩
  rw [hW8] at HT ⊢
  obtain ⟨mb, hmb⟩ : ∃ mb, w8.heap.size = mb := ⟨_, rfl⟩
  rw [hmb] at HT ⊢
  clear hW8 hmb gM HC8 HS8 LK8 LF8
  obtain ⟨nf, hnf⟩ : ∃ nf, F.length = nf := ⟨_, rfl⟩
  obtain ⟨nk, hnk⟩ : ∃ nk, K.length = nk := ⟨_, rfl⟩
  have Hnf := hideIt hnf
  have Hnk := hideIt hnk
  have HH := hideIt hat
  rw [hnf, hnk] at HT
  rw [hnf] at hFl ⊢
  rw [hnk] at hKl ⊢
  clear hnf hnk hat
  go_wp2
  go_loopg [11] (nf + 1) (fun y i wr => ∃ j : Nat, j + y = nf + 1 ∧ j ≤ nf ∧ i = .int .i64 j ∧ Hid (Ot w wr O p s t 3 S0 f0 w.heap.size A B (.slice xk nk ck) K (.slice xf nf cf) F mb j (M.wasM S0 F j)))
  case atStart => exact ⟨0, by omega, by omega, rfl, HT⟩
  case round =>
    clear HT
    obtain ⟨j, hj, hjn, rfl, HT⟩ := hrel
    by_cases hlt : j < nf
    · have hlt' : (j : Int) < (nf : Int) := by omega
      have hjF : j < F.length := by rw [Hnf.out]; exact hlt
      obtain ⟨gf, P, R, rfl, hPR, EE, hgO⟩ := HT.out.lf.el hjF
      have HPR := hideIt hPR
      have HE := hideIt EE
      obtain ⟨hPk, iP, iR⟩ := HF.out (P, R) (List.mem_of_getElem? hPR)
      have HPk := hideIt hPk
      obtain ⟨⟨xk2, xq, xr, xb, xg, xn⟩, hx⟩ : ∃ c, M.gc S0 (P, R) = c := ⟨_, rfl⟩
      have hx' : M.getC S0 P R = ⟨xk2, xq, xr, xb, xg, xn⟩ := hx
      have hxe : M.getE S0 P R = 0 := M.getE_ok (M.gc_th hPk)
      have HC := hideIt HT.out.cs
      have Hx := hideIt hx
      clear hPR EE hPk hx
      obtain ⟨wo, rfl⟩ : ∃ wo, wo = wr := ⟨_, rfl⟩
      obtain ⟨Gk, rfl⟩ : ∃ Gk, Gk = gk := ⟨_, rfl⟩
      simp only at iP iR
      go_upto_region 13 with fail
      go_cut [12, 13] from 61 to 72 (fun sz se wc => ∃ Z : Nat, sz = .pointer (some ⟨Z, 0, none⟩) ∧ se = .int .i64 0 ∧ Hid (Box wc Z ⟨xk2, xq, xr, xb, xg, xn⟩) ∧ Hid (wo.heap.size ≤ Z) ∧ Hid (wo.grownBy wc none))
      case first =>
        have T0b : Rxi wo p 0 s gf (j * 2) (j * 2 + 1) P R := ⟨HC.out.c0, HE.out.at0, HE.out.at1⟩
        have T0 : Rxi wo.drew p 0 s gf (j * 2) (j * 2 + 1) P R := T0b.kept (gbDrewN wo 1 none)
        go_region_held3 (fun w' => Rxi w' p 0 s gf (j * 2) (j * 2 + 1) P R)
          (first | with_reducible exact T0 | (focus (refine Rxi.kept T0b ?_; (repeat (first | with_reducible exact G6 | with_reducible exact gbRefl wo none | with_reducible refine gbDrew ?_ | with_reducible refine gbAllocN ?_ _ | with_reducible refine gbSetNew ?_ _ _ _ (by with_reducible first | exact Nat.le_refl _ | exact G6.size))); done)) | fail)
          ((first | (go_at_call 11; refine ((HC.out.kept (by repeat (first | with_reducible exact gbRefl wo none | with_reducible refine gbDrew ?_ | with_reducible refine gbAllocN ?_ _))).get P R _ _ _ _ _ _ _ iP hx' hxe).mono ?_; rintro _ u6 ⟨rfl, g6⟩; have hc6 := gcell g6; have hf6 := gfroz g6; have G6 : wo.grownBy u6 none := (by first | exact gbTrans (gbDrewN wo 1 none) g6 | exact gbTrans (gbDrew (gbAllocN (gbRefl wo none) _)) g6)) | fail))
        · rename_i hold
          clear hold T0
          obtain ⟨W6, hW6, Z6, g7⟩ := boxNew u6 ⟨xk2, xq, xr, xb, xg, xn⟩
          simp only at hW6
          rw [hW6]
          go_wp2
          go_meet
          exact ⟨_, rfl, rfl, Z6, G6.size, gbTrans G6 g7⟩
        · rename_i hold
          clear hold T0
          have Z0 : Box u6 wo.heap.size C.zero := ((Box.made wo C.zero).kept (gbDrew (gbRefl _ none))).kept g6
          obtain ⟨W6, hW6, Z6, g7⟩ := Z0.put ⟨xk2, xq, xr, xb, xg, xn⟩
          simp only at hW6
          rw [hW6]
          go_wp2
          go_meet
          exact ⟨_, rfl, rfl, Z6, Nat.le_refl _, gbNew (gbTrans (gbAny G6 _) g7) (Nat.le_refl _)⟩
      case rest =>
      obtain ⟨Z3, rfl, rfl, HZ3, hZ3, G3⟩ := hcut
      have HT3 := hideIt (HT.out.kept G3.out)
      have HE3 := hideIt (HE.out.kept G3.out)
      have e0 := HE3.out.at0
      have e1 := HE3.out.at1
      obtain ⟨y0, y1, y2, y3, y4, y5, _, _⟩ := HZ3.out
      simp only at y0 y1 y2 y3 y4 y5
      obtain ⟨w9, hr9, mp9, g9⟩ := (HT3.out.kept (gbDrew (gbRefl wc none))).mp.put iP iR ⟨xk2, xq, xr, xb, xg, xn⟩ (by omega)
      have HT9 : Hid (Ot w w9 O p s t 3 S0 f0 w.heap.size A B (.slice xk nk ck) K (.slice (some ⟨gf, 0, none⟩) nf cf) F mb (j + 1) (M.wasM S0 F (j + 1))) := hideIt ((HT3.out.kept (gbDrew (gbRefl wc none))).map g9 (mp9.congr (fun n i => by rw [← M.wasM_next HPR.out n i, Hx.out])))
      clear mp9 g9 HT HE HC HT3 HE3 HZ3 hZ3 G3
      go_upto_region 14 with fail
      go_region
      clear hr9 e0 e1 y0 y1 y2 y3 y4 y5
      go_wp2
      go_roundg (Gk - 1)
      case rel => exact ⟨j + 1, by omega, by omega, by go_num, HT9⟩
      case measure => omega
    · have hlt' : ¬ (j : Int) < (nf : Int) := by omega
      obtain rfl : j = nf := by omega
      have z0 := HT.out.sb.sb.at0
      have z1 := HT.out.sb.sb.at1
      obtain ⟨⟨q, y⟩, hr⟩ : ∃ r, M.revR S0 f0 (A, B) 1000 = r := ⟨_, rfl⟩
      obtain ⟨hq, hyT, hyg, hyt, hok⟩ := M.rev_all HM.out.i HT.out.cs.gs HT.out.cs.gt HH.out HSm.out hm hr
      have HYG := hideIt hyg
      have HYT := hideIt hyt
      rw [hK] at HYG
      go_wp2_with fail
      refine (HT.out.cs.revoke_yes HM.out.i A B 1000 iA iB hm (M.face_ok (l := 1000) HH.out (by omega) (by omega)) q y hr).mono ?_
      rintro _ w9 ⟨tv, O9, rfl, A9, hs, F9, tl, hno⟩
      have HT9 := hideIt (HT.out.call A9 F9 hs)
      rw [hyT] at tl
      obtain ⟨tx, tc, rfl⟩ : ∃ tx tc, tv = .slice tx 0 tc := by
        rcases tl.form with ⟨rfl, _⟩ | ⟨g, cap, rfl, _⟩
        · exact ⟨_, _, rfl⟩
        · exact ⟨_, _, rfl⟩
      clear A9 hs F9 tl hno HT hr z0 z1 hyg hyt hyT hok hlt hlt' hj hjn
      go_wp2
      go_loopg [17] (j + 1) (fun y i wr => ∃ c : Nat, c + y = j + 1 ∧ c ≤ j ∧ i = .int .i64 c ∧ w9.grownBy wr none)
      case atStart => exact ⟨0, by omega, by omega, rfl, gbRefl _ _⟩
      case round =>
        obtain ⟨c, hcy, hcn, rfl, gw⟩ := hrel
        have HT := hideIt (HT9.out.kept gw)
        by_cases hlt : c < j
        · have hlt' : (c : Int) < (j : Int) := by omega
          have hcF : c < F.length := by rw [Hnf.out]; exact hlt
          obtain ⟨gf, P, R, rfl, hPR, EE, hgO⟩ := HT.out.lf.el hcF
          have HE := hideIt EE
          obtain ⟨hPk, iP, iR⟩ := HF.out (P, R) (List.mem_of_getElem? hPR)
          have HPm : Hid (M.wasM S0 F j P R = some (M.gc S0 (P, R))) := hideIt (by unfold M.wasM; rw [if_pos (by rw [List.take_of_length_le (by rw [Hnf.out]; exact Nat.le_refl _)]; exact List.mem_of_getElem? hPR)])
          have HPk := hideIt hPk
          clear hPR EE hPk
          simp only at iP iR
          obtain ⟨wo, rfl⟩ : ∃ wo, wo = wr := ⟨_, rfl⟩
          obtain ⟨Gk, hGk⟩ : ∃ Gk, Gk = gk := ⟨_, rfl⟩
          go_wp2
          go_loopg [18, 19] (nk + 1) (fun y b i wr => ∃ d : Nat, d + y = nk + 1 ∧ d ≤ nk ∧ b = .bool (decide ((P, R) ∈ K.take d)) ∧ i = .int .i64 d ∧ wo.grownBy wr none)
          case atStart => exact ⟨0, by omega, by omega, by simp, rfl, gbRefl _ _⟩
          case round =>
            obtain ⟨d, hdy, hdn, rfl, rfl, gd⟩ := hrel
            have HT2 := hideIt (HT.out.kept gd)
            have HE2 := hideIt (HE.out.kept gd)
            by_cases hlt3 : d < nk
            · have hlt3' : (d : Int) < (nk : Int) := by omega
              have hdK : d < K.length := by rw [Hnk.out]; exact hlt3
              obtain ⟨gk2, P2, R2, rfl, hPR2, EE2, _⟩ := HT2.out.lk.el hdK
              have hnext := M.take_dec K d (P, R) (P2, R2) hPR2
              have HNX := hideIt hnext
              have a0 : ∀ v : Gr wr, v.w.cell? ⟨gk2, d * 2, none⟩ = some (.int .i64 P2) := fun v => (EE2.kept v.g).at0
              have a1 : ∀ v : Gr wr, v.w.cell? ⟨gk2, d * 2 + 1, none⟩ = some (.int .i64 R2) := fun v => (EE2.kept v.g).at1
              have b0 : ∀ v : Gr wr, v.w.cell? ⟨gf, c * 2, none⟩ = some (.int .i64 P) := fun v => (HE2.out.kept v.g).at0
              have b1 : ∀ v : Gr wr, v.w.cell? ⟨gf, c * 2 + 1, none⟩ = some (.int .i64 R) := fun v => (HE2.out.kept v.g).at1
              clear hPR2 EE2 hnext
              cases hmine : decide ((P, R) ∈ K.take d) with
              | true =>
                have HNX' : Hid (decide ((P, R) ∈ K.take (d + 1)) = true) := hideIt (by rw [HNX.out, hmine]; rfl)
                go_wp2
                refine wp_region_grown (by kernel_rfl) (by kernel_rfl) fun _ => ?_
                repeat (go_big_quiet_step (fail))
                refine wpQuiet_nil ?_
                rintro w4 ⟨⟨_, g4⟩, rfl⟩
                go_wp2
                go_roundg (gk - 1)
                case rel => exact ⟨d + 1, by omega, by omega, by rw [HNX'.out], by go_num, gbTrans gd g4⟩
                case measure => omega
              | false =>
                have hsq : T9.M.seq P2 R2 P R = decide ((P2, R2) = (P, R)) := by
                  by_cases e : ((P2, R2) : Int × Int) = (P, R)
                  · rw [seq_iff.2 e]; simp [e]
                  · rw [seq_no.2 e]; simp [e]
                have HNX' : Hid (decide ((P, R) ∈ K.take (d + 1)) = decide (((P2, R2) : Int × Int) = (P, R))) := hideIt (by rw [HNX.out, hmine]; rfl)
                obtain ⟨z, hz⟩ : ∃ z, decide (((P2, R2) : Int × Int) = (P, R)) = z := ⟨_, rfl⟩
                rw [hz] at hsq HNX'
                clear hz
                go_wp2
                refine wp_region_grown (by kernel_rfl) (by kernel_rfl) fun _ => ?_
                repeat (go_big_quiet_step (fail))
                refine wpQuiet_nil ?_
                rintro w4 ⟨⟨_, g4⟩, rfl⟩
                go_wp2
                go_roundg (gk - 1)
                case rel => exact ⟨d + 1, by omega, by omega, by rw [HNX'.out], by go_num, gbTrans gd g4⟩
                case measure => omega
            · have hlt3' : ¬ (d : Int) < (nk : Int) := by omega
              obtain ⟨mine, hmi⟩ : ∃ m, decide ((P, R) ∈ K.take d) = m := ⟨_, rfl⟩
              have HMI : Hid (decide ((P, R) ∈ K) = mine) := hideIt (by rw [← hmi, List.take_of_length_le (by rw [Hnk.out]; omega)])
              rw [hmi]
              clear hmi
              obtain ⟨⟨xk2, xq, xr, xb, xg, xn⟩, hx⟩ : ∃ c, M.gc y.S (P, R) = c := ⟨_, rfl⟩
              have hx' : M.getC y.S P R = ⟨xk2, xq, xr, xb, xg, xn⟩ := hx
              have hxe : M.getE y.S P R = 0 := M.getE_ok (by rw [HYT.out]; exact M.gc_th HPk.out)
              have HC := hideIt HT2.out.cs
              have Hx := hideIt hx
              obtain ⟨wp, rfl⟩ : ∃ wp, wp = wr := ⟨_, rfl⟩
              clear hx hdy hdn hlt3
              go_wp2
              refine wp_loop_rounds 1 ?_
              rw [rounds_succ]
              go_upto_region 28 with fail
              go_cut [21, 22] from 138 to 149 (fun sz se wc => ∃ Z : Nat, sz = .pointer (some ⟨Z, 0, none⟩) ∧ se = .int .i64 0 ∧ Hid (Box wc Z ⟨xk2, xq, xr, xb, xg, xn⟩) ∧ Hid (wp.heap.size ≤ Z) ∧ Hid (wp.grownBy wc none))
              case first =>
                have T0b : Rxi wp p 0 s gf (c * 2) (c * 2 + 1) P R := ⟨HC.out.c0, HE2.out.at0, HE2.out.at1⟩
                have T0 : Rxi wp.drew p 0 s gf (c * 2) (c * 2 + 1) P R := T0b.kept (gbDrewN wp 1 none)
                go_region_held3 (fun w' => Rxi w' p 0 s gf (c * 2) (c * 2 + 1) P R)
                  (first | with_reducible exact T0 | (focus (refine Rxi.kept T0b ?_; (repeat (first | with_reducible exact G6 | with_reducible exact gbRefl wp none | with_reducible refine gbDrew ?_ | with_reducible refine gbAllocN ?_ _ | with_reducible refine gbSetNew ?_ _ _ _ (by with_reducible first | exact Nat.le_refl _ | exact G6.size))); done)) | fail)
                  ((first | (go_at_call 11; refine ((HC.out.kept (by repeat (first | with_reducible exact gbRefl wp none | with_reducible refine gbDrew ?_ | with_reducible refine gbAllocN ?_ _))).get P R _ _ _ _ _ _ _ iP hx' hxe).mono ?_; rintro _ u6 ⟨rfl, g6⟩; have hc6 := gcell g6; have hf6 := gfroz g6; have G6 : wp.grownBy u6 none := (by first | exact gbTrans (gbDrewN wp 1 none) g6 | exact gbTrans (gbDrew (gbAllocN (gbRefl wp none) _)) g6)) | fail))
                · rename_i hold
                  clear hold T0
                  obtain ⟨W6, hW6, Z6, g7⟩ := boxNew u6 ⟨xk2, xq, xr, xb, xg, xn⟩
                  simp only at hW6
                  rw [hW6]
                  go_wp2
                  go_meet
                  exact ⟨_, rfl, rfl, Z6, G6.size, gbTrans G6 g7⟩
                · rename_i hold
                  clear hold T0
                  have Z0 : Box u6 wp.heap.size C.zero := ((Box.made wp C.zero).kept (gbDrew (gbRefl _ none))).kept g6
                  obtain ⟨W6, hW6, Z6, g7⟩ := Z0.put ⟨xk2, xq, xr, xb, xg, xn⟩
                  simp only at hW6
                  rw [hW6]
                  go_wp2
                  go_meet
                  exact ⟨_, rfl, rfl, Z6, Nat.le_refl _, gbNew (gbTrans (gbAny G6 _) g7) (Nat.le_refl _)⟩
              case rest =>
              obtain ⟨Z5, rfl, rfl, HZ5, hZ5, G5⟩ := hcut
              have HT5 := hideIt (HT2.out.kept G5.out)
              have a0 : ∀ v : Gr wc, v.w.cell? ⟨gf, c * 2, none⟩ = some (.int .i64 P) := fun v => ((HE2.out.kept G5.out).kept v.g).at0
              have a1 : ∀ v : Gr wc, v.w.cell? ⟨gf, c * 2 + 1, none⟩ = some (.int .i64 R) := fun v => ((HE2.out.kept G5.out).kept v.g).at1
              have y0 : ∀ v : Gr wc, v.w.cell? ⟨Z5, 0, none⟩ = some (.int .i64 xk2) := fun v => v.g.cell HZ5.out.at0 (by simp)
              have y1 : ∀ v : Gr wc, v.w.cell? ⟨Z5, 1, none⟩ = some (.int .i64 xq) := fun v => v.g.cell HZ5.out.at1 (by simp)
              have y2 : ∀ v : Gr wc, v.w.cell? ⟨Z5, 2, none⟩ = some (.int .i64 xr) := fun v => v.g.cell HZ5.out.at2 (by simp)
              have y3 : ∀ v : Gr wc, v.w.cell? ⟨Z5, 3, none⟩ = some (.int .u64 xb) := fun v => v.g.cell HZ5.out.at3 (by simp)
              have y4 : ∀ v : Gr wc, v.w.cell? ⟨Z5, 4, none⟩ = some (.int .u64 xg) := fun v => v.g.cell HZ5.out.at4 (by simp)
              have y5 : ∀ v : Gr wc, v.w.cell? ⟨Z5, 5, none⟩ = some (.int .i64 xn) := fun v => v.g.cell HZ5.out.at5 (by simp)
              cases mine with
              | true =>
                go_upto_region 29 with fail
                refine wp_region_grown (by kernel_rfl) (by kernel_rfl) fun _ => ?_
                repeat (go_big_quiet_step (fail))
                refine wpQuiet_nil ?_
                rintro w4 ⟨⟨_, g4⟩, rfl⟩
                go_wp2
                go_roundg (Gk - 1)
                case rel => exact ⟨c + 1, by omega, by omega, by go_num, gbTrans gw (gbTrans gd (gbTrans G5.out g4))⟩
                case measure => omega
              | false =>
                have hsame : M.gc y.S (P, R) = M.gc S0 (P, R) := by rw [HYG.out, if_neg (by have := HMI.out; simpa using this)]
                have hlk : ∀ v : Gr wc, (Instr.lookup 49 (.map (some mb)) (sv P R) false).run Try.prog v.w = .ok (cv ⟨xk2, xq, xr, xb, xg, xn⟩) v.w := fun v => by
                  have := (HT5.out.kept v.g).mp.look iP iR
                  rw [HPm.out] at this
                  rw [← Hx.out, hsame]
                  exact this
                have heq : M.eq ⟨xk2, xq, xr, xb, xg, xn⟩ ⟨xk2, xq, xr, xb, xg, xn⟩ = true := M.eq_iff.2 rfl
                clear hsame
                go_upto_region 29 with fail
                refine wp_region_grown (by kernel_rfl) (by kernel_rfl) fun _ => ?_
                repeat (go_big_quiet_step (fail))
                refine wpQuiet_nil ?_
                rintro w4 ⟨⟨_, g4⟩, rfl⟩
                go_wp2
                go_roundg (Gk - 1)
                case rel => exact ⟨c + 1, by omega, by omega, by go_num, gbTrans gw (gbTrans gd (gbTrans G5.out g4))⟩
                case measure => omega
        · have hlt' : ¬ (c : Int) < (j : Int) := by omega
          go_wp2
          go_ret
          exact ⟨rfl, gbEnd HT.out.cs.gr⟩
theorem walk (x0 : Option Addr) (len0 cap0 : Nat) (A1 B1 : Int) (ia1 : I64 A1) (ib1 : I64 B1) (w : World) (hx0 : ∀ i, i < len0 → ∃ x q st, x0 = some x ∧ El18 w (x.add (i * 19)) q ∧ w.cell? ⟨(x.add (i * 19)).block, (x.add (i * 19)).off + 18, none⟩ = some (.int .i64 st) ∧ Op18 q ∧ I64 st) :
    Calls Try.prog 5 #[.slice x0 len0 cap0, sv A1 B1] w fun e w' => e = .returned (.bool true) ∧ Below w.heap.size w w' := by
  obtain ⟨qs, h⟩ := actsOf hx0
  exact core x0 len0 cap0 A1 B1 ia1 ib1 w qs (hideIt h)

set_option maxRecDepth 100000 in
theorem lifted (os : Os) (started : os.Started) (H : Type) (enc : TypeId × Value → H) :
    ReturnsInHanded {} Try.checked os 5 .any (Rows.revokeOthersSpec.pre6 enc Try.prog Try.f5 Rows.revokeOthersRow.domain false) (Rows.revokeOthersSpec.post enc Try.prog Try.f5 false true false false) := by
  refine returnsInHanded_of_change (C := Try.checked) own started (by kernel_rfl) Try.func5
    (ChangeSpec.witness6 (enc := enc) (C := Try.checked) false ⟨#[], #[.slice none 0 0, .agg #[.int .i64 0, .int .i64 0]], []⟩ 8 (by kernel_rfl) (by kernel_rfl) (by kernel_rfl) (by kernel_rfl)) ?_
  intro W base args ds gs before hval0 hW hcnd _
  have hval : ∀ (j : Nat) t v, Try.f5.params[j]? = some t → args[j]? = some v → Value.okWide Try.prog W .any base t v := hval0
  have hW' := hW
  obtain ⟨p, q, hA0, hV, rfl, hfz, hnd⟩ := hW
  have hA : DataW.TrodAll enc Try.prog W 0 (fun _ => true) true Try.f5.params.toList args.toList ds p := hA0
  rw [Try.params5] at hA hval
  obtain ⟨v0, vs0, d0, ds0, p0, q0, hargs, rfl, rfl, h0, r0⟩ := trodAll_cons hA
  obtain ⟨v1, vs1, d1, ds1, p1, q1, rfl, rfl, rfl, h1, r1⟩ := trodAll_cons r0
  obtain ⟨rfl, rfl, rfl⟩ := trodAll_nil r1
  obtain rfl : args = #[v0, v1] := by cases args; simp_all
  obtain ⟨rfl, rfl⟩ := trodVars_none hV
  obtain ⟨x0, len0, cap0, rfl⟩ := okWide_slice Try.underlying22 (hval 0 22 v0 rfl rfl)
  have hx0 := opsArg h0
  have k0 := h0
  have lt0 : ∀ x ∈ p0, x.block < W.heap.size := by obtain ⟨m, hm⟩ := k0; exact DataW.trod_lt m _ _ _ hm
  obtain ⟨A1, B1, rfl, ia1, ib1⟩ := slotArg (hval 1 24 v1 rfl rfl) h1
  have k1 := h1
  have lt1 : ∀ x ∈ p1, x.block < W.heap.size := by obtain ⟨m, hm⟩ := k1; exact DataW.trod_lt m _ _ _ hm
  clear hA0 hval0
  refine (walk x0 len0 cap0 A1 B1 ia1 ib1 W hx0).mono fun e W' ⟨he, bel⟩ => ?_
  subst he
  exact ⟨_, rfl, _, _, _, [], _, [], hW', trodAll_mk1 (shut_bool Try.underlying4 _), (trodAll_cons_mk (Below.trod laidOut (by kernel_rfl) (of_decide_eq_true (by kernel_rfl)) k0 bel lt0) (trodAll_cons_mk (Below.trod laidOut (by kernel_rfl) (of_decide_eq_true (by kernel_rfl)) k1 bel lt1) trodAll_mk0)), rfl, bel.frame _, fun h => by cases h⟩

theorem over : Rows.revokeOthersRow.holds Try.pinned (OpenSpec.ofChange Rows.revokeOthersSpec) :=
  OpenClaim.holds_of_wide 5 Try.f5 rfl rfl rfl rfl rfl rfl rfl ⟨rfl, rfl, rfl, rfl, rfl⟩ rfl rfl rfl rfl rfl (by kernel_rfl) Try.func5 (by kernel_rfl)
    (of_decide_eq_true (by kernel_rfl)) (by unfold Func.isWrapper; first | (rw [if_pos (by decide +kernel)]; kernel_rfl) | (rw [if_neg (by decide +kernel)]; exact ⟨rfl, rfl⟩))
    (fun os started H enc _ => lifted os started H enc)

theorem proved : Rows.RevokeOthersSaid := over
end Go.Proofs.Ytpfjcfgbecoccaa.revokeOthers
namespace Go.Proofs.Ytpfjcfgbecoccaa
theorem revokeOthers_holds : Rows.RevokeOthersSaid := revokeOthers.proved
#print axioms revokeOthers_holds
end Go.Proofs.Ytpfjcfgbecoccaa
