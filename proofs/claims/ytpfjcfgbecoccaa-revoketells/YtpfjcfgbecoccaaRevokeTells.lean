/- RevokeTells holds for every input: works, and then, whatever acts made the capabilities (at most fifty), of whatever slot, in however few steps a call: what Delete and Revoke tell, call by call, is what they tell at once, and the same slots are full behind it; each object that had a capability is told just once if it has none any more, and not at all if it has one. No condition. -/
import Derived.Test.YtpfjcfgbecoccaaTlw
import Derived.Deep.Cut
import Derived.Deep.DeepCutAuto
import Derived.Deep.RegionHeld3
import Derived.RegionTactic
import Derived.Test.YtpfjcfgbecoccaaArgs
import Derived.ProofKit
import Derived.OpenShut
import Derived.ShutString
import Derived.ChangeOld
import Derived.Below
import Derived.Deep.Slices
namespace Go.Proofs.Ytpfjcfgbecoccaa.revokeTells
open Go.ChangeShapes Go.WideShapes Go.ChangeAt Go.RowKit
set_option linter.unusedVariables false

theorem own : ownKnob Try.prog.godebug = none := by kernel_rfl
theorem laidOut : laidOutB Try.prog = true := by kernel_rfl

theorem _root_.Go.Proofs.Ytpfjcfgbecoccaa.M.chk_k {c : C} (h : M.chk c = 0) : 0 ≤ c.k ∧ c.k ≤ 100 := by
  have h2 := (M.chk_iff.1 h).1
  unfold M.knd at h2
  simp at h2
  omega
set_option maxRecDepth 10000 in
set_option maxHeartbeats 16000000 in
theorem core (xo : Option Addr) (len cap : Nat) (A B : Int) (iA : I64 A) (iB : I64 B) (a2 : Int) (b3 : Bool) (w : World) (qs : Nat → Q) (HX : Hid (Acts w xo len qs)) :
    Calls Try.prog 4 #[.slice xo len cap, sv A B, .int .i64 a2, .bool b3] w fun e w' => e = .returned (.bool true) ∧ Below w.heap.size w w' := by
  obtain ⟨U, st, hU, hU2, hst, hs1, hs6⟩ := stepsOf5 a2
  have hmm := @run_makeMap Try.prog
  go_enter Try.func4, Try.ntmps4
  go_upto_region 1 with fail
  obtain ⟨W, hW, X0, g0⟩ := sboxNew w A B
  rw [hW]
  clear hW
  go_wp2_with fail
  refine (works_is _).mono ?_
  rintro _ w1 ⟨rfl, g1⟩
  have gw1 := gbTrans g0 g1
  go_wp2_with fail
  refine (made_is gw1 xo len cap qs (hideIt (fun i hi => by obtain ⟨x, h1, h2, h3⟩ := HX.out i hi; exact ⟨x, h1, h2.kept gw1, h3⟩))).mono ?_
  rintro _ w2 ⟨pa, sa, ta, Oa, n, rfl, hn, A0, M0, g2, hOa⟩
  have gw2 := gbTrans gw1 g2
  go_wp2_with fail
  refine (made_is gw2 xo len cap qs (hideIt (fun i hi => by obtain ⟨x, h1, h2, h3⟩ := HX.out i hi; exact ⟨x, h1, h2.kept gw2, h3⟩))).mono ?_
  rintro _ w3 ⟨pb, sb, tb, Ob, n', rfl, _, B0, _, g3, hOb⟩
  obtain ⟨⟨S0, f0⟩, hX⟩ : ∃ X, M.mk11 qs (min len 50) = X := ⟨_, rfl⟩
  rw [hX] at A0 B0 M0
  have HM := hideIt M0
  have HT : Hid (Tb w w3 Oa Ob pa sa ta pb sb tb S0 f0 S0 f0 w.heap.size A B (.slice none 0 0) [] (.slice none 0 0) []) := hideIt ⟨A0.kept g3, B0, fun i h1 h2 => by have := hOb i h1; have := (A0.lo i h2).2; omega, ((X0.kept g1).kept g2).kept g3, fun e => by have := hOa _ e; have := X0.lt; have := g1.size; omega, fun e => by have := hOb _ e; have := X0.lt; have := g1.size; have := g2.size; omega, TL.nil _ _, (fun k hk => by cases hk), TL.nil _ _, (fun k hk => by cases hk)⟩
  clear A0 B0 M0 hX hOa hOb g3 gw2 g2 gw1 g1 X0 g0
  obtain ⟨⟨k, o, r, b, g, u⟩, hc⟩ : ∃ c, M.gc S0 (A, B) = c := ⟨_, rfl⟩
  obtain ⟨ev, hev⟩ : ∃ e, M.getE S0 A B = e := ⟨_, rfl⟩
  have hc' : M.getC S0 A B = ⟨k, o, r, b, g, u⟩ := hc
  have hm : f0.len ≤ 1000 := Nat.le_trans HM.out.len (by omega)
  have HCa := hideIt HT.out.ca
  have HSa : Hid (SB w3 Oa w.heap.size A B) := hideIt ⟨HT.out.sx, HT.out.xa⟩
  go_upto_region 5 with fail
  go_cut [11, 12] (fun sz se wc => ∃ Z : Nat, sz = .pointer (some ⟨Z, 0, none⟩) ∧ se = .int .i64 ev ∧ Hid (Box wc Z ⟨k, o, r, b, g, u⟩) ∧ Hid (w3.heap.size ≤ Z) ∧ Hid (w3.grownBy wc none))
  case first =>
    have T0b : Rxi w3 pa 0 sa w.heap.size 0 1 A B := ⟨HCa.out.c0, HSa.out.sb.at0, HSa.out.sb.at1⟩
    have T0 : Rxi w3.drew pa 0 sa w.heap.size 0 1 A B := T0b.kept (gbDrewN w3 1 none)
    go_region_held3 (fun w' => Rxi w' pa 0 sa w.heap.size 0 1 A B)
      (first | with_reducible exact T0 | (focus (refine Rxi.kept T0b ?_; (repeat (first | with_reducible exact G6 | with_reducible exact gbRefl w3 none | with_reducible refine gbDrew ?_ | with_reducible refine gbAllocN ?_ _ | with_reducible refine gbSetNew ?_ _ _ _ (by with_reducible first | exact Nat.le_refl _ | exact G6.size))); done)) | fail)
      ((first | (go_at_call 11; refine ((HCa.out.kept (by repeat (first | with_reducible exact gbRefl w3 none | with_reducible refine gbDrew ?_ | with_reducible refine gbAllocN ?_ _))).get A B _ _ _ _ _ _ _ iA hc' hev).mono ?_; rintro _ u6 ⟨rfl, g6⟩; have hc6 := gcell g6; have hf6 := gfroz g6; have G6 : w3.grownBy u6 none := (by first | exact gbTrans (gbDrewN w3 1 none) g6 | exact gbTrans (gbDrew (gbAllocN (gbRefl w3 none) _)) g6)) | fail))
    · rename_i hold
      clear hold T0
      obtain ⟨W6, hW6, Z6, g7⟩ := boxNew u6 ⟨k, o, r, b, g, u⟩
      simp only at hW6
      rw [hW6]
      go_wp2
      go_meet
      exact ⟨_, rfl, rfl, Z6, G6.size, gbTrans G6 g7⟩
    · rename_i hold
      clear hold T0
      have Z0 : Box u6 w3.heap.size C.zero := ((Box.made w3 C.zero).kept (gbDrew (gbRefl _ none))).kept g6
      obtain ⟨W6, hW6, Z6, g7⟩ := Z0.put ⟨k, o, r, b, g, u⟩
      simp only at hW6
      rw [hW6]
      go_wp2
      go_meet
      exact ⟨_, rfl, rfl, Z6, Nat.le_refl _, gbNew (gbTrans (gbAny G6 _) g7) (Nat.le_refl _)⟩
  case rest =>
  obtain ⟨Z6, rfl, rfl, HZ6, hZ6, G6⟩ := hcut
  have HT6 := hideIt (HT.out.kept G6.out)
  have z0 := HZ6.out.at0
  simp only at z0
  clear HT HCa HSa HZ6 hZ6 G6 hU hst
  cases hv1 : (ev != 0) with
  | true =>
    go_wp2
    go_ret
    exact ⟨rfl, gbEnd HT6.out.ca.gr⟩
  | false =>
  cases hv2 : (k == 0) with
  | true =>
    go_wp2
    go_ret
    exact ⟨rfl, gbEnd HT6.out.ca.gr⟩
  | false =>
  have hat : (M.gc S0 (A, B)).k ≠ 0 := by rw [hc]; simpa using hv2
  have HAt := hideIt hat
  have HSm : Hid (M.Sm S0 f0 (A, B)) := hideIt (M.Wks.sm HM.out.w (A, B))
  have c0 := HT6.out.ca.c0
  clear hc hc' hev hat
  go_wp2_with fail
  refine (HT6.out.ca.full).mono ?_
  rintro _ w8 ⟨vf, rfl, lf, g8⟩
  obtain ⟨F, hF⟩ : ∃ F, M.full S0 = F := ⟨_, rfl⟩
  have LF8 := hideIt (LB.new HT6.out.ca lf)
  rw [hF] at LF8
  have hFl : F.length ≤ 50 := by rw [← hF, M.full_len_pre HM.out.i HT6.out.ca.gs HT6.out.ca.gt]; exact Nat.le_trans HM.out.len hn
  have HF : Hid (∀ x, x ∈ F → (M.gc S0 x).k ≠ 0 ∧ I64 x.1 ∧ I64 x.2 ∧ I64 (M.gc S0 x).k ∧ I64 (M.gc S0 x).o ∧ 0 < M.cnt S0 (M.gc S0 x).k (M.gc S0 x).o) := hideIt (fun x hx => by
    have hx2 := hx
    rw [← hF] at hx
    have h1 := (M.mem_full HT6.out.ca.gs x).1 hx
    have h2 := M.th_i64 HT6.out.ca.gs (M.gc_th h1)
    have h3 := M.gc_chk HT6.out.ca.gs x
    have h4 := M.chk_o h3
    have h5 := M.chk_k h3
    refine ⟨h1, h2.1, h2.2, i64_of (by omega) (by omega), i64_of (by omega) (by omega), ?_⟩
    unfold M.cnt M.cntL
    exact List.length_pos_of_mem (a := x) (List.mem_filter.2 ⟨hx, M.hit_iff.2 ⟨rfl, rfl⟩⟩))
  have HT8 := hideIt (HT6.out.kept g8)
  clear lf c0 HT6 g8 hF
  obtain ⟨xf, cf, rfl⟩ := LF8.out.slice
  go_upto_region 10 with fail
  have gM := gbAlloc w8 (.map #[] 0) none
  have HQ : Hid (T1 w (w8.alloc (.map #[] 0)) Oa Ob pa sa ta pb sb tb S0 f0 S0 f0 w.heap.size A B (.slice none 0 0) [] (.slice xf F.length cf) F w8.heap.size) := hideIt ⟨HT8.out.kept gM, KM.made w8, fun e => by have := (HT8.out.ca.lo _ e).2; omega, fun e => by have := (HT8.out.cb.lo _ e).2; omega, Nat.ne_of_lt HT8.out.sx.lt, (by intro e; cases e), HT8.out.ca.gr.size, LF8.out.kept gM, fun e => by have := (LF8.out.ls.lt _ e).2; omega, (fun k _ e => by cases e)⟩
  obtain ⟨W8, hW8⟩ : ∃ W8, w8.alloc (.map #[] 0) = W8 := ⟨_, rfl⟩
  rw [hW8] at HQ ⊢
  obtain ⟨mb, hmb⟩ : ∃ mb, w8.heap.size = mb := ⟨_, rfl⟩
  rw [hmb] at HQ ⊢
  clear hW8 hmb gM HT8 LF8
  obtain ⟨nf, hnf⟩ : ∃ nf, F.length = nf := ⟨_, rfl⟩
  have Hnf := hideIt hnf
  rw [hnf] at HQ hFl ⊢
  clear hnf
  go_wp2
  go_loopg [15, 16] (nf + 1) (fun y vk i wr => ∃ (j : Nat) (KL : List C), j + y = nf + 1 ∧ j ≤ nf ∧ i = .int .i64 j ∧ KL.length ≤ j ∧ Hid (T1 w wr Oa Ob pa sa ta pb sb tb S0 f0 S0 f0 w.heap.size A B vk KL (.slice xf nf cf) F mb) ∧ Hid (∀ c ∈ KL, 0 < M.cnt S0 c.k c.o))
  case atStart => exact ⟨0, [], by omega, by omega, rfl, by simp, HQ, hideIt (by simp)⟩
  case round =>
    clear HQ
    obtain ⟨j, KL, hj, hjn, rfl, hKL, HQ, HKL⟩ := hrel
    by_cases hlt : j < nf
    · have hlt' : (j : Int) < (nf : Int) := by omega
      have hjF : j < F.length := by rw [Hnf.out]; exact hlt
      obtain ⟨gf, P, R, rfl, hPR, EE, hgO⟩ := HQ.out.lf.el hjF
      have HE := hideIt EE
      obtain ⟨hPk, iP, iR, iK, iO, hcn⟩ := HF.out (P, R) (List.mem_of_getElem? hPR)
      obtain ⟨⟨xk, xq, xr, xb, xg, xn⟩, hx⟩ : ∃ c, M.gc S0 (P, R) = c := ⟨_, rfl⟩
      have hx' : M.getC S0 P R = ⟨xk, xq, xr, xb, xg, xn⟩ := hx
      have hxe : M.getE S0 P R = 0 := M.getE_ok (M.gc_th hPk)
      rw [hx] at iK iO hcn
      simp only at iP iR iK iO
      have HCN := hideIt hcn
      have HC := hideIt HQ.out.tb.ca
      obtain ⟨lk, hlk0⟩ := keyOf_cap iK iO
      have HLK := hideIt hlk0
      clear hPR EE hPk hx hcn hlk0
      obtain ⟨wo, rfl⟩ : ∃ wo, wo = wr := ⟨_, rfl⟩
      obtain ⟨Gk, rfl⟩ : ∃ Gk, Gk = gk := ⟨_, rfl⟩
      go_upto_region 14 with fail
      go_cut [17, 18] from 66 to 77 (fun sz se wc => ∃ Z : Nat, sz = .pointer (some ⟨Z, 0, none⟩) ∧ se = .int .i64 0 ∧ Hid (Box wc Z ⟨xk, xq, xr, xb, xg, xn⟩) ∧ Hid (wo.heap.size ≤ Z) ∧ Hid (wo.grownBy wc none))
      case first =>
        have T0b : Rxi wo pa 0 sa gf (j * 2) (j * 2 + 1) P R := ⟨HC.out.c0, HE.out.at0, HE.out.at1⟩
        have T0 : Rxi wo.drew pa 0 sa gf (j * 2) (j * 2 + 1) P R := T0b.kept (gbDrewN wo 1 none)
        go_region_held3 (fun w' => Rxi w' pa 0 sa gf (j * 2) (j * 2 + 1) P R)
          (first | with_reducible exact T0 | (focus (refine Rxi.kept T0b ?_; (repeat (first | with_reducible exact G6 | with_reducible exact gbRefl wo none | with_reducible refine gbDrew ?_ | with_reducible refine gbAllocN ?_ _ | with_reducible refine gbSetNew ?_ _ _ _ (by with_reducible first | exact Nat.le_refl _ | exact G6.size))); done)) | fail)
          ((first | (go_at_call 11; refine ((HC.out.kept (by repeat (first | with_reducible exact gbRefl wo none | with_reducible refine gbDrew ?_ | with_reducible refine gbAllocN ?_ _))).get P R _ _ _ _ _ _ _ iP hx' hxe).mono ?_; rintro _ u6 ⟨rfl, g6⟩; have hc6 := gcell g6; have hf6 := gfroz g6; have G6 : wo.grownBy u6 none := (by first | exact gbTrans (gbDrewN wo 1 none) g6 | exact gbTrans (gbDrew (gbAllocN (gbRefl wo none) _)) g6)) | fail))
        · rename_i hold
          clear hold T0
          obtain ⟨W6, hW6, Z6, g7⟩ := boxNew u6 ⟨xk, xq, xr, xb, xg, xn⟩
          simp only at hW6
          rw [hW6]
          go_wp2
          go_meet
          exact ⟨_, rfl, rfl, Z6, G6.size, gbTrans G6 g7⟩
        · rename_i hold
          clear hold T0
          have Z0 : Box u6 wo.heap.size C.zero := ((Box.made wo C.zero).kept (gbDrew (gbRefl _ none))).kept g6
          obtain ⟨W6, hW6, Z6, g7⟩ := Z0.put ⟨xk, xq, xr, xb, xg, xn⟩
          simp only at hW6
          rw [hW6]
          go_wp2
          go_meet
          exact ⟨_, rfl, rfl, Z6, Nat.le_refl _, gbNew (gbTrans (gbAny G6 _) g7) (Nat.le_refl _)⟩
      case rest =>
      obtain ⟨Z3, rfl, rfl, HZ3, hZ3, G3⟩ := hcut
      have HQ3 := hideIt (HQ.out.kept G3.out)
      have y0 := HZ3.out.at0
      have y1 := HZ3.out.at1
      simp only at y0 y1
      clear HQ HC HE HZ3 hZ3 G3
      go_upto_region 16 with fail
      obtain ⟨W4, hW4, Z4, g4⟩ := boxNew wc ⟨xk, xq, 0, 0, 0, 0⟩
      simp only at hW4
      rw [hW4]
      clear hW4 y0 y1
      have HQ4 := hideIt (HQ3.out.kept g4)
      have HZ4 := hideIt Z4
      obtain ⟨e0, e1, e2, e3, e4, e5, _, _⟩ := Z4
      simp only at e0 e1 e2 e3 e4 e5
      obtain ⟨z, hlk⟩ := HQ4.out.km.look HLK.out
      obtain ⟨Zb, hZb⟩ : ∃ Zb, wc.heap.size = Zb := ⟨_, rfl⟩
      rw [hZb] at HZ4 e0 e1 e2 e3 e4 e5 ⊢
      have HZx : Hid (Zb ≠ mb) := hideIt (by rw [← hZb]; exact Ne.symm (Nat.ne_of_lt HQ3.out.km.lt))
      have HZk : Hid (∀ k, u15.ownBlock = some k → some Zb ≠ some k) := hideIt (fun k hk e => by have h1 := (HQ3.out.tb.kl.lt k hk).2; rw [← hZb] at e; cases e; omega)
      clear hZb HQ3 g4
      have HKk : Hid (∀ k, u15.ownBlock = some k → some Zb ≠ some k) := HZk
      cases hz : (z == 0) with
      | true =>
        go_upto_region 17 with fail
        have gA : W4.grownBy (W4.alloc (.cells (sixCells ⟨xk, xq, 0, 0, 0, 0⟩) 36)) none := gbAllocN (gbRefl _ _) _
        obtain ⟨v5, w5, hr5, l5, g5, o5⟩ := run_append_caps (W4.alloc (.cells (sixCells ⟨xk, xq, 0, 0, 0, 0⟩) 36)) w.heap.size u15 KL (HQ4.out.tb.kl.kept gA) 40 (some ⟨W4.heap.size, 0, none⟩) 1 1 [⟨xk, xq, 0, 0, 0, 0⟩] rfl (by simp) (by rintro ad ⟨⟩ j' u' hj'; exact rowCap W4 ⟨xk, xq, 0, 0, 0, 0⟩ j' u' hj') (by omega) (Nat.le_trans HQ4.out.tb.ca.gr.size gA.size)
        have HQ5 := hideIt ((HQ4.out.kept gA).app g5 l5 o5)
        have HZ5 : Hid (Box w5 Zb ⟨xk, xq, 0, 0, 0, 0⟩) := hideIt ((HZ4.out.kept gA).keep g5 (fun e => by
          cases hv : u15.ownBlock with
          | none => rw [hv] at e; cases e
          | some k => rw [hv] at e; exact HKk.out k hv e))
        have HKL5 : Hid (∀ c ∈ KL ++ [(⟨xk, xq, 0, 0, 0, 0⟩ : C)], 0 < M.cnt S0 c.k c.o) := hideIt (fun c hc => by
          rcases List.mem_append.1 hc with h | h
          · exact HKL.out c h
          · rw [List.mem_singleton] at h; subst h; exact HCN.out)
        clear gA g5 l5 o5 hlk
        go_upto_region 18 with (at_builtin; refine wpList_append_cap rfl (.tmp 87) (.tmp 89) rfl u15 (.slice (some ⟨W4.heap.size, 0, none⟩) 1 1) rfl rfl v5 w5 hr5 ?_)
        clear hr5 e0 e1 e2 e3 e4 e5
        obtain ⟨WX, hWX⟩ : ∃ WX, WX = w5 := ⟨_, rfl⟩
        have HQx : Hid (T1 w WX Oa Ob pa sa ta pb sb tb S0 f0 S0 f0 w.heap.size A B v5 (KL ++ [(⟨xk, xq, 0, 0, 0, 0⟩ : C)]) (.slice (some ⟨gf, 0, none⟩) nf cf) F mb) := by rw [hWX]; exact HQ5
        have HBx : Hid (Box WX Zb ⟨xk, xq, 0, 0, 0, 0⟩) := by rw [hWX]; exact HZ5
        rw [← hWX]
        clear hWX HQ5 HZ5 HQ4 HZ4
        obtain ⟨d0, d1, d2, d3, d4, d5, _, _⟩ := HBx.out
        simp only at d0 d1 d2 d3 d4 d5
        have HQd := hideIt (HQx.out.kept (gbDrewN WX 1 none))
        obtain ⟨zl, hl⟩ := HQd.out.km.look HLK.out
        obtain ⟨ze, bo, w6, he, ke, g6⟩ := HQd.out.km.entry HLK.out
        obtain ⟨zl2, hl2⟩ := ke.km.look HLK.out
        obtain ⟨w7, hs7, k7, g7⟩ := ke.store (IntKind.i64.wrap (zl + 1))
        obtain ⟨w8, hs8, k8, g8⟩ := ke.store (IntKind.i64.wrap (zl2 + 1))
        have HQ7 := hideIt (HQd.out.map (gbTrans g6 g7) k7)
        have HQ8 := hideIt (HQd.out.map (gbTrans g6 g8) k8)
        clear HQx HBx HQd ke g6 g7 g8 k7 k8
        refine wp_region_any (by kernel_rfl) ?_
        change wpAny _ _ _ _ _ _ _ (World.drew _)
        refine wpAny_take (i := 0) (v := ?_) rfl (by kernel_rfl) (by kernel_rfl) (by kernel_rfl) (fun _ _ _ h => h) (Or.inl ⟨by rfl, ?_⟩) ?_
        rotate_left
        · intro W1
          go_simp
          try (with_reducible rfl)
        refine wpAny_ready (rs := [1]) (by kernel_rfl) (by simp) ?_
        refine AllReady.cons rfl (fun K hK => ?_) AllReady.nil
        go_simp
        refine hK _ _ ?_
        clear hK K
        refine wpAny_ready (rs := [2, 4]) (by kernel_rfl) (by simp) ?_
        refine AllReady.cons rfl (fun K hK => ?_) (AllReady.cons rfl (fun K hK => ?_) AllReady.nil)
        · refine step_look rfl _ _ _ rfl (.map (some mb)) (cv ⟨xk, xq, 0, 0, 0, 0⟩) _ rfl rfl hl ?_
          try go_simp
          refine hK _ _ ?_
          clear hK K
          refine wpAny_take (i := 3) (v := ?_) rfl (by kernel_rfl) (by kernel_rfl) (by kernel_rfl) (fun _ _ _ h => h) (Or.inl ⟨by rfl, ?_⟩) ?_
          rotate_left
          · intro W1
            go_simp
            try (with_reducible rfl)
          refine wpAny_ready (rs := [4]) (by kernel_rfl) (by simp) ?_
          refine AllReady.cons rfl (fun K hK => ?_) AllReady.nil
          refine step_entry rfl _ _ _ rfl (.map (some mb)) (cv ⟨xk, xq, 0, 0, 0, 0⟩) _ rfl rfl he ?_
          try go_simp
          refine hK _ _ ?_
          clear hK K
          refine wpAny_ready (rs := [5]) (by kernel_rfl) (by simp) ?_
          refine AllReady.cons rfl (fun K hK => ?_) AllReady.nil
          go_simp
          refine hK _ _ ?_
          clear hK K
          refine wpAny_ready (rs := [6]) (by kernel_rfl) (by simp) ?_
          refine AllReady.cons rfl (fun K hK => ?_) AllReady.nil
          refine step_estore rfl _ _ _ _ rfl _ _ _ rfl rfl rfl hs7 ?_
          try go_simp
          refine hK _ _ ?_
          clear hK K
          refine wpAny_done (by kernel_rfl) ?_ _
          go_wp2
          go_roundg (Gk - 1)
          case rel => exact ⟨j + 1, KL ++ [(⟨xk, xq, 0, 0, 0, 0⟩ : C)], by omega, by omega, by go_num, by simp; omega, HQ7, HKL5⟩
          case measure => omega
        · refine step_entry rfl _ _ _ rfl (.map (some mb)) (cv ⟨xk, xq, 0, 0, 0, 0⟩) _ rfl rfl he ?_
          try go_simp
          refine hK _ _ ?_
          clear hK K
          refine wpAny_take (i := 5) (v := ?_) rfl (by kernel_rfl) (by kernel_rfl) (by kernel_rfl) (fun _ _ _ h => h) (Or.inl ⟨by rfl, ?_⟩) ?_
          rotate_left
          · intro W1
            go_simp
            try (with_reducible rfl)
          refine wpAny_ready (rs := [2]) (by kernel_rfl) (by simp) ?_
          refine AllReady.cons rfl (fun K hK => ?_) AllReady.nil
          refine step_look rfl _ _ _ rfl (.map (some mb)) (cv ⟨xk, xq, 0, 0, 0, 0⟩) _ rfl rfl hl2 ?_
          try go_simp
          refine hK _ _ ?_
          clear hK K
          refine wpAny_ready (rs := [3]) (by kernel_rfl) (by simp) ?_
          refine AllReady.cons rfl (fun K hK => ?_) AllReady.nil
          go_simp
          refine hK _ _ ?_
          clear hK K
          refine wpAny_ready (rs := [6]) (by kernel_rfl) (by simp) ?_
          refine AllReady.cons rfl (fun K hK => ?_) AllReady.nil
          refine step_estore rfl _ _ _ _ rfl _ _ _ rfl rfl rfl hs8 ?_
          try go_simp
          refine hK _ _ ?_
          clear hK K
          refine wpAny_done (by kernel_rfl) ?_ _
          go_wp2
          go_roundg (Gk - 1)
          case rel => exact ⟨j + 1, KL ++ [(⟨xk, xq, 0, 0, 0, 0⟩ : C)], by omega, by omega, by go_num, by simp; omega, HQ8, HKL5⟩
          case measure => omega
      | false =>
        go_upto_region 18 with fail
        clear hlk e0 e1 e2 e3 e4 e5
        obtain ⟨WX, hWX⟩ : ∃ WX, WX = W4 := ⟨_, rfl⟩
        have HQx : Hid (T1 w WX Oa Ob pa sa ta pb sb tb S0 f0 S0 f0 w.heap.size A B u15 (KL) (.slice (some ⟨gf, 0, none⟩) nf cf) F mb) := by rw [hWX]; exact HQ4
        have HBx : Hid (Box WX Zb ⟨xk, xq, 0, 0, 0, 0⟩) := by rw [hWX]; exact HZ4
        rw [← hWX]
        clear hWX HQ4 HZ4
        obtain ⟨d0, d1, d2, d3, d4, d5, _, _⟩ := HBx.out
        simp only at d0 d1 d2 d3 d4 d5
        have HQd := hideIt (HQx.out.kept (gbDrewN WX 1 none))
        obtain ⟨zl, hl⟩ := HQd.out.km.look HLK.out
        obtain ⟨ze, bo, w6, he, ke, g6⟩ := HQd.out.km.entry HLK.out
        obtain ⟨zl2, hl2⟩ := ke.km.look HLK.out
        obtain ⟨w7, hs7, k7, g7⟩ := ke.store (IntKind.i64.wrap (zl + 1))
        obtain ⟨w8, hs8, k8, g8⟩ := ke.store (IntKind.i64.wrap (zl2 + 1))
        have HQ7 := hideIt (HQd.out.map (gbTrans g6 g7) k7)
        have HQ8 := hideIt (HQd.out.map (gbTrans g6 g8) k8)
        clear HQx HBx HQd ke g6 g7 g8 k7 k8
        refine wp_region_any (by kernel_rfl) ?_
        change wpAny _ _ _ _ _ _ _ (World.drew _)
        refine wpAny_take (i := 0) (v := ?_) rfl (by kernel_rfl) (by kernel_rfl) (by kernel_rfl) (fun _ _ _ h => h) (Or.inl ⟨by rfl, ?_⟩) ?_
        rotate_left
        · intro W1
          go_simp
          try (with_reducible rfl)
        refine wpAny_ready (rs := [1]) (by kernel_rfl) (by simp) ?_
        refine AllReady.cons rfl (fun K hK => ?_) AllReady.nil
        go_simp
        refine hK _ _ ?_
        clear hK K
        refine wpAny_ready (rs := [2, 4]) (by kernel_rfl) (by simp) ?_
        refine AllReady.cons rfl (fun K hK => ?_) (AllReady.cons rfl (fun K hK => ?_) AllReady.nil)
        · refine step_look rfl _ _ _ rfl (.map (some mb)) (cv ⟨xk, xq, 0, 0, 0, 0⟩) _ rfl rfl hl ?_
          try go_simp
          refine hK _ _ ?_
          clear hK K
          refine wpAny_take (i := 3) (v := ?_) rfl (by kernel_rfl) (by kernel_rfl) (by kernel_rfl) (fun _ _ _ h => h) (Or.inl ⟨by rfl, ?_⟩) ?_
          rotate_left
          · intro W1
            go_simp
            try (with_reducible rfl)
          refine wpAny_ready (rs := [4]) (by kernel_rfl) (by simp) ?_
          refine AllReady.cons rfl (fun K hK => ?_) AllReady.nil
          refine step_entry rfl _ _ _ rfl (.map (some mb)) (cv ⟨xk, xq, 0, 0, 0, 0⟩) _ rfl rfl he ?_
          try go_simp
          refine hK _ _ ?_
          clear hK K
          refine wpAny_ready (rs := [5]) (by kernel_rfl) (by simp) ?_
          refine AllReady.cons rfl (fun K hK => ?_) AllReady.nil
          go_simp
          refine hK _ _ ?_
          clear hK K
          refine wpAny_ready (rs := [6]) (by kernel_rfl) (by simp) ?_
          refine AllReady.cons rfl (fun K hK => ?_) AllReady.nil
          refine step_estore rfl _ _ _ _ rfl _ _ _ rfl rfl rfl hs7 ?_
          try go_simp
          refine hK _ _ ?_
          clear hK K
          refine wpAny_done (by kernel_rfl) ?_ _
          go_wp2
          go_roundg (Gk - 1)
          case rel => exact ⟨j + 1, KL, by omega, by omega, by go_num, by omega, HQ7, HKL⟩
          case measure => omega
        · refine step_entry rfl _ _ _ rfl (.map (some mb)) (cv ⟨xk, xq, 0, 0, 0, 0⟩) _ rfl rfl he ?_
          try go_simp
          refine hK _ _ ?_
          clear hK K
          refine wpAny_take (i := 5) (v := ?_) rfl (by kernel_rfl) (by kernel_rfl) (by kernel_rfl) (fun _ _ _ h => h) (Or.inl ⟨by rfl, ?_⟩) ?_
          rotate_left
          · intro W1
            go_simp
            try (with_reducible rfl)
          refine wpAny_ready (rs := [2]) (by kernel_rfl) (by simp) ?_
          refine AllReady.cons rfl (fun K hK => ?_) AllReady.nil
          refine step_look rfl _ _ _ rfl (.map (some mb)) (cv ⟨xk, xq, 0, 0, 0, 0⟩) _ rfl rfl hl2 ?_
          try go_simp
          refine hK _ _ ?_
          clear hK K
          refine wpAny_ready (rs := [3]) (by kernel_rfl) (by simp) ?_
          refine AllReady.cons rfl (fun K hK => ?_) AllReady.nil
          go_simp
          refine hK _ _ ?_
          clear hK K
          refine wpAny_ready (rs := [6]) (by kernel_rfl) (by simp) ?_
          refine AllReady.cons rfl (fun K hK => ?_) AllReady.nil
          refine step_estore rfl _ _ _ _ rfl _ _ _ rfl rfl rfl hs8 ?_
          try go_simp
          refine hK _ _ ?_
          clear hK K
          refine wpAny_done (by kernel_rfl) ?_ _
          go_wp2
          go_roundg (Gk - 1)
          case rel => exact ⟨j + 1, KL, by omega, by omega, by go_num, by omega, HQ8, HKL⟩
          case measure => omega
    · have hlt' : ¬ (j : Int) < (nf : Int) := by omega
      have hK50 : KL.length ≤ 50 := by omega
      obtain ⟨N, hN⟩ : ∃ N, f0.len = N := ⟨_, rfl⟩
      have hN50 : N ≤ 50 := by rw [← hN]; exact Nat.le_trans HM.out.len hn
      have HT0 := hideIt HQ.out.tb
      have HL0 : Hid (M.Lw b3 S0 f0 (A, B) S0 f0 [] 1000 0) := hideIt (M.Lw.start HM.out.i HSm.out hm)
      clear HQ
      go_wp2
      go_loopg [20, 22] 101 (fun y s20 s22 wr => ∃ (c m : Nat) (T : List C) (S : St) (f : T9.Fo) (O : Nat → Prop), c + y = 101 ∧ s22 = .int .i64 c ∧ Hid (Tb w wr O Ob pa sa ta pb sb tb S f S0 f0 w.heap.size A B u15 KL s20 T) ∧ Hid (M.Lw b3 S0 f0 (A, B) S f T m c) ∧ T.length + f.len ≤ N ∧ f.len + c ≤ N)
      case atStart => exact ⟨0, 1000, [], S0, f0, Oa, by omega, rfl, HT0, HL0, by rw [hN]; simp, by rw [hN]; simp⟩
      case round =>
        clear HT0 HL0
        obtain ⟨c, m, T, S, f, O, hc, rfl, HT, HL, hTl, hle⟩ := hrel
        have hc100 : (c : Int) < 100 := by omega
        have hat : (M.gc S (A, B)).k ≠ 0 := by rw [HL.out.at_]; exact HAt.out
        have hm' : f.len ≤ 1000 := by omega
        have z0 := HT.out.sx.at0
        have z1 := HT.out.sx.at1
        cases b3 with
        | true =>
          obtain ⟨⟨q, y⟩, hr⟩ : ∃ r, M.revR S f (A, B) (st : Int) = r := ⟨_, rfl⟩
          have HR := hideIt (HL.out.rev HM.out.i HT.out.cb.gs HT.out.cb.gt hm HSm.out HT.out.ca.gs HT.out.ca.gt hat hr)
          go_wp2_with fail
          refine (HT.out.ca.revoke_yes HL.out.inv A B st iA iB hm' (M.face_ok hat hs1 (by omega)) q y hr).mono ?_
          rintro _ w7 ⟨tv, O7, rfl, A7, hs, F7, tl, hno⟩
          have HT7 := hideIt (HT.out.calla A7 F7 hs)
          have hT7 := HR.out.2.2
          obtain ⟨tx, tn, tc, v8, w8, rfl, hr8, tl8, g8, o8⟩ := run_append_tl11 w7 w.heap.size w.heap.size u20 tv T y.T HT7.out.tl tl (by rw [List.length_append] at hT7; omega) HT7.out.ca.gr.size
          have HT8 := hideIt (HT7.out.appT g8 tl8 o8)
          clear A7 hs F7 tl hno HT HT7 tl8 g8 o8 hr z0 z1 HL hat
          go_upto_region 28 with (at_builtin; refine wpList_append_cap rfl (.tmp 118) (.tmp 119) rfl u20 (.slice tx tn tc) rfl rfl v8 w8 hr8 ?_)
          clear hr8
          cases q with
          | true =>
            obtain ⟨L8, hl8⟩ := HR.out.1 rfl
            have HL8 := hideIt L8
            clear L8
            go_wp2
            go_roundg (gk - 1)
            case rel => exact ⟨c + 1, m, _, y.S, y.f, O7, by omega, by go_num, HT8, HL8, by omega, by omega⟩
            case measure => omega
          | false =>
            obtain ⟨y', D⟩ := HR.out.2.1 rfl
            have HD := hideIt D
            obtain ⟨U, hU⟩ : ∃ U, T ++ y.T = U := ⟨_, rfl⟩
            rw [hU] at HD HT8 hT7
            have hU50 : U.length ≤ 50 := by omega
            have z0 := HT8.out.sx.at0
            have z1 := HT8.out.sx.at1
            clear D hU HR hT7 hTl hle hc hc100
            go_wp2_with fail
            refine (HT8.out.cb.revoke_yes HM.out.i A B 1000 iA iB hm (M.face_ok (l := 1000) HAt.out (by omega) (by omega)) false y' HD.out.run).mono ?_
            rintro _ w9 ⟨tv2, O9, rfl, A9, hs9, F9, tl9, hno9⟩
            have HT9 := hideIt (HT8.out.callb A9 F9 hs9)
            rw [← HD.out.T] at tl9
            have HO9 := hideIt tl9
            have HFl : Hid (M.full y'.S = M.full y.S) := hideIt (M.full_congr A9.gs HT8.out.ca.gs (fun s => (HD.out.gc s).symm))
            have HTn : Hid (∀ c ∈ KL, M.tn U c.k c.o = if M.cnt y.S c.k c.o = 0 then 1 else 0) := hideIt (fun c hc => HD.out.told HT8.out.ca.gs A9.gs HM.out.i HT8.out.cb.gs HT8.out.cb.gt HAt.out c.k c.o (HKL.out c hc))
            have hf1024 : Hid ((M.full y.S).length ≤ 1024) := hideIt (M.full_len y.S)
            clear A9 hs9 F9 tl9 hno9 HT8 HD z0 z1
            obtain ⟨nu, hnu⟩ : ∃ nu, U.length = nu := ⟨_, rfl⟩
            obtain ⟨nk, hnk⟩ : ∃ nk, KL.length = nk := ⟨_, rfl⟩
            obtain ⟨vx, vc, rfl⟩ := HT9.out.tl.slice
            obtain ⟨kx, kc, rfl⟩ := HT9.out.kl.slice
            obtain ⟨ox, oc, rfl⟩ := HO9.out.slice
            have Hnu := hideIt hnu
            have Hnk := hideIt hnk
            rw [hnu] at HT9 HO9 hU50 ⊢
            rw [hnk] at HT9 hK50 ⊢
            have hU2000 : Hid (U.length ≤ 2000) := hideIt (by rw [hnu]; omega)
            clear hnu hnk
            go_upto_region 32 with fail
            have HN := hideIt (HT9.out.kept (gbDrewN w9 1 none))
            have HO := hideIt (HO9.out.kept (gbDrewN w9 1 none))
            have T2 : Ptr w9.drew pa 0 sa ∧ Ptr w9.drew pb 0 sb := ⟨HN.out.ca.c0, HN.out.cb.c0⟩
            clear HT9 HO9
            go_region_held3 (fun w' => Ptr w' pa 0 sa ∧ Ptr w' pb 0 sb)
              (first | with_reducible exact T2 | fail)
              ((first
                | (go_at_call 15; refine (samec_is HN.out.tl HO.out hU2000.out).mono ?_; rintro _ wy ⟨rfl, g⟩; replace HN := hideIt (HN.out.kept g); replace T2 : Ptr wy pa 0 sa ∧ Ptr wy pb 0 sb := ⟨HN.out.ca.c0, HN.out.cb.c0⟩; clear g HO)
                | (go_at_call 16; refine (T9.same_is LA.out LE.out hf1024.out).mono ?_; rintro _ wy ⟨rfl, g⟩; replace HN := hideIt (HN.out.kept g); replace T2 : Ptr wy pa 0 sa ∧ Ptr wy pb 0 sb := ⟨HN.out.ca.c0, HN.out.cb.c0⟩; clear g LA LE)
                | (go_at_call 10; with_reducible refine (HN.out.ca.full).mono ?_; rintro _ wy ⟨va, rfl, lk, g⟩; have LA := hideIt lk; replace HN := hideIt (HN.out.kept g); replace T2 : Ptr wy pa 0 sa ∧ Ptr wy pb 0 sb := ⟨HN.out.ca.c0, HN.out.cb.c0⟩; clear g lk)
                | (go_at_call 10; with_reducible refine (HN.out.cb.full).mono ?_; rintro _ wy ⟨vb, rfl, lk, g⟩; rw [HFl.out] at lk; have LE := hideIt lk; replace LA := hideIt (LA.out.kept g); replace HN := hideIt (HN.out.kept g); replace T2 : Ptr wy pa 0 sa ∧ Ptr wy pb 0 sb := ⟨HN.out.ca.c0, HN.out.cb.c0⟩; clear g lk)
                | fail))
            rename_i hold
            clear hold T2 HFl hf1024 hU2000
            go_wp2
            go_loopg [24] (nk + 1) (fun yy s24 wr => ∃ d : Nat, d + yy = nk + 1 ∧ d ≤ nk ∧ s24 = .int .i64 d ∧ Hid (Tb w wr O7 O9 pa sa ta pb sb tb y.S y.f y'.S y'.f w.heap.size A B (.slice kx nk kc) KL (.slice vx nu vc) U))
            case atStart => exact ⟨0, by omega, by omega, rfl, HN⟩
            case round =>
              clear HN
              obtain ⟨d, hd, hdn, rfl, HN⟩ := hrel
              by_cases hlt3 : d < nk
              · have hlt3' : (d : Int) < (nk : Int) := by omega
                obtain ⟨⟨ck, co, cr, cb, cg, cn⟩, hce⟩ : ∃ c, KL[d]? = some c := ⟨_, List.getElem?_eq_getElem (by rw [Hnk.out]; exact hlt3)⟩
                obtain ⟨gx, rfl⟩ := HN.out.kl.some (by omega)
                have HCe := hideIt hce
                have HTc := hideIt (HTn.out _ (List.mem_of_getElem? hce))
                obtain ⟨Gk, rfl⟩ : ∃ Gk, Gk = gk := ⟨_, rfl⟩
                clear hce
                go_wp2
                go_loopg [25, 26] (nu + 1) (fun yy s25 s26 wr => ∃ e : Nat, e + yy = nu + 1 ∧ e ≤ nu ∧ s25 = .int .i64 (M.tn (U.take e) ck co : Nat) ∧ s26 = .int .i64 e ∧ Hid (Tb w wr O7 O9 pa sa ta pb sb tb y.S y.f y'.S y'.f w.heap.size A B (.slice (some ⟨gx, 0, none⟩) nk kc) KL (.slice vx nu vc) U))
                case atStart => exact ⟨0, by omega, by omega, by rw [List.take_zero]; rfl, rfl, HN⟩
                case round =>
                  clear HN
                  obtain ⟨e, he, hen, rfl, rfl, HN⟩ := hrel
                  obtain ⟨n', hn'⟩ : ∃ n', M.tn (U.take e) ck co = n' := ⟨_, rfl⟩
                  have hn50 : n' ≤ 50 := by
                    have h1 := M.tn_le (U.take e) ck co
                    rw [List.length_take, Hnu.out] at h1
                    omega
                  have Hn' := hideIt hn'
                  rw [hn']
                  clear hn'
                  have K := HN.out.kl.el d _ HCe.out
                  have b0 : ∀ v : Gr wr, v.w.cell? ⟨gx, d * 6, none⟩ = some (.int .i64 ck) := fun v => v.g.cell K.1 (by simp)
                  have b1 : ∀ v : Gr wr, v.w.cell? ⟨gx, d * 6 + 1, none⟩ = some (.int .i64 co) := fun v => v.g.cell K.2.1 (by simp)
                  clear K
                  by_cases hlt4 : e < nu
                  · have hlt4' : (e : Int) < (nu : Int) := by omega
                    obtain ⟨⟨tk, to', tr, tb', tg, tn'⟩, hte⟩ : ∃ c, U[e]? = some c := ⟨_, List.getElem?_eq_getElem (by rw [Hnu.out]; exact hlt4)⟩
                    obtain ⟨gt, rfl⟩ := HN.out.tl.some (by omega)
                    have E := HN.out.tl.el e _ hte
                    have a0 : ∀ v : Gr wr, v.w.cell? ⟨gt, e * 6, none⟩ = some (.int .i64 tk) := fun v => v.g.cell E.1 (by simp)
                    have a1 : ∀ v : Gr wr, v.w.cell? ⟨gt, e * 6 + 1, none⟩ = some (.int .i64 to') := fun v => v.g.cell E.2.1 (by simp)
                    have HS' := hideIt (M.tn_step hte ck co)
                    rw [Hn'.out] at HS'
                    clear E hte
                    cases h1 : (tk == ck) with
                    | false =>
                      have HS : Hid (M.tn (U.take (e + 1)) ck co = n') := hideIt (by rw [HS'.out]; simp [h1])
                      go_wp2
                      refine wp_region_grown (by kernel_rfl) (by kernel_rfl) fun _ => ?_
                      repeat (go_big_quiet_step (fail))
                      refine wpQuiet_nil ?_
                      rintro w4 ⟨⟨_, g4⟩, rfl⟩
                      clear a0 a1 b0 b1
                      have HN4 := hideIt (HN.out.kept g4)
                      clear HN g4
                      go_wp2
                      go_roundg (gk - 1)
                      case rel => exact ⟨e + 1, by omega, by omega, by rw [HS.out], by go_num, HN4⟩
                      case measure => omega
                    | true =>
                      cases h2 : (to' == co) with
                      | false =>
                        have HS : Hid (M.tn (U.take (e + 1)) ck co = n') := hideIt (by rw [HS'.out]; simp [h1, h2])
                        go_wp2
                        refine wp_region_grown (by kernel_rfl) (by kernel_rfl) fun _ => ?_
                        repeat (go_big_quiet_step (fail))
                        refine wpQuiet_nil ?_
                        rintro w4 ⟨⟨_, g4⟩, rfl⟩
                        clear a0 a1 b0 b1
                        have HN4 := hideIt (HN.out.kept g4)
                        clear HN g4
                        go_wp2
                        go_roundg (gk - 1)
                        case rel => exact ⟨e + 1, by omega, by omega, by rw [HS.out], by go_num, HN4⟩
                        case measure => omega
                      | true =>
                        have HS : Hid (M.tn (U.take (e + 1)) ck co = n' + 1) := hideIt (by rw [HS'.out]; simp [h1, h2])
                        go_wp2
                        refine wp_region_grown (by kernel_rfl) (by kernel_rfl) fun _ => ?_
                        repeat (go_big_quiet_step (fail))
                        refine wpQuiet_nil ?_
                        rintro w4 ⟨⟨_, g4⟩, rfl⟩
                        clear a0 a1 b0 b1
                        have HN4 := hideIt (HN.out.kept g4)
                        clear HN g4
                        go_wp2
                        go_roundg (gk - 1)
                        case rel => exact ⟨e + 1, by omega, by omega, by rw [HS.out]; go_num, by go_num, HN4⟩
                        case measure => omega
                  · have hlt4' : ¬ (e : Int) < (nu : Int) := by omega
                    have hnn : n' = if M.cnt y.S ck co = 0 then 1 else 0 := by
                      rw [← Hn'.out, List.take_of_length_le (by rw [Hnu.out]; omega)]
                      exact HTc.out
                    have p0 : ∀ v : Gr wr, v.w.cell? ⟨pa, 0, none⟩ = some (.pointer (some ⟨sa, 0, none⟩)) := fun v => (HN.out.ca.kept v.g).c0
                    by_cases hz : M.cnt y.S ck co = 0
                    · rw [if_pos hz] at hnn
                      subst hnn
                      have HCt := HN.out.ca.count ck co 0 (by rw [hz]; rfl)
                      go_upto_region 43 with fail
                      refine wp_region_grown (by kernel_rfl) (by kernel_rfl) fun _ => ?_
                      repeat (go_big_quiet_step ((go_at_call 17; with_reducible exact callsGr (HCt _ (Gr.g _)))))
                      refine wpQuiet_nil ?_
                      rintro w4 ⟨⟨_, g4⟩, rfl⟩
                      clear b0 b1 p0 HCt
                      have HN4 := hideIt (HN.out.kept g4)
                      clear HN g4
                      go_wp2
                      go_roundg (Gk - 1)
                      case rel => exact ⟨d + 1, by omega, by omega, by go_num, HN4⟩
                      case measure => omega
                    · rw [if_neg hz] at hnn
                      subst hnn
                      obtain ⟨cq, hcq⟩ : ∃ cq : Int, (M.cnt y.S ck co : Int) = cq := ⟨_, rfl⟩
                      have hq0 : (cq == 0) = false := by rw [← hcq]; simp; omega
                      have HCt := HN.out.ca.count ck co cq hcq
                      clear hcq
                      go_upto_region 43 with fail
                      refine wp_region_grown (by kernel_rfl) (by kernel_rfl) fun _ => ?_
                      repeat (go_big_quiet_step ((go_at_call 17; with_reducible exact callsGr (HCt _ (Gr.g _)))))
                      refine wpQuiet_nil ?_
                      rintro w4 ⟨⟨_, g4⟩, rfl⟩
                      clear b0 b1 p0 HCt
                      have HN4 := hideIt (HN.out.kept g4)
                      clear HN g4
                      go_wp2
                      go_roundg (Gk - 1)
                      case rel => exact ⟨d + 1, by omega, by omega, by go_num, HN4⟩
                      case measure => omega
              · have hlt3' : ¬ (d : Int) < (nk : Int) := by omega
                go_wp2
                go_ret
                exact ⟨rfl, gbEnd HN.out.ca.gr⟩
        | false =>
          obtain ⟨⟨q, y⟩, hr⟩ : ∃ r, M.delR S f (A, B) (st : Int) = r := ⟨_, rfl⟩
          have HR := hideIt (HL.out.del HT.out.ca.gs HT.out.ca.gt hat (by omega) hs6 hr)
          go_wp2_with fail
          refine (HT.out.ca.delete_yes HL.out.inv A B st iA iB hm' (M.face_ok hat hs1 (by omega)) q y hr).mono ?_
          rintro _ w7 ⟨tv, O7, rfl, A7, hs, F7, tl, hno⟩
          have HT7 := hideIt (HT.out.calla A7 F7 hs)
          have hT7 := HR.out.2.2
          obtain ⟨tx, tn, tc, v8, w8, rfl, hr8, tl8, g8, o8⟩ := run_append_tl11 w7 w.heap.size w.heap.size u20 tv T y.T HT7.out.tl tl (by rw [List.length_append] at hT7; omega) HT7.out.ca.gr.size
          have HT8 := hideIt (HT7.out.appT g8 tl8 o8)
          clear A7 hs F7 tl hno HT HT7 tl8 g8 o8 hr z0 z1 HL hat
          go_upto_region 28 with (at_builtin; refine wpList_append_cap rfl (.tmp 118) (.tmp 119) rfl u20 (.slice tx tn tc) rfl rfl v8 w8 hr8 ?_)
          clear hr8
          cases q with
          | true =>
            obtain ⟨L8, hl8⟩ := HR.out.1 rfl
            have HL8 := hideIt L8
            clear L8
            go_wp2
            go_roundg (gk - 1)
            case rel => exact ⟨c + 1, m - st, _, y.S, y.f, O7, by omega, by go_num, HT8, HL8, by omega, by omega⟩
            case measure => omega
          | false =>
            obtain ⟨y', D⟩ := HR.out.2.1 rfl
            have HD := hideIt D
            obtain ⟨U, hU⟩ : ∃ U, T ++ y.T = U := ⟨_, rfl⟩
            rw [hU] at HD HT8 hT7
            have hU50 : U.length ≤ 50 := by omega
            have z0 := HT8.out.sx.at0
            have z1 := HT8.out.sx.at1
            clear D hU HR hT7 hTl hle hc hc100
            go_wp2_with fail
            refine (HT8.out.cb.delete_yes HM.out.i A B 1000 iA iB hm (M.face_ok (l := 1000) HAt.out (by omega) (by omega)) false y' HD.out.run).mono ?_
            rintro _ w9 ⟨tv2, O9, rfl, A9, hs9, F9, tl9, hno9⟩
            have HT9 := hideIt (HT8.out.callb A9 F9 hs9)
            rw [← HD.out.T] at tl9
            have HO9 := hideIt tl9
            have HFl : Hid (M.full y'.S = M.full y.S) := hideIt (M.full_congr A9.gs HT8.out.ca.gs (fun s => (HD.out.gc s).symm))
            have HTn : Hid (∀ c ∈ KL, M.tn U c.k c.o = if M.cnt y.S c.k c.o = 0 then 1 else 0) := hideIt (fun c hc => HD.out.told HT8.out.ca.gs A9.gs HM.out.i HT8.out.cb.gs HT8.out.cb.gt HAt.out c.k c.o (HKL.out c hc))
            have hf1024 : Hid ((M.full y.S).length ≤ 1024) := hideIt (M.full_len y.S)
            clear A9 hs9 F9 tl9 hno9 HT8 HD z0 z1
            obtain ⟨nu, hnu⟩ : ∃ nu, U.length = nu := ⟨_, rfl⟩
            obtain ⟨nk, hnk⟩ : ∃ nk, KL.length = nk := ⟨_, rfl⟩
            obtain ⟨vx, vc, rfl⟩ := HT9.out.tl.slice
            obtain ⟨kx, kc, rfl⟩ := HT9.out.kl.slice
            obtain ⟨ox, oc, rfl⟩ := HO9.out.slice
            have Hnu := hideIt hnu
            have Hnk := hideIt hnk
            rw [hnu] at HT9 HO9 hU50 ⊢
            rw [hnk] at HT9 hK50 ⊢
            have hU2000 : Hid (U.length ≤ 2000) := hideIt (by rw [hnu]; omega)
            clear hnu hnk
            go_upto_region 32 with fail
            have HN := hideIt (HT9.out.kept (gbDrewN w9 1 none))
            have HO := hideIt (HO9.out.kept (gbDrewN w9 1 none))
            have T2 : Ptr w9.drew pa 0 sa ∧ Ptr w9.drew pb 0 sb := ⟨HN.out.ca.c0, HN.out.cb.c0⟩
            clear HT9 HO9
            go_region_held3 (fun w' => Ptr w' pa 0 sa ∧ Ptr w' pb 0 sb)
              (first | with_reducible exact T2 | fail)
              ((first
                | (go_at_call 15; refine (samec_is HN.out.tl HO.out hU2000.out).mono ?_; rintro _ wy ⟨rfl, g⟩; replace HN := hideIt (HN.out.kept g); replace T2 : Ptr wy pa 0 sa ∧ Ptr wy pb 0 sb := ⟨HN.out.ca.c0, HN.out.cb.c0⟩; clear g HO)
                | (go_at_call 16; refine (T9.same_is LA.out LE.out hf1024.out).mono ?_; rintro _ wy ⟨rfl, g⟩; replace HN := hideIt (HN.out.kept g); replace T2 : Ptr wy pa 0 sa ∧ Ptr wy pb 0 sb := ⟨HN.out.ca.c0, HN.out.cb.c0⟩; clear g LA LE)
                | (go_at_call 10; with_reducible refine (HN.out.ca.full).mono ?_; rintro _ wy ⟨va, rfl, lk, g⟩; have LA := hideIt lk; replace HN := hideIt (HN.out.kept g); replace T2 : Ptr wy pa 0 sa ∧ Ptr wy pb 0 sb := ⟨HN.out.ca.c0, HN.out.cb.c0⟩; clear g lk)
                | (go_at_call 10; with_reducible refine (HN.out.cb.full).mono ?_; rintro _ wy ⟨vb, rfl, lk, g⟩; rw [HFl.out] at lk; have LE := hideIt lk; replace LA := hideIt (LA.out.kept g); replace HN := hideIt (HN.out.kept g); replace T2 : Ptr wy pa 0 sa ∧ Ptr wy pb 0 sb := ⟨HN.out.ca.c0, HN.out.cb.c0⟩; clear g lk)
                | fail))
            rename_i hold
            clear hold T2 HFl hf1024 hU2000
            go_wp2
            go_loopg [24] (nk + 1) (fun yy s24 wr => ∃ d : Nat, d + yy = nk + 1 ∧ d ≤ nk ∧ s24 = .int .i64 d ∧ Hid (Tb w wr O7 O9 pa sa ta pb sb tb y.S y.f y'.S y'.f w.heap.size A B (.slice kx nk kc) KL (.slice vx nu vc) U))
            case atStart => exact ⟨0, by omega, by omega, rfl, HN⟩
            case round =>
              clear HN
              obtain ⟨d, hd, hdn, rfl, HN⟩ := hrel
              by_cases hlt3 : d < nk
              · have hlt3' : (d : Int) < (nk : Int) := by omega
                obtain ⟨⟨ck, co, cr, cb, cg, cn⟩, hce⟩ : ∃ c, KL[d]? = some c := ⟨_, List.getElem?_eq_getElem (by rw [Hnk.out]; exact hlt3)⟩
                obtain ⟨gx, rfl⟩ := HN.out.kl.some (by omega)
                have HCe := hideIt hce
                have HTc := hideIt (HTn.out _ (List.mem_of_getElem? hce))
                obtain ⟨Gk, rfl⟩ : ∃ Gk, Gk = gk := ⟨_, rfl⟩
                clear hce
                go_wp2
                go_loopg [25, 26] (nu + 1) (fun yy s25 s26 wr => ∃ e : Nat, e + yy = nu + 1 ∧ e ≤ nu ∧ s25 = .int .i64 (M.tn (U.take e) ck co : Nat) ∧ s26 = .int .i64 e ∧ Hid (Tb w wr O7 O9 pa sa ta pb sb tb y.S y.f y'.S y'.f w.heap.size A B (.slice (some ⟨gx, 0, none⟩) nk kc) KL (.slice vx nu vc) U))
                case atStart => exact ⟨0, by omega, by omega, by rw [List.take_zero]; rfl, rfl, HN⟩
                case round =>
                  clear HN
                  obtain ⟨e, he, hen, rfl, rfl, HN⟩ := hrel
                  obtain ⟨n', hn'⟩ : ∃ n', M.tn (U.take e) ck co = n' := ⟨_, rfl⟩
                  have hn50 : n' ≤ 50 := by
                    have h1 := M.tn_le (U.take e) ck co
                    rw [List.length_take, Hnu.out] at h1
                    omega
                  have Hn' := hideIt hn'
                  rw [hn']
                  clear hn'
                  have K := HN.out.kl.el d _ HCe.out
                  have b0 : ∀ v : Gr wr, v.w.cell? ⟨gx, d * 6, none⟩ = some (.int .i64 ck) := fun v => v.g.cell K.1 (by simp)
                  have b1 : ∀ v : Gr wr, v.w.cell? ⟨gx, d * 6 + 1, none⟩ = some (.int .i64 co) := fun v => v.g.cell K.2.1 (by simp)
                  clear K
                  by_cases hlt4 : e < nu
                  · have hlt4' : (e : Int) < (nu : Int) := by omega
                    obtain ⟨⟨tk, to', tr, tb', tg, tn'⟩, hte⟩ : ∃ c, U[e]? = some c := ⟨_, List.getElem?_eq_getElem (by rw [Hnu.out]; exact hlt4)⟩
                    obtain ⟨gt, rfl⟩ := HN.out.tl.some (by omega)
                    have E := HN.out.tl.el e _ hte
                    have a0 : ∀ v : Gr wr, v.w.cell? ⟨gt, e * 6, none⟩ = some (.int .i64 tk) := fun v => v.g.cell E.1 (by simp)
                    have a1 : ∀ v : Gr wr, v.w.cell? ⟨gt, e * 6 + 1, none⟩ = some (.int .i64 to') := fun v => v.g.cell E.2.1 (by simp)
                    have HS' := hideIt (M.tn_step hte ck co)
                    rw [Hn'.out] at HS'
                    clear E hte
                    cases h1 : (tk == ck) with
                    | false =>
                      have HS : Hid (M.tn (U.take (e + 1)) ck co = n') := hideIt (by rw [HS'.out]; simp [h1])
                      go_wp2
                      refine wp_region_grown (by kernel_rfl) (by kernel_rfl) fun _ => ?_
                      repeat (go_big_quiet_step (fail))
                      refine wpQuiet_nil ?_
                      rintro w4 ⟨⟨_, g4⟩, rfl⟩
                      clear a0 a1 b0 b1
                      have HN4 := hideIt (HN.out.kept g4)
                      clear HN g4
                      go_wp2
                      go_roundg (gk - 1)
                      case rel => exact ⟨e + 1, by omega, by omega, by rw [HS.out], by go_num, HN4⟩
                      case measure => omega
                    | true =>
                      cases h2 : (to' == co) with
                      | false =>
                        have HS : Hid (M.tn (U.take (e + 1)) ck co = n') := hideIt (by rw [HS'.out]; simp [h1, h2])
                        go_wp2
                        refine wp_region_grown (by kernel_rfl) (by kernel_rfl) fun _ => ?_
                        repeat (go_big_quiet_step (fail))
                        refine wpQuiet_nil ?_
                        rintro w4 ⟨⟨_, g4⟩, rfl⟩
                        clear a0 a1 b0 b1
                        have HN4 := hideIt (HN.out.kept g4)
                        clear HN g4
                        go_wp2
                        go_roundg (gk - 1)
                        case rel => exact ⟨e + 1, by omega, by omega, by rw [HS.out], by go_num, HN4⟩
                        case measure => omega
                      | true =>
                        have HS : Hid (M.tn (U.take (e + 1)) ck co = n' + 1) := hideIt (by rw [HS'.out]; simp [h1, h2])
                        go_wp2
                        refine wp_region_grown (by kernel_rfl) (by kernel_rfl) fun _ => ?_
                        repeat (go_big_quiet_step (fail))
                        refine wpQuiet_nil ?_
                        rintro w4 ⟨⟨_, g4⟩, rfl⟩
                        clear a0 a1 b0 b1
                        have HN4 := hideIt (HN.out.kept g4)
                        clear HN g4
                        go_wp2
                        go_roundg (gk - 1)
                        case rel => exact ⟨e + 1, by omega, by omega, by rw [HS.out]; go_num, by go_num, HN4⟩
                        case measure => omega
                  · have hlt4' : ¬ (e : Int) < (nu : Int) := by omega
                    have hnn : n' = if M.cnt y.S ck co = 0 then 1 else 0 := by
                      rw [← Hn'.out, List.take_of_length_le (by rw [Hnu.out]; omega)]
                      exact HTc.out
                    have p0 : ∀ v : Gr wr, v.w.cell? ⟨pa, 0, none⟩ = some (.pointer (some ⟨sa, 0, none⟩)) := fun v => (HN.out.ca.kept v.g).c0
                    by_cases hz : M.cnt y.S ck co = 0
                    · rw [if_pos hz] at hnn
                      subst hnn
                      have HCt := HN.out.ca.count ck co 0 (by rw [hz]; rfl)
                      go_upto_region 43 with fail
                      refine wp_region_grown (by kernel_rfl) (by kernel_rfl) fun _ => ?_
                      repeat (go_big_quiet_step ((go_at_call 17; with_reducible exact callsGr (HCt _ (Gr.g _)))))
                      refine wpQuiet_nil ?_
                      rintro w4 ⟨⟨_, g4⟩, rfl⟩
                      clear b0 b1 p0 HCt
                      have HN4 := hideIt (HN.out.kept g4)
                      clear HN g4
                      go_wp2
                      go_roundg (Gk - 1)
                      case rel => exact ⟨d + 1, by omega, by omega, by go_num, HN4⟩
                      case measure => omega
                    · rw [if_neg hz] at hnn
                      subst hnn
                      obtain ⟨cq, hcq⟩ : ∃ cq : Int, (M.cnt y.S ck co : Int) = cq := ⟨_, rfl⟩
                      have hq0 : (cq == 0) = false := by rw [← hcq]; simp; omega
                      have HCt := HN.out.ca.count ck co cq hcq
                      clear hcq
                      go_upto_region 43 with fail
                      refine wp_region_grown (by kernel_rfl) (by kernel_rfl) fun _ => ?_
                      repeat (go_big_quiet_step ((go_at_call 17; with_reducible exact callsGr (HCt _ (Gr.g _)))))
                      refine wpQuiet_nil ?_
                      rintro w4 ⟨⟨_, g4⟩, rfl⟩
                      clear b0 b1 p0 HCt
                      have HN4 := hideIt (HN.out.kept g4)
                      clear HN g4
                      go_wp2
                      go_roundg (Gk - 1)
                      case rel => exact ⟨d + 1, by omega, by omega, by go_num, HN4⟩
                      case measure => omega
              · have hlt3' : ¬ (d : Int) < (nk : Int) := by omega
                go_wp2
                go_ret
                exact ⟨rfl, gbEnd HN.out.ca.gr⟩
theorem walk (x0 : Option Addr) (len0 cap0 : Nat) (A1 B1 : Int) (ia1 : I64 A1) (ib1 : I64 B1) (a2 : Int) (b3 : Bool) (w : World) (hx0 : ∀ i, i < len0 → ∃ x q st, x0 = some x ∧ El18 w (x.add (i * 19)) q ∧ w.cell? ⟨(x.add (i * 19)).block, (x.add (i * 19)).off + 18, none⟩ = some (.int .i64 st) ∧ Op18 q ∧ I64 st) :
    Calls Try.prog 4 #[.slice x0 len0 cap0, sv A1 B1, .int .i64 a2, .bool b3] w fun e w' => e = .returned (.bool true) ∧ Below w.heap.size w w' := by
  obtain ⟨qs, h⟩ := actsOf hx0
  exact core x0 len0 cap0 A1 B1 ia1 ib1 a2 b3 w qs (hideIt h)

set_option maxRecDepth 100000 in
theorem lifted (os : Os) (started : os.Started) (H : Type) (enc : TypeId × Value → H) :
    ReturnsInHanded {} Try.checked os 4 .any (Rows.revokeTellsSpec.pre6 enc Try.prog Try.f4 Rows.revokeTellsRow.domain false) (Rows.revokeTellsSpec.post enc Try.prog Try.f4 false true false false) := by
  refine returnsInHanded_of_change (C := Try.checked) own started (by kernel_rfl) Try.func4
    (ChangeSpec.witness6 (enc := enc) (C := Try.checked) false ⟨#[], #[.slice none 0 0, .agg #[.int .i64 0, .int .i64 0], .int .i64 0, .bool false], []⟩ 8 (by kernel_rfl) (by kernel_rfl) (by kernel_rfl) (by kernel_rfl)) ?_
  intro W base args ds gs before hval0 hW hcnd _
  have hval : ∀ (j : Nat) t v, Try.f4.params[j]? = some t → args[j]? = some v → Value.okWide Try.prog W .any base t v := hval0
  have hW' := hW
  obtain ⟨p, q, hA0, hV, rfl, hfz, hnd⟩ := hW
  have hA : DataW.TrodAll enc Try.prog W 0 (fun _ => true) true Try.f4.params.toList args.toList ds p := hA0
  rw [Try.params4] at hA hval
  obtain ⟨v0, vs0, d0, ds0, p0, q0, hargs, rfl, rfl, h0, r0⟩ := trodAll_cons hA
  obtain ⟨v1, vs1, d1, ds1, p1, q1, rfl, rfl, rfl, h1, r1⟩ := trodAll_cons r0
  obtain ⟨v2, vs2, d2, ds2, p2, q2, rfl, rfl, rfl, h2, r2⟩ := trodAll_cons r1
  obtain ⟨v3, vs3, d3, ds3, p3, q3, rfl, rfl, rfl, h3, r3⟩ := trodAll_cons r2
  obtain ⟨rfl, rfl, rfl⟩ := trodAll_nil r3
  obtain rfl : args = #[v0, v1, v2, v3] := by cases args; simp_all
  obtain ⟨rfl, rfl⟩ := trodVars_none hV
  obtain ⟨x0, len0, cap0, rfl⟩ := okWide_slice Try.underlying22 (hval 0 22 v0 rfl rfl)
  have hx0 := opsArg h0
  have k0 := h0
  have lt0 : ∀ x ∈ p0, x.block < W.heap.size := by obtain ⟨m, hm⟩ := k0; exact DataW.trod_lt m _ _ _ hm
  obtain ⟨A1, B1, rfl, ia1, ib1⟩ := slotArg (hval 1 24 v1 rfl rfl) h1
  have k1 := h1
  have lt1 : ∀ x ∈ p1, x.block < W.heap.size := by obtain ⟨m, hm⟩ := k1; exact DataW.trod_lt m _ _ _ hm
  obtain ⟨a2, rfl, rfl, rfl, w2⟩ := open_int Try.underlying3 (hval 2 3 v2 rfl rfl) h2
  obtain ⟨b3, rfl, rfl, rfl⟩ := open_bool Try.underlying4 (hval 3 4 v3 rfl rfl) h3
  clear hA0 hval0
  refine (walk x0 len0 cap0 A1 B1 ia1 ib1 a2 b3 W hx0).mono fun e W' ⟨he, bel⟩ => ?_
  subst he
  exact ⟨_, rfl, _, _, _, [], _, [], hW', trodAll_mk1 (shut_bool Try.underlying4 _), (trodAll_cons_mk (Below.trod laidOut (by kernel_rfl) (of_decide_eq_true (by kernel_rfl)) k0 bel lt0) (trodAll_cons_mk (Below.trod laidOut (by kernel_rfl) (of_decide_eq_true (by kernel_rfl)) k1 bel lt1) (trodAll_cons_mk (shut_int Try.underlying3 w2) (trodAll_cons_mk (shut_bool Try.underlying4 _) trodAll_mk0)))), rfl, bel.frame _, fun h => by cases h⟩

theorem over : Rows.revokeTellsRow.holds Try.pinned (OpenSpec.ofChange Rows.revokeTellsSpec) :=
  OpenClaim.holds_of_wide 4 Try.f4 rfl rfl rfl rfl rfl rfl rfl ⟨rfl, rfl, rfl, rfl, rfl⟩ rfl rfl rfl rfl rfl (by kernel_rfl) Try.func4 (by kernel_rfl)
    (of_decide_eq_true (by kernel_rfl)) (by unfold Func.isWrapper; first | (rw [if_pos (by decide +kernel)]; kernel_rfl) | (rw [if_neg (by decide +kernel)]; exact ⟨rfl, rfl⟩))
    (fun os started H enc _ => lifted os started H enc)

theorem proved : Rows.RevokeTellsSaid := over
end Go.Proofs.Ytpfjcfgbecoccaa.revokeTells
namespace Go.Proofs.Ytpfjcfgbecoccaa
theorem revokeTells_holds : Rows.RevokeTellsSaid := revokeTells.proved
#print axioms revokeTells_holds
end Go.Proofs.Ytpfjcfgbecoccaa
