/-
  THE CONTRACTS of the document's side: donjonref10's Copy, Mutate and Take.
-/
import Derived.Test.YtdnoidnpiaadaaaGreatRdb
import Derived.Test.YtdnoidnpiaadaaaGreatAct3
import Derived.Deep.DeepCutAuto
namespace Go.Proofs.YtdnoidnpiaadaaaGreat
set_option maxRecDepth 10000
open Go.RowKit
set_option linter.unusedVariables false

set_option maxHeartbeats 2000000 in
theorem Rc.copy {w0 w : World} {O : Nat → Prop} {q : Nat} {S : St} {f : T9.Fo} (h : Rc w0 w O q S f) (I : M.Inv S f) (a c a2 c2 rt e : Int) (ha2 : I64 a2) (hc2 : I64 c2) (hm : f.len ≤ 60) (he : M.copE S (a, c) (a2, c2) rt = e) :
    Calls Tryz.prog 38 #[.pointer (some ⟨q, 0, none⟩), sv a c, sv a2 c2, .int .i64 rt] w fun x w' => x = .returned (.int .i64 e) ∧ Rc w0 w' (wide O w w') q (M.copS S (a, c) (a2, c2) rt) (M.copF S f (a, c) (a2, c2) rt) ∧ Fr O w w' := by
  obtain ⟨⟨k1, o1, r1, b1, g1, u1⟩, hd⟩ : ∃ d, M.gc S (a, c) = d := ⟨_, rfl⟩
  obtain ⟨e1, h1⟩ : ∃ e1, M.getE S a c = e1 := ⟨_, rfl⟩
  unfold M.copS M.copF
  unfold M.copE at he
  rw [hd] at he ⊢
  simp only at he ⊢
  have hw0 := h.gr.size
  have hlo := h.lo
  have hgs := hideIt h.gs
  have HH := hideIt h
  clear h
  go_enter Tryz.func38, Tryz.ntmps38
  go_upto_region 1 with fail
  obtain ⟨W, hW, X0, X1, g0⟩ := slots2 w a c a2 c2
  rw [hW]
  clear hW
  have HW := hideIt ((Wr.start HH.out).kept g0)
  have HX : Hid (SB W O w.heap.size a c) := ⟨X0, (Wr.start HH.out).out (by omega)⟩
  have HY : Hid (SB W O (w.heap.size + 1) a2 c2) := ⟨X1, (Wr.start HH.out).out (by omega)⟩
  clear X0 X1 g0
  have HG : dGet W q a c ⟨k1, o1, r1, b1, g1, u1⟩ e1 := fun V g => (HW.out.rc.kept g).get a c _ _ _ _ _ _ _ hd h1
  go_cut [9, 10] (fun s6 s7 wc => ∃ Z : Nat, s6 = .pointer (some ⟨Z, 0, none⟩) ∧ s7 = .int .i64 e1 ∧ Hid (Box wc Z ⟨k1, o1, r1, b1, g1, u1⟩) ∧ Hid (W.grownBy wc none))
  case first =>
    have T0b : Two W w.heap.size a c := ⟨HX.out.sb.at0, HX.out.sb.at1⟩
    have T0 : Two W.drew w.heap.size a c := two_kept T0b (gbDrew (gbRefl W none))
    go_region_held3 (fun w' => Two w' w.heap.size a c)
      (first | with_reducible exact T0 | (refine two_kept T0b ?_; repeat (first | with_reducible exact G2 | with_reducible exact gbRefl W none | with_reducible refine gbDrew ?_ | with_reducible refine gbAllocN ?_ _ | with_reducible refine gbSetNew ?_ _ _ _ (by with_reducible first | exact Nat.le_refl _ | exact G2.size))) | fail)
      ((first | (go_at_call 52; refine (HG _ (by repeat (first | with_reducible exact gbRefl W none | with_reducible refine gbDrew ?_ | with_reducible refine gbAllocN ?_ _))).mono ?_; rintro _ v1 ⟨rfl, g5⟩; have hc3 := gcell g5; have hf3 := gfroz g5; have G2 : W.grownBy v1 none := (by first | exact gbTrans (gbDrewN W 1 none) g5 | exact gbTrans (gbDrew (gbAllocN (gbRefl W none) _)) g5)) | fail))
    · rename_i hold
      clear hold T0
      obtain ⟨W6, hW6, Z6, g6⟩ := boxNew v1 ⟨k1, o1, r1, b1, g1, u1⟩
      simp only at hW6
      rw [hW6]
      go_wp2
      go_meet
      exact ⟨_, rfl, rfl, Z6, gbTrans G2 g6⟩
    · rename_i hold
      clear hold T0
      have Z0 : Box v1 W.heap.size C.zero := ((Box.made W C.zero).kept (gbDrew (gbRefl _ none))).kept g5
      obtain ⟨W6, hW6, Z6, g6⟩ := Z0.put ⟨k1, o1, r1, b1, g1, u1⟩
      simp only at hW6
      rw [hW6]
      have G7 := gbNew (gbTrans (gbAny G2 _) g6) (Nat.le_refl _)
      go_wp2
      go_meet
      exact ⟨_, rfl, rfl, Z6, G7⟩
  case rest =>
    obtain ⟨Z, rfl, rfl, HZ, GG⟩ := hcut
    obtain ⟨z0, z1, z2, z3, z4, z5⟩ := HZ.out.tup
    simp only at z0 z1 z2 z3 z4 z5
    obtain ⟨x0, x1⟩ := (HX.out.kept GG.out).sb.tup
    obtain ⟨y0, y1⟩ := (HY.out.kept GG.out).sb.tup
    go_wp2_with fail
    refine ((HW.out.kept GG.out).rc.mint I a c a2 c2 rt 0 g1 u1 e ha2 hc2 hm he).mono ?_
    rintro _ w5 ⟨rfl, A5, F5⟩
    have HW5 := hideIt ((HW.out.kept GG.out).call A5 F5)
    clear A5 F5 x0 x1 y0 y1 z0 z1 z2 z3 z4 z5
    go_wp2
    go_ret
    have E := HW5.out.fin hw0 hlo
    exact ⟨rfl, E.1, E.2⟩

set_option maxHeartbeats 2000000 in
theorem Rc.mutate {w0 w : World} {O : Nat → Prop} {q : Nat} {S : St} {f : T9.Fo} (h : Rc w0 w O q S f) (I : M.Inv S f) (a c a2 c2 gd bt e : Int) (ha2 : I64 a2) (hc2 : I64 c2) (hgd : 0 ≤ gd) (hm : f.len ≤ 60) (he : M.mutE S (a, c) (a2, c2) gd bt = e) :
    Calls Tryz.prog 44 #[.pointer (some ⟨q, 0, none⟩), sv a c, sv a2 c2, .int .u64 gd, .int .i64 bt] w fun x w' => x = .returned (.int .i64 e) ∧ Rc w0 w' (wide O w w') q (M.mutS S (a, c) (a2, c2) gd bt) (M.mutF S f (a, c) (a2, c2) gd bt) ∧ Fr O w w' := by
  obtain ⟨⟨k1, o1, r1, b1, g1, u1⟩, hC⟩ : ∃ d, M.srcC S (a, c) = d := ⟨_, rfl⟩
  obtain ⟨E1, h1⟩ : ∃ x, M.srcE S (a, c) = x := ⟨_, rfl⟩
  obtain ⟨E2, h2⟩ : ∃ x, M.plcE S (a2, c2) = x := ⟨_, rfl⟩
  obtain ⟨v1, hv1⟩ : ∃ v, (E1 == 0) = v := ⟨_, rfl⟩
  obtain ⟨v2, hv2⟩ : ∃ v, (E2 != 0) = v := ⟨_, rfl⟩
  obtain ⟨v3, hv3⟩ : ∃ v, (k1 != 2) = v := ⟨_, rfl⟩
  have hgs := hideIt h.gs
  have hw0 := h.gr.size
  have hlo := h.lo
  have HH := hideIt h
  clear h
  go_enter Tryz.func44, Tryz.ntmps44
  go_upto_region 1 with fail
  obtain ⟨W, hW, X0, X1, g0⟩ := slots2 w a c a2 c2
  try simp only at hW
  rw [hW]
  clear hW
  have HW0 := hideIt ((Wr.start HH.out).kept g0)
  have X_0 : Hid (SB W O w.heap.size a c) := ⟨X0, (Wr.start HH.out).out (by omega)⟩
  have Y_0 : Hid (SB W O (w.heap.size + 1) a2 c2) := ⟨X1, (Wr.start HH.out).out (by omega)⟩
  clear X0 X1 g0
  obtain ⟨x0, x1⟩ := X_0.out.sb.tup
  go_wp2_with fail
  refine (HW0.out.rc.src a c _ E1 hC h1).mono ?_
  rintro _ wu1 ⟨rfl, g1⟩
  clear x0 x1
  have HW1 := hideIt (HW0.out.kept g1)
  have X_1 := hideIt (X_0.out.kept g1)
  have Y_1 := hideIt (Y_0.out.kept g1)
  clear g1
  have hX9 := hideIt (X_1.out.sb.lt)
  have hY9 := hideIt (Y_1.out.sb.lt)
  have hW9 := hideIt HW1.out.fr.size
  go_upto_region 2 with fail
  obtain ⟨V2, hV2, Z2, g2⟩ := boxNew wu1 ⟨k1, o1, r1, b1, g1, u1⟩
  simp only at hV2
  rw [hV2]
  clear hV2
  have HW2 := hideIt (HW1.out.kept g2)
  have X_2 := hideIt (X_1.out.kept g2)
  have Y_2 := hideIt (Y_1.out.kept g2)
  have Z_2 := hideIt (BB.mk Z2 (HW1.out.out (Nat.le_refl _)))
  clear g2 Z2
  cases v1
  · have n1 : E1 ≠ 0 := by simpa using hv1
    have nb : (E1 != 0) = true := by simpa using n1
    go_wp2
    go_ret
    have E := HW2.out.fin hw0 hlo
    have e1 : M.endE S (a, c) (a2, c2) = E1 := (M.endE1 (by rw [h1]; exact n1)).trans h1
    have e2 : M.mutE S (a, c) (a2, c2) gd bt = E1 := (M.mutE1 (by rw [e1]; exact n1)).trans e1
    obtain rfl : E1 = e := e2.symm.trans he
    have hN := M.mutN (f := f) (by rw [e2]; exact n1)
    rw [hN.1, hN.2]
    exact ⟨rfl, E.1, E.2⟩
  · obtain rfl : E1 = 0 := by simpa using hv1
    clear hv1
    obtain ⟨y0, y1⟩ := Y_2.out.sb.tup
    go_wp2_with fail
    refine (HW2.out.rc.plc a2 c2 E2 h2).mono ?_
    rintro _ wu3 ⟨rfl, g3⟩
    clear y0 y1
    have HW3 := hideIt (HW2.out.kept g3)
    have X_3 := hideIt (X_2.out.kept g3)
    have Y_3 := hideIt (Y_2.out.kept g3)
    have Z_3 := hideIt (Z_2.out.kept g3)
    clear g3
    cases v2
    · obtain rfl : E2 = 0 := by simpa using hv2
      clear hv2
      have hg1 : M.gc S (a, c) = ⟨k1, o1, r1, b1, g1, u1⟩ := (M.srcC_ok h1).symm.trans hC
      have e1 : M.endE S (a, c) (a2, c2) = 0 := (M.endE2 h1).trans h2
      have HP := hideIt (And.intro e1 (M.gc_chk hgs.out (a, c)))
      have HG := hideIt hg1
      clear e1 hg1
      obtain ⟨z0, z1, z2, z3, z4, z5⟩ := Z_3.out.bx.tup
      try simp only at z0 z1 z2 z3 z4 z5
      cases v3
      · obtain rfl : k1 = 2 := by simpa using hv3
        clear hv3
        by_cases c1 : bt < 0
        · go_wp2
          go_ret
          have E := HW3.out.fin hw0 hlo
          have hgr : M.grd gd bt = false := by unfold M.grd; rw [decide_eq_false (by omega)]; rfl
          have e2 : M.mutE S (a, c) (a2, c2) gd bt = 10 := by unfold M.mutE; rw [if_pos HP.out.1, HG.out, hgr]; rfl
          obtain rfl : 10 = e := e2.symm.trans he
          have hN := M.mutN (f := f) (by rw [e2]; decide)
          rw [hN.1, hN.2]
          exact ⟨rfl, E.1, E.2⟩
        · by_cases c3 : 16 < bt
          · go_wp2
            go_ret
            have E := HW3.out.fin hw0 hlo
            have hgr : M.grd gd bt = false := by unfold M.grd; rw [decide_eq_false (p := bt ≤ 16) (by omega)]; simp
            have e2 : M.mutE S (a, c) (a2, c2) gd bt = 10 := by unfold M.mutE; rw [if_pos HP.out.1, HG.out, hgr]; rfl
            obtain rfl : 10 = e := e2.symm.trans he
            have hN := M.mutN (f := f) (by rw [e2]; decide)
            rw [hN.1, hN.2]
            exact ⟨rfl, E.1, E.2⟩
          · obtain ⟨m, rfl⟩ : ∃ m : Nat, bt = m := ⟨bt.toNat, by omega⟩
            have hs := shl_one m (by omega)
            have hb : M.grd gd m = decide (gd < ((2 ^ m : Nat) : Int)) := by unfold M.grd M.blw; rw [decide_eq_true (by omega), decide_eq_true (by omega)]; simp
            obtain ⟨p, hp⟩ : ∃ p, 2 ^ m = p := ⟨_, rfl⟩
            rw [hp] at hs hb
            have HB := hideIt hb
            clear hp hb
            by_cases c4 : gd < (p : Int)
            · have f4 := Z_3.out.bx.fr 4
              have f5 := Z_3.out.bx.fr 5
              go_upto_region 12 with fail
              obtain ⟨W4, hW4, Z4, g4⟩ := Z_3.out.bx.gn gd m
              rw [hW4]
              clear hW4 z0 z1 z2 z3 z4 z5 f4 f5
              have HV := hideIt (HW3.out.keep g4 Z_3.out.no hW9.out hw0)
              have HV1 := hideIt (X_3.out.keep g4 (Nat.ne_of_lt hX9.out))
              have HV2 := hideIt (Y_3.out.keep g4 (Nat.ne_of_lt hY9.out))
              have HV3 := hideIt (BB.mk Z4 Z_3.out.no)
              clear g4 Z4
              have p1 : M.chk ⟨2, o1, r1, b1, gd, m⟩ = 0 := by
                have := HP.out.2
                rw [HG.out] at this
                have t := M.mut_chk (gd := gd) (bt := m) this rfl
                rw [HB.out, decide_eq_true c4] at t
                exact t
              have HK := hideIt p1
              clear p1
              obtain ⟨x0, x1⟩ := HV1.out.sb.tup
              obtain ⟨y0, y1⟩ := HV2.out.sb.tup
              obtain ⟨z0, z1, z2, z3, z4, z5⟩ := HV3.out.bx.tup
              try simp only at z0 z1 z2 z3 z4 z5
              go_wp2_with fail
              refine (HV.out.rc.carry I a c a2 c2 2 o1 r1 b1 gd m ha2 hc2 hm HP.out.1 HK.out (by decide)).mono ?_
              rintro _ wu4 ⟨rfl, A4, F4⟩
              clear x0 x1 y0 y1 z0 z1 z2 z3 z4 z5
              have HW4 := hideIt (HV.out.call A4 F4)
              have X_4 := hideIt (HV1.out.call F4)
              have Y_4 := hideIt (HV2.out.call F4)
              have Z_4 := hideIt (HV3.out.call F4)
              clear A4 F4
              go_wp2
              go_ret
              have E := HW4.out.fin hw0 hlo
              have e2 : M.mutE S (a, c) (a2, c2) gd m = 0 := by unfold M.mutE; rw [if_pos HP.out.1, HG.out, HB.out, decide_eq_true c4]; rfl
              obtain rfl : 0 = e := e2.symm.trans he
              have hN := M.mutY (f := f) e2
              rw [HG.out] at hN
              rw [hN.1, hN.2]
              exact ⟨rfl, E.1, E.2⟩
            · go_wp2
              go_ret
              have E := HW3.out.fin hw0 hlo
              have e2 : M.mutE S (a, c) (a2, c2) gd m = 10 := by unfold M.mutE; rw [if_pos HP.out.1, HG.out, HB.out, decide_eq_false (p := gd < (p : Int)) (by omega)]; rfl
              obtain rfl : 10 = e := e2.symm.trans he
              have hN := M.mutN (f := f) (by rw [e2]; decide)
              rw [hN.1, hN.2]
              exact ⟨rfl, E.1, E.2⟩
      · have n3 : k1 ≠ 2 := by simpa using hv3
        go_wp2
        go_ret
        have E := HW3.out.fin hw0 hlo
        have e2 : M.mutE S (a, c) (a2, c2) gd bt = 2 := by unfold M.mutE; rw [if_pos HP.out.1, HG.out]; exact if_neg n3
        obtain rfl : 2 = e := e2.symm.trans he
        have hN := M.mutN (f := f) (by rw [e2]; decide)
        rw [hN.1, hN.2]
        exact ⟨rfl, E.1, E.2⟩
    · have n2 : E2 ≠ 0 := by simpa using hv2
      go_wp2
      go_ret
      have E := HW3.out.fin hw0 hlo
      have e1 : M.endE S (a, c) (a2, c2) = E2 := (M.endE2 h1).trans h2
      have e2 : M.mutE S (a, c) (a2, c2) gd bt = E2 := (M.mutE1 (by rw [e1]; exact n2)).trans e1
      obtain rfl : E2 = e := e2.symm.trans he
      have hN := M.mutN (f := f) (by rw [e2]; exact n2)
      rw [hN.1, hN.2]
      exact ⟨rfl, E.1, E.2⟩

set_option maxHeartbeats 2000000 in
theorem Rc.takeA {w0 w : World} {O : Nat → Prop} {q : Nat} {S : St} {f : T9.Fo} (h : Rc w0 w O q S f) (I : M.Inv S f) (a c k o r b g u e : Int) (hm : f.len ≤ 60) (hC : M.srcC S (a, c) = ⟨k, o, r, b, g, u⟩) (he : M.srcE S (a, c) = e) :
    Calls Tryz.prog 48 #[.pointer (some ⟨q, 0, none⟩), sv a c] w fun x w' => x = .returned (.tuple #[cv ⟨k, o, r, b, g, u⟩, .int .i64 e]) ∧ Rc w0 w' (wide O w w') q (M.takS S (a, c)) (M.takF S f (a, c)) ∧ Fr O w w' := by
  obtain ⟨v, hv⟩ : ∃ v, (e == 0) = v := ⟨_, rfl⟩
  have hw0 := h.gr.size
  have hlo := h.lo
  have HH := hideIt h
  clear h
  go_enter Tryz.func48, Tryz.ntmps48
  go_upto_region 1 with fail
  obtain ⟨W, hW, X0, X1, g0⟩ := slotCap w a c
  try simp only at hW
  rw [hW]
  clear hW
  have HW0 := hideIt ((Wr.start HH.out).kept g0)
  have X_0 : Hid (SB W O w.heap.size a c) := ⟨X0, (Wr.start HH.out).out (by omega)⟩
  have R_0 : Hid (BB W O (w.heap.size + 1) C.zero) := ⟨X1, (Wr.start HH.out).out (by omega)⟩
  clear X0 X1 g0
  go_cut [6, 7] (fun s6 s7 wc => ∃ (Z : Nat) (Oc : Nat → Prop), s6 = .pointer (some ⟨Z, 0, none⟩) ∧ s7 = .int .i64 e ∧ Hid (Wr w0 w wc O Oc q (M.takeS S a c) f) ∧ Hid (BB wc Oc Z ⟨k, o, r, b, g, u⟩) ∧ Hid (SB wc Oc w.heap.size a c) ∧ Hid (BB wc Oc (w.heap.size + 1) C.zero) ∧ Hid (w.heap.size ≤ Z))
  case first =>
    have T0b : Two W w.heap.size a c := ⟨X_0.out.sb.at0, X_0.out.sb.at1⟩
    have T0 : Two W.drew w.heap.size a c := two_kept T0b (gbDrew (gbRefl W none))
    have xW := X_0.out.sb.lt
    go_region_held3 (fun w' => Two w' w.heap.size a c)
      (first | with_reducible exact T0 | with_reducible exact T1 | (focus (refine two_kept T1 ?_; (repeat (first | with_reducible refine gbAllocN ?_ _ | with_reducible refine gbSetNew ?_ _ _ _ (by with_reducible exact Nat.le_refl _) | with_reducible exact gbRefl _ _)); done)) | (focus (refine two_keep (y := W.heap.size) T1 ?_ (Nat.ne_of_lt xW); (repeat (first | with_reducible refine gbSet1 ?_ _ _ | with_reducible exact gbRefl _ _)); done)) | (focus (refine two_kept T0b ?_; (repeat (first | with_reducible exact gbRefl W none | with_reducible refine gbDrew ?_ | with_reducible refine gbAllocN ?_ _)); done)) | fail)
      ((first | (go_at_call 93; refine ((HW0.out.kept (by repeat (first | with_reducible exact gbRefl W none | with_reducible refine gbDrew ?_ | with_reducible refine gbAllocN ?_ _))).rc.take a c k o r b g u e hC he).mono ?_; rintro _ wu1 ⟨rfl, A1, F1⟩; have hcc := fun o (hb : W.heap.size < _) => gcellF F1 W.heap.size o (HW0.out.out (Nat.le_refl _)) hb; have hff := fun o (hb : W.heap.size < _) => gfrozF F1 W.heap.size o (HW0.out.out (Nat.le_refl _)) hb; have HW1 := hideIt ((HW0.out.kept (by repeat (first | with_reducible exact gbRefl W none | with_reducible refine gbDrew ?_ | with_reducible refine gbAllocN ?_ _))).call A1 F1); have X_1 := hideIt ((X_0.out.kept (by repeat (first | with_reducible exact gbRefl W none | with_reducible refine gbDrew ?_ | with_reducible refine gbAllocN ?_ _))).call F1); have R_1 := hideIt ((R_0.out.kept (by repeat (first | with_reducible exact gbRefl W none | with_reducible refine gbDrew ?_ | with_reducible refine gbAllocN ?_ _))).call F1); have T1 : Two wu1 w.heap.size a c := ⟨X_1.out.sb.at0, X_1.out.sb.at1⟩) | fail))
    · rename_i hold
      clear hold T0
      obtain ⟨W6, hW6, Z6, g6⟩ := boxNew wu1 ⟨k, o, r, b, g, u⟩
      simp only at hW6
      rw [hW6]
      go_wp2
      go_meet
      exact ⟨_, _, rfl, rfl, hideIt (HW1.out.kept g6), hideIt ⟨Z6, HW1.out.out (Nat.le_refl _)⟩, hideIt (X_1.out.kept g6), hideIt (R_1.out.kept g6), hideIt (Nat.le_trans HW0.out.fr.size (Nat.le_trans (gbDrewN W 1 none).size F1.size))⟩
    · rename_i hold
      clear hold T0
      have Z0 : Box wu1 W.heap.size C.zero := F1.box ((Box.made W C.zero).kept (gbDrew (gbRefl _ none))) (HW0.out.out (Nat.le_refl _))
      have Zn := wideNo (O := _) (w' := wu1) (HW0.out.out (Nat.le_refl _)) ((Box.made W C.zero).kept (gbDrew (gbRefl _ none))).lt
      obtain ⟨W6, hW6, Z6, g6⟩ := Z0.put ⟨k, o, r, b, g, u⟩
      simp only at hW6
      rw [hW6]
      go_wp2
      go_meet
      exact ⟨_, _, rfl, rfl, hideIt (HW1.out.keep g6 Zn HW0.out.fr.size hw0), hideIt ⟨Z6, Zn⟩, hideIt (X_1.out.keep g6 (Nat.ne_of_lt X_0.out.sb.lt)), hideIt (R_1.out.keep g6 (Nat.ne_of_lt R_0.out.bx.lt)), hideIt HW0.out.fr.size⟩
  case rest =>
    obtain ⟨Z1, Oc1, rfl, rfl, HW1, Z_1, X_1, R_1, HZ1⟩ := hcut
    cases v
    · have n1 : e ≠ 0 := by simpa using hv
      obtain ⟨z0, z1, z2, z3, z4, z5⟩ := Z_1.out.bx.tup
      try simp only at z0 z1 z2 z3 z4 z5
      obtain ⟨q0, q1, q2, q3, q4, q5, _, qf⟩ := R_1.out.bx
      have f0 := qf 0
      have f1 := qf 1
      have f2 := qf 2
      have f3 := qf 3
      have f4 := qf 4
      have f5 := qf 5
      clear qf
      go_wp2
      obtain ⟨W7, hW7, Q7, g7⟩ := R_1.out.bx.put ⟨k, o, r, b, g, u⟩
      simp only at hW7
      rw [hW7]
      clear hW7 q0 q1 q2 q3 q4 q5 f0 f1 f2 f3 f4 f5
      obtain ⟨y0, y1, y2, y3, y4, y5, _, _⟩ := Q7
      simp only at y0 y1 y2 y3 y4 y5
      have E := (HW1.out.keep g7 R_1.out.no (Nat.le_succ _) hw0).fin hw0 hlo
      have hF : M.takF S f (a, c) = f := if_neg (by rw [he]; exact n1)
      rw [← hF] at E
      exact bodyPost_ret (v := .tuple #[cv ⟨k, o, r, b, g, u⟩, .int .i64 e]) (by simp [results, Tryz.results48, go_sem, y0, y1, y2, y3, y4, y5]) rfl ⟨rfl, E.1, E.2⟩
    · obtain rfl : e = 0 := by simpa using hv
      clear hv
      go_upto_region 3 with fail
      have T0 : Two wc.drew w.heap.size a c := (X_1.out.kept (gbDrewN wc 1 none)).sb.tup
      go_region_held3 (fun w' => Two w' w.heap.size a c)
        (first | with_reducible exact T0 | with_reducible exact T1 | fail)
        ((first | (go_at_call 97; refine ((HW1.out.kept (gbDrewN wc 1 none)).rc.drop a c 0 hm (M.tak_ok I he).1).mono ?_; rintro _ wu2 ⟨rfl, A2, F2⟩; have HW2 := hideIt ((HW1.out.kept (gbDrewN wc 1 none)).call A2 F2); have X_2 := hideIt ((X_1.out.kept (gbDrewN wc 1 none)).call F2); have R_2 := hideIt ((R_1.out.kept (gbDrewN wc 1 none)).call F2); have Z_2 := hideIt ((Z_1.out.kept (gbDrewN wc 1 none)).call F2); have T1 : Two wu2 w.heap.size a c := X_2.out.sb.tup; clear A2 F2) | fail))
      clear T0 T1
      obtain ⟨z0, z1, z2, z3, z4, z5⟩ := Z_2.out.bx.tup
      try simp only at z0 z1 z2 z3 z4 z5
      obtain ⟨q0, q1, q2, q3, q4, q5, _, qf⟩ := R_2.out.bx
      have f0 := qf 0
      have f1 := qf 1
      have f2 := qf 2
      have f3 := qf 3
      have f4 := qf 4
      have f5 := qf 5
      clear qf
      go_wp2
      obtain ⟨W7, hW7, Q7, g7⟩ := R_2.out.bx.put ⟨k, o, r, b, g, u⟩
      simp only at hW7
      rw [hW7]
      clear hW7 q0 q1 q2 q3 q4 q5 f0 f1 f2 f3 f4 f5
      obtain ⟨y0, y1, y2, y3, y4, y5, _, _⟩ := Q7
      simp only at y0 y1 y2 y3 y4 y5
      have E := (HW2.out.keep g7 R_2.out.no (Nat.le_succ _) hw0).fin hw0 hlo
      have hF : M.takF S f (a, c) = f.dropF (a, c) := if_pos he
      rw [← hF] at E
      exact bodyPost_ret (v := .tuple #[cv ⟨k, o, r, b, g, u⟩, .int .i64 0]) (by simp [results, Tryz.results48, go_sem, y0, y1, y2, y3, y4, y5]) rfl ⟨rfl, E.1, E.2⟩

end Go.Proofs.YtdnoidnpiaadaaaGreat
