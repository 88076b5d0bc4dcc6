/-
  BOTH SIDES TELL THE SAME: donjonlaw10's Same.
-/
import Derived.Test.YtdnoidnpiaadaaaGreatAcx
import Derived.Test.YtdnoidnpiaadaaaGreatG22
import Derived.Deep.Cut
import Derived.Deep.CutRange
import Derived.Deep.DeepCutAuto
import Derived.Deep.RegionHeld3
import Derived.Deep.LoopGhost
namespace Go.Proofs.YtdnoidnpiaadaaaGreat
set_option maxRecDepth 10000
open Go.RowKit
set_option linter.unusedVariables false

abbrev Ry2 (w : World) (g o o' : Nat) (a b : Int) : Prop := w.cell? ⟨g, o, none⟩ = some (.int .i64 a) ∧ w.cell? ⟨g, o', none⟩ = some (.int .i64 b)
theorem Ry2.kept {w w' : World} {g o o' : Nat} {a b : Int} (h : Ry2 w g o o' a b) (k : w.grownBy w' none) : Ry2 w' g o o' a b := ⟨k.cell h.1 (by simp), k.cell h.2 (by simp)⟩
theorem sboxPut {w : World} {x : Nat} (h : SBox w x 0 0) (n i : Int) : ∃ W, (w.setCell ⟨x, 0, none⟩ (.int .i64 n)).setCell ⟨x, 1, none⟩ (.int .i64 i) = W ∧ SBox W x n i ∧ w.grownBy W (some x) := by
  refine ⟨_, rfl, ⟨?_, ?_, ?_⟩, gbTrans (gbSetCell _ _ _ _) (gbSetCell _ _ _ _)⟩
  · exact (World.cell?_setCell_other _ _ _ _ (by simp)).trans (World.cell?_setCell_same _ _ _ h.at0)
  · exact World.cell?_setCell_same _ _ _ ((World.cell?_setCell_other _ _ _ _ (by simp)).trans h.at1)
  · simpa [World.setCell] using h.lt

/-- All that the last region reads. -/
abbrev Al (w : World) (p t gg o o' : Nat) (A B : Int) (x : Nat) (c : C) (y : Nat) (z z' : Nat) (on oa : Int) : Prop := Rx w p 1 t gg o o' A B ∧ Six w x c ∧ Six w y c ∧ Two w z on oa ∧ Two w z' on oa

set_option maxHeartbeats 4000000 in
theorem same10_is {w0 w : World} {P R : Nat → Prop} {p s t m q : Nat} {S : St} {f : T9.Fo} (B : Bh w0 w P R p s t m q S f S f) (hl : f.len ≤ 60) :
    Calls Tryz.prog 8 #[.pointer (some ⟨p, 0, none⟩), .pointer (some ⟨q, 0, none⟩)] w fun e w' => e = .returned (.bool true) ∧ w.grownBy w' none := by
  have hl2 : f.len ≤ 1000 := by omega
  have qn := run_neq_cap
  have qe := eqGuardCap
  have qs := T9.run_neq_slots
  have qg := T9.eqGuardSlots
  have HB := hideIt B
  clear B
  go_enter Tryz.func8, Tryz.ntmps8
  go_wp2_with fail
  refine (HB.out.rc.full).mono ?_
  rintro _ w1 ⟨vl, rfl, ll, g1⟩
  have HL1 := hideIt ll
  have HB1 := hideIt (HB.out.kept g1)
  have GG1 := hideIt g1
  clear ll g1
  have c0 := HB1.out.cs.c0
  go_wp2_with fail
  refine (HB1.out.cs.full).mono ?_
  rintro _ w2 ⟨vp, rfl, lp, g2⟩
  have HL2 := hideIt (HL1.out.kept g2)
  have HB2 := hideIt (HB1.out.kept g2)
  have GG2 := hideIt (gbTrans GG1.out g2)
  have HP2 := hideIt lp
  clear lp g2 c0
  go_wp2_with fail
  refine (same_is HP2.out HL2.out (M.full_len S)).mono ?_
  rintro _ w3 ⟨rfl, g3⟩
  have HF := hideIt (LB.mk (Oc := fun _ => False) (HL2.out.kept g3).zero (fun b hb => id))
  have HB3 := hideIt (HB2.out.kept g3)
  have GG3 := hideIt (gbTrans GG2.out g3)
  clear g3 HL1 HL2 HP2
  obtain ⟨L, hL⟩ : ∃ L, M.full S = L := ⟨_, rfl⟩
  have HLm : Hid (∀ x ∈ L, (M.gc S x).k ≠ 0) := fun x hx => (M.mem_full HB3.out.cs.gs x).1 (hL ▸ hx)
  have hLn : L.length ≤ 1024 := hL ▸ M.full_len S
  rw [hL] at HF
  clear hL
  obtain ⟨xf, cf, rfl⟩ := HF.out.slice
  go_wp2
  go_loopg [6] L.length (fun y i wr => ∃ c : Nat, c + y = L.length ∧ i = .int .i64 c ∧ Hid (w3.grownBy wr none))
  case atStart => exact ⟨0, by omega, rfl, gbRefl _ _⟩
  case round =>
    obtain ⟨c, hc, rfl, gw⟩ := hrel
    by_cases hlc : c < L.length
    · have hlc' : (c : Int) < (L.length : Int) := by omega
      obtain ⟨gg, A, B, rfl, hAB, E, _⟩ := (HF.out.kept gw.out).el hlc
      have HE := hideIt E
      have HBr := hideIt (HB3.out.kept gw.out)
      have hk := HLm.out (A, B) (List.mem_of_getElem? hAB)
      have hth := M.gc_th hk
      obtain ⟨iA, iB⟩ := M.th_i64 HBr.out.cs.gs hth
      have hge : M.getE S A B = 0 := M.getE_ok hth
      obtain ⟨⟨xk, xq, xr, xb, xg, xn⟩, hx⟩ : ∃ x, M.gc S (A, B) = x := ⟨_, rfl⟩
      obtain ⟨on, e1⟩ : ∃ x, T9.oN (f.parent (A, B)) = x := ⟨_, rfl⟩
      obtain ⟨oa, e2⟩ : ∃ x, T9.oA (f.parent (A, B)) = x := ⟨_, rfl⟩
      obtain ⟨ob, e3⟩ : ∃ x, T9.oB (f.parent (A, B)) = x := ⟨_, rfl⟩
      have HXX := hideIt hx
      have HGE := hideIt hge
      have HO := hideIt (And.intro e1 (And.intro e2 e3))
      clear hk hth hge E hx hAB e1 e2 e3
      obtain ⟨wo, rfl⟩ : ∃ wo, wo = wr := ⟨_, rfl⟩
      go_upto_region 7 with fail
      go_cut [7, 8] from 33 to 44 (fun sz se wc => ∃ Z : Nat, sz = .pointer (some ⟨Z, 0, none⟩) ∧ se = .int .i64 0 ∧ Hid (Box wc Z ⟨xk, xq, xr, xb, xg, xn⟩) ∧ Hid (wo.heap.size ≤ Z) ∧ Hid (wo.grownBy wc none))
      case first =>
        have T0b : Rx wo p 0 s gg (c * 2) (c * 2 + 1) A B := ⟨HBr.out.cs.c0, HE.out.at0, HE.out.at1⟩
        have T0 : Rx wo.drew p 0 s gg (c * 2) (c * 2 + 1) A B := Rx.kept T0b (gbDrewN wo 1 none)
        go_region_held3 (fun w' => Rx w' p 0 s gg (c * 2) (c * 2 + 1) A B)
          (first | with_reducible exact T0 | (focus (refine Rx.kept T0b ?_; (repeat (first | with_reducible exact G6 | with_reducible exact gbRefl wo none | with_reducible refine gbDrew ?_ | with_reducible refine gbAllocN ?_ _ | with_reducible refine gbSetNew ?_ _ _ _ (by with_reducible first | exact Nat.le_refl _ | exact G6.size))); done)) | fail)
          ((first | (go_at_call 51; refine ((HBr.out.kept (by repeat (first | with_reducible exact gbRefl wo none | with_reducible refine gbDrew ?_ | with_reducible refine gbAllocN ?_ _))).cs.get A B _ _ _ _ _ _ _ iA HXX.out HGE.out).mono ?_; rintro _ u6 ⟨rfl, g6⟩; have hc6 := gcell g6; have hf6 := gfroz g6; have G6 : wo.grownBy u6 none := (by first | exact gbTrans (gbDrewN wo 1 none) g6 | exact gbTrans (gbDrew (gbAllocN (gbRefl wo none) _)) g6)) | fail))
        · rename_i hold
          clear hold T0
          obtain ⟨W6, hW6, Z6, g7⟩ := boxNew u6 ⟨xk, xq, xr, xb, xg, xn⟩
          try simp only at hW6
          rw [hW6]
          go_wp2
          go_meet
          exact ⟨_, rfl, rfl, Z6, G6.size, gbTrans G6 g7⟩
        · rename_i hold
          clear hold T0
          have Z0 : Box u6 wo.heap.size C.zero := ((Box.made wo C.zero).kept (gbDrew (gbRefl _ none))).kept g6
          obtain ⟨W6, hW6, Z6, g7⟩ := Z0.put ⟨xk, xq, xr, xb, xg, xn⟩
          try simp only at hW6
          rw [hW6]
          go_wp2
          go_meet
          exact ⟨_, rfl, rfl, Z6, Nat.le_refl _, gbNew (gbTrans (gbAny G6 _) g7) (Nat.le_refl _)⟩
      case rest =>
      obtain ⟨Z7, rfl, rfl, HZ7, hZ7, G7⟩ := hcut
      obtain ⟨W7, rfl⟩ : ∃ W7, W7 = wc := ⟨_, rfl⟩
      have HBs := hideIt (HBr.out.kept G7.out)
      have HEs := hideIt (HE.out.kept G7.out)
      clear HBr HE
      have HE := HEs
      clear HEs
      go_upto_region 8 with fail
      go_cut [9, 10] from 45 to 55 (fun sz se wc => ∃ Z : Nat, sz = .pointer (some ⟨Z, 0, none⟩) ∧ se = .int .i64 0 ∧ Hid (Box wc Z ⟨xk, xq, xr, xb, xg, xn⟩) ∧ Hid (W7.heap.size ≤ Z) ∧ Hid (W7.grownBy wc none))
      case first =>
        have T0b : Ry2 W7 gg (c * 2) (c * 2 + 1) A B := ⟨HE.out.at0, HE.out.at1⟩
        have T0 : Ry2 W7.drew gg (c * 2) (c * 2 + 1) A B := Ry2.kept T0b (gbDrewN W7 1 none)
        go_region_held3 (fun w' => Ry2 w' gg (c * 2) (c * 2 + 1) A B)
          (first | with_reducible exact T0 | (focus (refine Ry2.kept T0b ?_; (repeat (first | with_reducible exact G6 | with_reducible exact gbRefl W7 none | with_reducible refine gbDrew ?_ | with_reducible refine gbAllocN ?_ _ | with_reducible refine gbSetNew ?_ _ _ _ (by with_reducible first | exact Nat.le_refl _ | exact G6.size))); done)) | fail)
          ((first | (go_at_call 52; refine ((HBs.out.kept (by repeat (first | with_reducible exact gbRefl W7 none | with_reducible refine gbDrew ?_ | with_reducible refine gbAllocN ?_ _))).rc.get A B _ _ _ _ _ _ _ HXX.out HGE.out).mono ?_; rintro _ u6 ⟨rfl, g6⟩; have hc6 := gcell g6; have hf6 := gfroz g6; have G6 : W7.grownBy u6 none := (by first | exact gbTrans (gbDrewN W7 1 none) g6 | exact gbTrans (gbDrew (gbAllocN (gbRefl W7 none) _)) g6)) | fail))
        · rename_i hold
          clear hold T0
          obtain ⟨W6, hW6, Z6, g7⟩ := boxNew u6 ⟨xk, xq, xr, xb, xg, xn⟩
          try simp only at hW6
          rw [hW6]
          go_wp2
          go_meet
          exact ⟨_, rfl, rfl, Z6, G6.size, gbTrans G6 g7⟩
        · rename_i hold
          clear hold T0
          have Z0 : Box u6 W7.heap.size C.zero := ((Box.made W7 C.zero).kept (gbDrew (gbRefl _ none))).kept g6
          obtain ⟨W6, hW6, Z6, g7⟩ := Z0.put ⟨xk, xq, xr, xb, xg, xn⟩
          try simp only at hW6
          rw [hW6]
          go_wp2
          go_meet
          exact ⟨_, rfl, rfl, Z6, Nat.le_refl _, gbNew (gbTrans (gbAny G6 _) g7) (Nat.le_refl _)⟩
      case rest =>
      obtain ⟨Z8, rfl, rfl, HZ8, hZ8, G8⟩ := hcut
      obtain ⟨W8, rfl⟩ : ∃ W8, W8 = wc := ⟨_, rfl⟩
      have HBt := hideIt (HBs.out.kept G8.out)
      have HEs := hideIt (HE.out.kept G8.out)
      have HZ7b := hideIt (HZ7.out.kept G8.out)
      clear HBs HE HZ7
      have HE := HEs
      clear HEs
      go_upto_region 9 with fail
      go_cut [11, 12] from 56 to 67 (fun sz se wc => ∃ Z : Nat, sz = .pointer (some ⟨Z, 0, none⟩) ∧ se = .bool ob ∧ Hid (SBox wc Z on oa) ∧ Hid (W8.heap.size ≤ Z) ∧ Hid (W8.grownBy wc none))
      case first =>
        have T0b : Rx W8 p 1 t gg (c * 2) (c * 2 + 1) A B := ⟨HBt.out.cs.c1, HE.out.at0, HE.out.at1⟩
        have T0 : Rx W8.drew p 1 t gg (c * 2) (c * 2 + 1) A B := Rx.kept T0b (gbDrewN W8 1 none)
        go_region_held3 (fun w' => Rx w' p 1 t gg (c * 2) (c * 2 + 1) A B)
          (first | with_reducible exact T0 | (focus (refine Rx.kept T0b ?_; (repeat (first | with_reducible exact G6 | with_reducible exact gbRefl W8 none | with_reducible refine gbDrew ?_ | with_reducible refine gbAllocN ?_ _ | with_reducible refine gbSetNew ?_ _ _ _ (by with_reducible first | exact Nat.le_refl _ | exact G6.size))); done)) | fail)
          ((first | (go_at_call 53; refine ((HBt.out.kept (by repeat (first | with_reducible exact gbRefl W8 none | with_reducible refine gbDrew ?_ | with_reducible refine gbAllocN ?_ _))).cs.parent A B iA iB on oa ob HO.out.1 HO.out.2.1 HO.out.2.2).mono ?_; rintro _ u6 ⟨rfl, g6⟩; have hc6 := gcell g6; have hf6 := gfroz g6; have G6 : W8.grownBy u6 none := (by first | exact gbTrans (gbDrewN W8 1 none) g6 | exact gbTrans (gbDrew (gbAllocN (gbRefl W8 none) _)) g6)) | fail))
        · rename_i hold
          clear hold T0
          obtain ⟨W6, hW6, Z6, g7⟩ := sboxNew u6 on oa
          try simp only at hW6
          rw [hW6]
          go_wp2
          go_meet
          exact ⟨_, rfl, rfl, Z6, G6.size, gbTrans G6 g7⟩
        · rename_i hold
          clear hold T0
          have Z0 : SBox u6 W8.heap.size 0 0 := ((SBox.made W8 0 0).kept (gbDrew (gbRefl _ none))).kept g6
          obtain ⟨W6, hW6, Z6, g7⟩ := sboxPut Z0 on oa
          try simp only at hW6
          rw [hW6]
          go_wp2
          go_meet
          exact ⟨_, rfl, rfl, Z6, Nat.le_refl _, gbNew (gbTrans (gbAny G6 _) g7) (Nat.le_refl _)⟩
      case rest =>
      obtain ⟨Z9, rfl, rfl, HZ9, hZ9, G9⟩ := hcut
      obtain ⟨W9, rfl⟩ : ∃ W9, W9 = wc := ⟨_, rfl⟩
      have HBu := hideIt (HBt.out.kept G9.out)
      have HEs := hideIt (HE.out.kept G9.out)
      have HZ7c := hideIt (HZ7b.out.kept G9.out)
      have HZ8b := hideIt (HZ8.out.kept G9.out)
      clear HBt HE HZ7b HZ8
      have HE := HEs
      clear HEs
      go_upto_region 10 with fail
      go_cut [13, 14] from 68 to 78 (fun sz se wc => ∃ Z : Nat, sz = .pointer (some ⟨Z, 0, none⟩) ∧ se = .bool ob ∧ Hid (SBox wc Z on oa) ∧ Hid (W9.heap.size ≤ Z) ∧ Hid (W9.grownBy wc none))
      case first =>
        have T0b : Ry2 W9 gg (c * 2) (c * 2 + 1) A B := ⟨HE.out.at0, HE.out.at1⟩
        have T0 : Ry2 W9.drew gg (c * 2) (c * 2 + 1) A B := Ry2.kept T0b (gbDrewN W9 1 none)
        go_region_held3 (fun w' => Ry2 w' gg (c * 2) (c * 2 + 1) A B)
          (first | with_reducible exact T0 | (focus (refine Ry2.kept T0b ?_; (repeat (first | with_reducible exact G6 | with_reducible exact gbRefl W9 none | with_reducible refine gbDrew ?_ | with_reducible refine gbAllocN ?_ _ | with_reducible refine gbSetNew ?_ _ _ _ (by with_reducible first | exact Nat.le_refl _ | exact G6.size))); done)) | fail)
          ((first | (go_at_call 54; refine ((HBu.out.kept (by repeat (first | with_reducible exact gbRefl W9 none | with_reducible refine gbDrew ?_ | with_reducible refine gbAllocN ?_ _))).rc.parent A B hl on oa ob HO.out.1 HO.out.2.1 HO.out.2.2).mono ?_; rintro _ u6 ⟨rfl, g6⟩; have hc6 := gcell g6; have hf6 := gfroz g6; have G6 : W9.grownBy u6 none := (by first | exact gbTrans (gbDrewN W9 1 none) g6 | exact gbTrans (gbDrew (gbAllocN (gbRefl W9 none) _)) g6)) | fail))
        · rename_i hold
          clear hold T0
          obtain ⟨W6, hW6, Z6, g7⟩ := sboxNew u6 on oa
          try simp only at hW6
          rw [hW6]
          go_wp2
          go_meet
          exact ⟨_, rfl, rfl, Z6, G6.size, gbTrans G6 g7⟩
        · rename_i hold
          clear hold T0
          have Z0 : SBox u6 W9.heap.size 0 0 := ((SBox.made W9 0 0).kept (gbDrew (gbRefl _ none))).kept g6
          obtain ⟨W6, hW6, Z6, g7⟩ := sboxPut Z0 on oa
          try simp only at hW6
          rw [hW6]
          go_wp2
          go_meet
          exact ⟨_, rfl, rfl, Z6, Nat.le_refl _, gbNew (gbTrans (gbAny G6 _) g7) (Nat.le_refl _)⟩
      case rest =>
      obtain ⟨Z10, rfl, rfl, HZ10, hZ10, G10⟩ := hcut
      obtain ⟨W10, rfl⟩ : ∃ W10, W10 = wc := ⟨_, rfl⟩
      have HBv := hideIt (HBu.out.kept G10.out)
      have HE2 := hideIt (HE.out.kept G10.out)
      have HZ7d := hideIt (HZ7c.out.kept G10.out)
      have HZ8c := hideIt (HZ8b.out.kept G10.out)
      have HZ9b := hideIt (HZ9.out.kept G10.out)
      have GGa := hideIt (gbTrans gw.out (gbTrans G7.out (gbTrans G8.out (gbTrans G9.out G10.out))))
      clear HBu HE HZ7c HZ8b HZ9 hZ7 hZ8 hZ9 hZ10 G7 G8 G9 G10 HXX HGE HO
      have qr : M.eq ⟨xk, xq, xr, xb, xg, xn⟩ ⟨xk, xq, xr, xb, xg, xn⟩ = true := M.eq_refl _
      have qz : T9.M.seq on oa on oa = true := seq_iff.2 rfl
      have hch : (f.children (A, B)).length ≤ 1000 := Nat.le_trans (M.children_len f (A, B)) hl2
      go_upto_region 11 with fail
      have T0 : Al W10.drew p t gg (c * 2) (c * 2 + 1) A B Z7 ⟨xk, xq, xr, xb, xg, xn⟩ Z8 Z9 Z10 on oa := ⟨⟨(HBv.out.kept (gbDrewN W10 1 none)).cs.c1, (HE2.out.kept (gbDrewN W10 1 none)).at0, (HE2.out.kept (gbDrewN W10 1 none)).at1⟩, (HZ7d.out.kept (gbDrewN W10 1 none)).tup, (HZ8c.out.kept (gbDrewN W10 1 none)).tup, (HZ9b.out.kept (gbDrewN W10 1 none)).tup, (HZ10.out.kept (gbDrewN W10 1 none)).tup⟩
      go_region_held3 (fun w' => Al w' p t gg (c * 2) (c * 2 + 1) A B Z7 ⟨xk, xq, xr, xb, xg, xn⟩ Z8 Z9 Z10 on oa)
        (first | with_reducible exact T0 | with_reducible exact T3 | with_reducible exact T2 | with_reducible exact T1 | fail)
        ((first | (go_at_call 13; refine (same_is LA2.out LB2.out (by omega)).mono ?_; rintro _ uc ⟨rfl, gc⟩; have Gc : W10.grownBy uc none := gbTrans Gb gc; have T3 : Al uc p t gg (c * 2) (c * 2 + 1) A B Z7 ⟨xk, xq, xr, xb, xg, xn⟩ Z8 Z9 Z10 on oa := ⟨⟨(HBv.out.kept Gc).cs.c1, (HE2.out.kept Gc).at0, (HE2.out.kept Gc).at1⟩, (HZ7d.out.kept Gc).tup, (HZ8c.out.kept Gc).tup, (HZ9b.out.kept Gc).tup, (HZ10.out.kept Gc).tup⟩; clear gc) | (go_at_call 56; refine ((HBv.out.kept Ga).rc.children A B hl).mono ?_; rintro _ ub ⟨vb, rfl, lb, gb⟩; have Gb : W10.grownBy ub none := gbTrans Ga gb; have T2 : Al ub p t gg (c * 2) (c * 2 + 1) A B Z7 ⟨xk, xq, xr, xb, xg, xn⟩ Z8 Z9 Z10 on oa := ⟨⟨(HBv.out.kept Gb).cs.c1, (HE2.out.kept Gb).at0, (HE2.out.kept Gb).at1⟩, (HZ7d.out.kept Gb).tup, (HZ8c.out.kept Gb).tup, (HZ9b.out.kept Gb).tup, (HZ10.out.kept Gb).tup⟩; have LB2 := hideIt lb; have LA2 := hideIt (LA.out.kept gb); clear lb gb) | (go_at_call 55; refine ((HBv.out.kept (gbDrewN W10 1 none)).cs.children A B iA iB hch).mono ?_; rintro _ ua ⟨va, rfl, la, ga⟩; have Ga : W10.grownBy ua none := gbTrans (gbDrewN W10 1 none) ga; have T1 : Al ua p t gg (c * 2) (c * 2 + 1) A B Z7 ⟨xk, xq, xr, xb, xg, xn⟩ Z8 Z9 Z10 on oa := ⟨⟨(HBv.out.kept Ga).cs.c1, (HE2.out.kept Ga).at0, (HE2.out.kept Ga).at1⟩, (HZ7d.out.kept Ga).tup, (HZ8c.out.kept Ga).tup, (HZ9b.out.kept Ga).tup, (HZ10.out.kept Ga).tup⟩; have LA := hideIt la; clear la ga) | fail))
      rename_i hold
      clear hold T0 T1 T2 T3
      go_wp2
      go_roundg (gk - 1)
      case rel => exact ⟨c + 1, by omega, by go_num, gbTrans GGa.out Gc⟩
      case measure => omega
    · have hlc' : ¬ (c : Int) < (L.length : Int) := by omega
      go_wp2
      go_ret
      exact ⟨rfl, gbTrans GG3.out gw.out⟩
end Go.Proofs.YtdnoidnpiaadaaaGreat
