/-
  THE CONTRACTS of package moves: Take, turn, Rotate (written by mkact4.py).
-/
import Derived.Test.YtdnoidnpiaadaaaGreatAct3
namespace Go.Proofs.YtdnoidnpiaadaaaGreat
set_option maxRecDepth 10000
open Go.RowKit
set_option linter.unusedVariables false

abbrev Tk3 (w : World) (p t x : Nat) (a c : Int) (Z : Nat) (d : C) : Prop := Ptr w p 1 t ∧ Two w x a c ∧ Six w Z d
theorem Tk3.keep {w w' : World} {p t x Z y : Nat} {a c : Int} {d : C} (h : Tk3 w p t x a c Z d) (g : w.grownBy w' (some y)) (hp : p ≠ y) (hx : x ≠ y) (hz : Z ≠ y) : Tk3 w' p t x a c Z d := by
  obtain ⟨h1, ⟨h2, h3⟩, z0, z1, z2, z3, z4, z5⟩ := h
  exact ⟨g.cell h1 (by simpa using hp), ⟨g.cell h2 (by simpa using hx), g.cell h3 (by simpa using hx)⟩, g.cell z0 (by simpa using hz), g.cell z1 (by simpa using hz), g.cell z2 (by simpa using hz), g.cell z3 (by simpa using hz), g.cell z4 (by simpa using hz), g.cell z5 (by simpa using hz)⟩

set_option maxHeartbeats 4000000 in
theorem Cs.turn {w0 w : World} {O : Nat → Prop} {p s t m : Nat} {S : St} {f : T9.Fo} (h : Cs w0 w O p s t m S f) (I : M.Inv S f) (a c a2 c2 a3 c3 : Int) (ha : I64 a) (hc : I64 c) (ha2 : I64 a2) (hc2 : I64 c2) (ha3 : I64 a3) (hc3 : I64 c3) (hm : f.len ≤ 1000) (he : M.rotE S (a, c) (a2, c2) (a3, c3) = 0) :
    Calls Tryz.prog 92 #[.pointer (some ⟨p, 0, none⟩), sv a c, sv a2 c2, sv a3 c3] w fun x w' => x = .returned (.int .i64 0) ∧ Cs w0 w' (wide O w w') p s t m (M.rotS S (a, c) (a2, c2) (a3, c3)) (M.rotF S f (a, c) (a2, c2) (a3, c3)) ∧ Fr O w w' := by
  have hT := hideIt (M.turn_of I h.gs he)
  obtain ⟨⟨k1, o1, r1, b1, g1, u1⟩, h1⟩ : ∃ d, M.gc S (a2, c2) = d := ⟨_, rfl⟩
  obtain ⟨⟨k2, o2, r2, b2, g2, u2⟩, h2⟩ : ∃ d, M.gc S (a3, c3) = d := ⟨_, rfl⟩
  have n1 := I.nn (a2, c2)
  have n2 := I.nn (a3, c3)
  rw [h1] at n1
  rw [h2] at n2
  obtain ⟨nb1, ng1⟩ := n1
  obtain ⟨nb2, ng2⟩ := n2
  simp only at nb1 ng1 nb2 ng2
  have q1 := hT.out.t1
  have q2 := hT.out.s1
  have q3 := hT.out.c1.trans h1
  have q4 := hT.out.t2
  have q5 := hT.out.s2
  have q6 := hT.out.c2.trans h2
  have q7 := hT.out.t3
  have q8 := hT.out.s3
  have q9 := hT.out.t4
  have q10 := hT.out.s4
  rw [h1] at q7 q8 q9 q10
  rw [h2] at q9 q10
  have hm1 : (T9.Fo.mv (a2, c2) M.aside f).len ≤ 1000 := by unfold T9.Fo.len at hm ⊢; rw [T9.Fo.pre_mv, List.length_map]; exact hm
  have hm2 : (T9.Fo.mv (a3, c3) (a2, c2) (T9.Fo.mv (a2, c2) M.aside f)).len ≤ 1000 := by unfold T9.Fo.len at hm1 ⊢; rw [T9.Fo.pre_mv, List.length_map]; exact hm1
  have i0 : I64 (-1) := i64_of (by decide) (by decide)
  have i1 : I64 0 := i64_of (by decide) (by decide)
  have Q1 := hideIt q1
  have Q2 := hideIt q2
  have Q3 := hideIt q3
  have Q4 := hideIt q4
  have Q5 := hideIt q5
  have Q6 := hideIt q6
  have Q7 := hideIt q7
  have Q8 := hideIt q8
  have Q9 := hideIt q9
  have Q10 := hideIt q10
  have H1 := hideIt h1
  have H2 := hideIt h2
  have HE := hideIt he
  clear q1 q2 q3 q4 q5 q6 q7 q8 q9 q10 h1 h2 he
  have hw0 := h.gr.size
  have hlo := h.lo
  have hgs := hideIt h.gs
  have HH := hideIt h
  clear h
  go_enter Tryz.func92, Tryz.ntmps92
  go_upto_region 1 with fail
  obtain ⟨W, hW, X0, X1, X2, g0⟩ := slots3 w a c a2 c2 a3 c3
  rw [hW]
  clear hW
  have HW := hideIt ((Wy.start HH.out).kept g0)
  have HX : Hid (SB W O w.heap.size a c) := ⟨X0, (Wy.start HH.out).out (by omega)⟩
  have HY : Hid (SB W O (w.heap.size + 1) a2 c2) := ⟨X1, (Wy.start HH.out).out (by omega)⟩
  have HV : Hid (SB W O (w.heap.size + 2) a3 c3) := ⟨X2, (Wy.start HH.out).out (by omega)⟩
  clear X0 X1 X2 g0
  go_cut [9, 10] (fun s9 s10 wc => ∃ (Z : Nat) (Oc : Nat → Prop), s9 = .pointer (some ⟨Z, 0, none⟩) ∧ s10 = .int .i64 0 ∧ Hid (Wy w0 w wc O Oc p s t m (M.up S (a2, c2) C.zero) f) ∧ Hid (BB wc Oc Z ⟨k1, o1, r1, b1, g1, u1⟩) ∧ Hid (SB wc Oc w.heap.size a c) ∧ Hid (SB wc Oc (w.heap.size + 1) a2 c2) ∧ Hid (SB wc Oc (w.heap.size + 2) a3 c3) ∧ Hid (w.heap.size ≤ Z))
  case first =>
    have T0b : Rd3 W p 0 s (w.heap.size + 1) a2 c2 := ⟨HW.out.cs.c0, HY.out.sb.at0, HY.out.sb.at1⟩
    have T0 : Rd3 W.drew p 0 s (w.heap.size + 1) a2 c2 := T0b.kept (gbDrew (gbRefl W none))
    have pW := HW.out.cs.plt
    have xW := HY.out.sb.lt
    go_region_held3 (fun w' => Rd3 w' p 0 s (w.heap.size + 1) a2 c2)
      (first | with_reducible exact T0 | with_reducible exact T1 | (focus (refine Rd3.kept T1 ?_; (repeat (first | with_reducible refine gbAllocN ?_ _ | with_reducible refine gbSetNew ?_ _ _ _ (by with_reducible exact Nat.le_refl _) | with_reducible exact gbRefl _ _)); done)) | (focus (refine Rd3.keep (y := W.heap.size) T1 ?_ (Nat.ne_of_lt pW) (Nat.ne_of_lt xW); (repeat (first | with_reducible refine gbSet1 ?_ _ _ | with_reducible exact gbRefl _ _)); done)) | (focus (refine Rd3.kept T0b ?_; (repeat (first | with_reducible exact gbRefl W none | with_reducible refine gbDrew ?_ | with_reducible refine gbAllocN ?_ _)); done)) | fail)
      ((first | (go_at_call 95; refine ((HW.out.kept (by repeat (first | with_reducible exact gbRefl W none | with_reducible refine gbDrew ?_ | with_reducible refine gbAllocN ?_ _))).cs.take a2 c2 k1 o1 r1 b1 g1 u1 0 ha2 Q3.out Q1.out).mono ?_; rintro _ wu1 ⟨rfl, A1, F1⟩; have hcc := fun o (hb : W.heap.size < _) => gcellF F1 W.heap.size o (HW.out.out (Nat.le_refl _)) hb; have hff := fun o (hb : W.heap.size < _) => gfrozF F1 W.heap.size o (HW.out.out (Nat.le_refl _)) hb; rw [Q2.out] at A1; have HW1 := hideIt ((HW.out.kept (by repeat (first | with_reducible exact gbRefl W none | with_reducible refine gbDrew ?_ | with_reducible refine gbAllocN ?_ _))).call A1 F1); have HX_1 := hideIt ((HX.out.kept (by repeat (first | with_reducible exact gbRefl W none | with_reducible refine gbDrew ?_ | with_reducible refine gbAllocN ?_ _))).call F1); have HY_1 := hideIt ((HY.out.kept (by repeat (first | with_reducible exact gbRefl W none | with_reducible refine gbDrew ?_ | with_reducible refine gbAllocN ?_ _))).call F1); have HV_1 := hideIt ((HV.out.kept (by repeat (first | with_reducible exact gbRefl W none | with_reducible refine gbDrew ?_ | with_reducible refine gbAllocN ?_ _))).call F1); have T1 : Rd3 wu1 p 0 s (w.heap.size + 1) a2 c2 := ⟨HW1.out.cs.c0, HY_1.out.sb.at0, HY_1.out.sb.at1⟩) | fail))
    · rename_i hold
      clear hold T0
      obtain ⟨W6, hW6, Z6, g6⟩ := boxNew wu1 ⟨k1, o1, r1, b1, g1, u1⟩
      simp only at hW6
      rw [hW6]
      go_wp2
      go_meet
      exact ⟨_, _, rfl, rfl, hideIt (HW1.out.kept g6), hideIt ⟨Z6, HW1.out.out (Nat.le_refl _)⟩, hideIt (HX_1.out.kept (g6)), hideIt (HY_1.out.kept (g6)), hideIt (HV_1.out.kept (g6)), hideIt (Nat.le_trans HW.out.fr.size (Nat.le_trans (gbDrewN W 1 none).size F1.size))⟩
    · rename_i hold
      clear hold T0
      have Z0 : Box wu1 W.heap.size C.zero := F1.box ((Box.made W C.zero).kept (gbDrew (gbRefl _ none))) (HW.out.out (Nat.le_refl _))
      have Zn := wideNo (O := _) (w' := wu1) (HW.out.out (Nat.le_refl _)) ((Box.made W C.zero).kept (gbDrew (gbRefl _ none))).lt
      obtain ⟨W6, hW6, Z6, g6⟩ := Z0.put ⟨k1, o1, r1, b1, g1, u1⟩
      simp only at hW6
      rw [hW6]
      go_wp2
      go_meet
      exact ⟨_, _, rfl, rfl, hideIt (HW1.out.keep g6 Zn HW.out.fr.size hw0), hideIt ⟨Z6, Zn⟩, hideIt (HX_1.out.keep g6 (Nat.ne_of_lt HX.out.sb.lt)), hideIt (HY_1.out.keep g6 (Nat.ne_of_lt HY.out.sb.lt)), hideIt (HV_1.out.keep g6 (Nat.ne_of_lt HV.out.sb.lt)), hideIt HW.out.fr.size⟩
  case rest =>
    obtain ⟨Z1, Oc1, rfl, rfl, HW1, HP_1, HX_1, HY_1, HV_1, HZ1⟩ := hcut
    go_upto_region 2 with fail
    go_cut [11, 12] (fun s11 s12 wc => ∃ (Z : Nat) (Oc : Nat → Prop), s11 = .pointer (some ⟨Z, 0, none⟩) ∧ s12 = .int .i64 0 ∧ Hid (Wy w0 w wc O Oc p s t m (M.up (M.up S (a2, c2) C.zero) (a3, c3) C.zero) f) ∧ Hid (BB wc Oc Z ⟨k2, o2, r2, b2, g2, u2⟩) ∧ Hid (SB wc Oc w.heap.size a c) ∧ Hid (SB wc Oc (w.heap.size + 1) a2 c2) ∧ Hid (SB wc Oc (w.heap.size + 2) a3 c3) ∧ Hid (BB wc Oc Z1 ⟨k1, o1, r1, b1, g1, u1⟩) ∧ Hid (w.heap.size ≤ Z))
    case first =>
      have T0b : Rd3 wc p 0 s (w.heap.size + 2) a3 c3 := ⟨HW1.out.cs.c0, HV_1.out.sb.at0, HV_1.out.sb.at1⟩
      have T0 : Rd3 wc.drew p 0 s (w.heap.size + 2) a3 c3 := T0b.kept (gbDrew (gbRefl wc none))
      have pW := HW1.out.cs.plt
      have xW := HV_1.out.sb.lt
      go_region_held3 (fun w' => Rd3 w' p 0 s (w.heap.size + 2) a3 c3)
        (first | with_reducible exact T0 | with_reducible exact T1 | (focus (refine Rd3.kept T1 ?_; (repeat (first | with_reducible refine gbAllocN ?_ _ | with_reducible refine gbSetNew ?_ _ _ _ (by with_reducible exact Nat.le_refl _) | with_reducible exact gbRefl _ _)); done)) | (focus (refine Rd3.keep (y := wc.heap.size) T1 ?_ (Nat.ne_of_lt pW) (Nat.ne_of_lt xW); (repeat (first | with_reducible refine gbSet1 ?_ _ _ | with_reducible exact gbRefl _ _)); done)) | (focus (refine Rd3.kept T0b ?_; (repeat (first | with_reducible exact gbRefl wc none | with_reducible refine gbDrew ?_ | with_reducible refine gbAllocN ?_ _)); done)) | fail)
        ((first | (go_at_call 95; refine ((HW1.out.kept (by repeat (first | with_reducible exact gbRefl wc none | with_reducible refine gbDrew ?_ | with_reducible refine gbAllocN ?_ _))).cs.take a3 c3 k2 o2 r2 b2 g2 u2 0 ha3 Q6.out Q4.out).mono ?_; rintro _ wu2 ⟨rfl, A2, F2⟩; have hcc := fun o (hb : wc.heap.size < _) => gcellF F2 wc.heap.size o (HW1.out.out (Nat.le_refl _)) hb; have hff := fun o (hb : wc.heap.size < _) => gfrozF F2 wc.heap.size o (HW1.out.out (Nat.le_refl _)) hb; rw [Q5.out] at A2; have HW2 := hideIt ((HW1.out.kept (by repeat (first | with_reducible exact gbRefl wc none | with_reducible refine gbDrew ?_ | with_reducible refine gbAllocN ?_ _))).call A2 F2); have HX_2 := hideIt ((HX_1.out.kept (by repeat (first | with_reducible exact gbRefl wc none | with_reducible refine gbDrew ?_ | with_reducible refine gbAllocN ?_ _))).call F2); have HY_2 := hideIt ((HY_1.out.kept (by repeat (first | with_reducible exact gbRefl wc none | with_reducible refine gbDrew ?_ | with_reducible refine gbAllocN ?_ _))).call F2); have HV_2 := hideIt ((HV_1.out.kept (by repeat (first | with_reducible exact gbRefl wc none | with_reducible refine gbDrew ?_ | with_reducible refine gbAllocN ?_ _))).call F2); have HP_2 := hideIt ((HP_1.out.kept (by repeat (first | with_reducible exact gbRefl wc none | with_reducible refine gbDrew ?_ | with_reducible refine gbAllocN ?_ _))).call F2); have T1 : Rd3 wu2 p 0 s (w.heap.size + 2) a3 c3 := ⟨HW2.out.cs.c0, HV_2.out.sb.at0, HV_2.out.sb.at1⟩) | fail))
      · rename_i hold
        clear hold T0
        obtain ⟨W6, hW6, Z6, g6⟩ := boxNew wu2 ⟨k2, o2, r2, b2, g2, u2⟩
        simp only at hW6
        rw [hW6]
        go_wp2
        go_meet
        exact ⟨_, _, rfl, rfl, hideIt (HW2.out.kept g6), hideIt ⟨Z6, HW2.out.out (Nat.le_refl _)⟩, hideIt (HX_2.out.kept (g6)), hideIt (HY_2.out.kept (g6)), hideIt (HV_2.out.kept (g6)), hideIt (HP_2.out.kept (g6)), hideIt (Nat.le_trans HW1.out.fr.size (Nat.le_trans (gbDrewN wc 1 none).size F2.size))⟩
      · rename_i hold
        clear hold T0
        have Z0 : Box wu2 wc.heap.size C.zero := F2.box ((Box.made wc C.zero).kept (gbDrew (gbRefl _ none))) (HW1.out.out (Nat.le_refl _))
        have Zn := wideNo (O := _) (w' := wu2) (HW1.out.out (Nat.le_refl _)) ((Box.made wc C.zero).kept (gbDrew (gbRefl _ none))).lt
        obtain ⟨W6, hW6, Z6, g6⟩ := Z0.put ⟨k2, o2, r2, b2, g2, u2⟩
        simp only at hW6
        rw [hW6]
        go_wp2
        go_meet
        exact ⟨_, _, rfl, rfl, hideIt (HW2.out.keep g6 Zn HW1.out.fr.size hw0), hideIt ⟨Z6, Zn⟩, hideIt (HX_2.out.keep g6 (Nat.ne_of_lt HX_1.out.sb.lt)), hideIt (HY_2.out.keep g6 (Nat.ne_of_lt HY_1.out.sb.lt)), hideIt (HV_2.out.keep g6 (Nat.ne_of_lt HV_1.out.sb.lt)), hideIt (HP_2.out.keep g6 (Nat.ne_of_lt HP_1.out.bx.lt)), hideIt HW1.out.fr.size⟩
    case rest =>
      obtain ⟨Z2, Oc2, rfl, rfl, HW2, HQ_2, HX_2, HY_2, HV_2, HP_2, HZ2⟩ := hcut
      go_upto_region 3 with fail
      have T0 : Ptr wc.drew p 0 s ∧ Two wc.drew w.heap.size a c ∧ Six wc.drew Z1 ⟨k1, o1, r1, b1, g1, u1⟩ := ⟨(HW2.out.kept (gbDrewN wc 1 none)).cs.c0, (HX_2.out.kept (gbDrewN wc 1 none)).sb.tup, (HP_2.out.kept (gbDrewN wc 1 none)).bx.tup⟩
      go_region_held3 (fun w' => Ptr w' p 0 s ∧ Two w' w.heap.size a c ∧ Six w' Z1 ⟨k1, o1, r1, b1, g1, u1⟩)
        (first | with_reducible exact T0 | with_reducible exact T1 | fail)
        ((first | (go_at_call 76; refine ((HW2.out.kept (gbDrewN wc 1 none)).cs.put a c k1 o1 r1 b1 g1 u1 0 ha nb1 ng1 Q7.out).mono ?_; rintro _ wu3 ⟨rfl, A3, F3⟩; rw [Q8.out] at A3; have HW3 := hideIt ((HW2.out.kept (gbDrewN wc 1 none)).call A3 F3); have HX_3 := hideIt ((HX_2.out.kept (gbDrewN wc 1 none)).call F3); have HY_3 := hideIt ((HY_2.out.kept (gbDrewN wc 1 none)).call F3); have HV_3 := hideIt ((HV_2.out.kept (gbDrewN wc 1 none)).call F3); have HP_3 := hideIt ((HP_2.out.kept (gbDrewN wc 1 none)).call F3); have HQ_3 := hideIt ((HQ_2.out.kept (gbDrewN wc 1 none)).call F3); have T1 : Ptr wu3 p 0 s ∧ Two wu3 w.heap.size a c ∧ Six wu3 Z1 ⟨k1, o1, r1, b1, g1, u1⟩ := ⟨HW3.out.cs.c0, HX_3.out.sb.tup, HP_3.out.bx.tup⟩; clear A3 F3) | fail))
      clear T0 T1
      go_upto_region 4 with fail
      have T0 : Ptr wu3.drew p 0 s ∧ Two wu3.drew (w.heap.size + 1) a2 c2 ∧ Six wu3.drew Z2 ⟨k2, o2, r2, b2, g2, u2⟩ := ⟨(HW3.out.kept (gbDrewN wu3 1 none)).cs.c0, (HY_3.out.kept (gbDrewN wu3 1 none)).sb.tup, (HQ_3.out.kept (gbDrewN wu3 1 none)).bx.tup⟩
      go_region_held3 (fun w' => Ptr w' p 0 s ∧ Two w' (w.heap.size + 1) a2 c2 ∧ Six w' Z2 ⟨k2, o2, r2, b2, g2, u2⟩)
        (first | with_reducible exact T0 | with_reducible exact T1 | fail)
        ((first | (go_at_call 76; refine ((HW3.out.kept (gbDrewN wu3 1 none)).cs.put a2 c2 k2 o2 r2 b2 g2 u2 0 ha2 nb2 ng2 Q9.out).mono ?_; rintro _ wu4 ⟨rfl, A4, F4⟩; rw [Q10.out] at A4; have HW4 := hideIt ((HW3.out.kept (gbDrewN wu3 1 none)).call A4 F4); have HX_4 := hideIt ((HX_3.out.kept (gbDrewN wu3 1 none)).call F4); have HY_4 := hideIt ((HY_3.out.kept (gbDrewN wu3 1 none)).call F4); have HV_4 := hideIt ((HV_3.out.kept (gbDrewN wu3 1 none)).call F4); have HP_4 := hideIt ((HP_3.out.kept (gbDrewN wu3 1 none)).call F4); have HQ_4 := hideIt ((HQ_3.out.kept (gbDrewN wu3 1 none)).call F4); have T1 : Ptr wu4 p 0 s ∧ Two wu4 (w.heap.size + 1) a2 c2 ∧ Six wu4 Z2 ⟨k2, o2, r2, b2, g2, u2⟩ := ⟨HW4.out.cs.c0, HY_4.out.sb.tup, HQ_4.out.bx.tup⟩; clear A4 F4) | fail))
      clear T0 T1
      go_upto_region 6 with fail
      obtain ⟨W5, hW5, X5, g5⟩ := sboxNew wu4 (-1) 0
      rw [hW5]
      clear hW5
      have HA : Hid (SB W5 _ wu4.heap.size (-1) 0) := ⟨X5, HW4.out.out (Nat.le_refl _)⟩
      have HW5 := hideIt (HW4.out.kept g5)
      have HX5 := hideIt (HX_4.out.kept g5)
      have HY5 := hideIt (HY_4.out.kept g5)
      have HV5 := hideIt (HV_4.out.kept g5)
      clear HW4 HX_4 HY_4 HV_4 HP_4 HQ_4 g5 X5
      have T0 : Ptr W5.drew p 1 t ∧ Two W5.drew (w.heap.size + 1) a2 c2 ∧ Two W5.drew wu4.heap.size (-1) 0 := ⟨(HW5.out.kept (gbDrewN W5 1 none)).cs.c1, (HY5.out.kept (gbDrewN W5 1 none)).sb.tup, (HA.out.kept (gbDrewN W5 1 none)).sb.tup⟩
      go_region_held3 (fun w' => Ptr w' p 1 t ∧ Two w' (w.heap.size + 1) a2 c2 ∧ Two w' wu4.heap.size (-1) 0)
        (first | with_reducible exact T0 | with_reducible exact T1 | fail)
        ((first | (go_at_call 120; refine ((HW5.out.kept (gbDrewN W5 1 none)).cs.move a2 c2 (-1) 0 0 ha2 hc2 i0 i1 hm hT.out.m1).mono ?_; rintro _ wu6 ⟨rfl, A6, F6⟩; rw [hT.out.f1] at A6; have HW6 := hideIt ((HW5.out.kept (gbDrewN W5 1 none)).call A6 F6); have HX_6 := hideIt ((HX5.out.kept (gbDrewN W5 1 none)).call F6); have HY_6 := hideIt ((HY5.out.kept (gbDrewN W5 1 none)).call F6); have HV_6 := hideIt ((HV5.out.kept (gbDrewN W5 1 none)).call F6); have HA_6 := hideIt ((HA.out.kept (gbDrewN W5 1 none)).call F6); have T1 : Ptr wu6 p 1 t ∧ Two wu6 (w.heap.size + 1) a2 c2 ∧ Two wu6 wu4.heap.size (-1) 0 := ⟨HW6.out.cs.c1, HY_6.out.sb.tup, HA_6.out.sb.tup⟩; clear A6 F6) | fail))
      clear T0 T1
      go_upto_region 7 with fail
      have T0 : Ptr wu6.drew p 1 t ∧ Two wu6.drew (w.heap.size + 2) a3 c3 ∧ Two wu6.drew (w.heap.size + 1) a2 c2 := ⟨(HW6.out.kept (gbDrewN wu6 1 none)).cs.c1, (HV_6.out.kept (gbDrewN wu6 1 none)).sb.tup, (HY_6.out.kept (gbDrewN wu6 1 none)).sb.tup⟩
      go_region_held3 (fun w' => Ptr w' p 1 t ∧ Two w' (w.heap.size + 2) a3 c3 ∧ Two w' (w.heap.size + 1) a2 c2)
        (first | with_reducible exact T0 | with_reducible exact T1 | fail)
        ((first | (go_at_call 120; refine ((HW6.out.kept (gbDrewN wu6 1 none)).cs.move a3 c3 a2 c2 0 ha3 hc3 ha2 hc2 hm1 hT.out.m2).mono ?_; rintro _ wu7 ⟨rfl, A7, F7⟩; rw [hT.out.f2] at A7; have HW7 := hideIt ((HW6.out.kept (gbDrewN wu6 1 none)).call A7 F7); have HX_7 := hideIt ((HX_6.out.kept (gbDrewN wu6 1 none)).call F7); have HY_7 := hideIt ((HY_6.out.kept (gbDrewN wu6 1 none)).call F7); have HV_7 := hideIt ((HV_6.out.kept (gbDrewN wu6 1 none)).call F7); have HA_7 := hideIt ((HA_6.out.kept (gbDrewN wu6 1 none)).call F7); have T1 : Ptr wu7 p 1 t ∧ Two wu7 (w.heap.size + 2) a3 c3 ∧ Two wu7 (w.heap.size + 1) a2 c2 := ⟨HW7.out.cs.c1, HV_7.out.sb.tup, HY_7.out.sb.tup⟩; clear A7 F7) | fail))
      clear T0 T1
      go_upto_region 8 with fail
      have T0 : Ptr wu7.drew p 1 t ∧ Two wu7.drew wu4.heap.size (-1) 0 ∧ Two wu7.drew w.heap.size a c := ⟨(HW7.out.kept (gbDrewN wu7 1 none)).cs.c1, (HA_7.out.kept (gbDrewN wu7 1 none)).sb.tup, (HX_7.out.kept (gbDrewN wu7 1 none)).sb.tup⟩
      go_region_held3 (fun w' => Ptr w' p 1 t ∧ Two w' wu4.heap.size (-1) 0 ∧ Two w' w.heap.size a c)
        (first | with_reducible exact T0 | with_reducible exact T1 | fail)
        ((first | (go_at_call 120; refine ((HW7.out.kept (gbDrewN wu7 1 none)).cs.move (-1) 0 a c 0 i0 i1 ha hc hm2 hT.out.m3).mono ?_; rintro _ wu8 ⟨rfl, A8, F8⟩; rw [hT.out.f3] at A8; have HW8 := hideIt ((HW7.out.kept (gbDrewN wu7 1 none)).call A8 F8); have HX_8 := hideIt ((HX_7.out.kept (gbDrewN wu7 1 none)).call F8); have HY_8 := hideIt ((HY_7.out.kept (gbDrewN wu7 1 none)).call F8); have HV_8 := hideIt ((HV_7.out.kept (gbDrewN wu7 1 none)).call F8); have HA_8 := hideIt ((HA_7.out.kept (gbDrewN wu7 1 none)).call F8); have T1 : Ptr wu8 p 1 t ∧ Two wu8 wu4.heap.size (-1) 0 ∧ Two wu8 w.heap.size a c := ⟨HW8.out.cs.c1, HA_8.out.sb.tup, HX_8.out.sb.tup⟩; clear A8 F8) | fail))
      clear T0 T1
      go_wp2
      go_ret
      have E := HW8.out.fin hw0 hlo
      unfold M.rotS M.rotF
      rw [if_pos HE.out, if_pos HE.out, hT.out.f1, hT.out.f2, hT.out.f3, H1.out, H2.out]
      exact ⟨rfl, E.1, E.2⟩

set_option maxHeartbeats 2000000 in
theorem Cs.take_no {w0 w : World} {O : Nat → Prop} {p s t m : Nat} {S : St} {f : T9.Fo} (h : Cs w0 w O p s t m S f) (I : M.Inv S f) (a c k o r b g u e : Int) (ha : I64 a) (hc : I64 c) (hm : f.len ≤ 1000) (hC : M.srcC S (a, c) = ⟨k, o, r, b, g, u⟩) (he : M.srcE S (a, c) = e) (hn : (e != 0) = true) :
    Calls Tryz.prog 47 #[.pointer (some ⟨p, 0, none⟩), sv a c] w fun x w' => x = .returned (.tuple #[cv ⟨k, o, r, b, g, u⟩, .int .i64 e]) ∧ Cs w0 w' (wide O w w') p s t m (M.takS S (a, c)) (M.takF S f (a, c)) ∧ Fr O w w' := by
  have hw0 := h.gr.size
  have hlo := h.lo
  have hgs := hideIt h.gs
  have HH := hideIt h
  clear h
  go_enter Tryz.func47, Tryz.ntmps47
  go_upto_region 1 with fail
  obtain ⟨W, hW, X0, X1, g0⟩ := slotCap w a c
  rw [hW]
  clear hW
  have HW := hideIt ((Wy.start HH.out).kept g0)
  have HX : Hid (SB W O w.heap.size a c) := ⟨X0, (Wy.start HH.out).out (by omega)⟩
  have HR : Hid (BB W O (w.heap.size + 1) C.zero) := ⟨X1, (Wy.start HH.out).out (by omega)⟩
  clear X0 X1 g0
  go_cut [6, 7] (fun s6 s7 wc => ∃ (Z : Nat) (Oc : Nat → Prop), s6 = .pointer (some ⟨Z, 0, none⟩) ∧ s7 = .int .i64 e ∧ Hid (Wy w0 w wc O Oc p s t m (M.takeS S a c) f) ∧ Hid (BB wc Oc Z ⟨k, o, r, b, g, u⟩) ∧ Hid (SB wc Oc w.heap.size a c) ∧ Hid (BB wc Oc (w.heap.size + 1) C.zero) ∧ Hid (w.heap.size + 1 < Z))
  case first =>
    have T0b : Rd3 W p 0 s w.heap.size a c := ⟨HW.out.cs.c0, HX.out.sb.at0, HX.out.sb.at1⟩
    have T0 : Rd3 W.drew p 0 s w.heap.size a c := T0b.kept (gbDrew (gbRefl W none))
    have pW := HW.out.cs.plt
    have xW := HX.out.sb.lt
    go_region_held3 (fun w' => Rd3 w' p 0 s w.heap.size a c)
      (first | with_reducible exact T0 | with_reducible exact T1 | (focus (refine Rd3.kept T1 ?_; (repeat (first | with_reducible refine gbAllocN ?_ _ | with_reducible refine gbSetNew ?_ _ _ _ (by with_reducible exact Nat.le_refl _) | with_reducible exact gbRefl _ _)); done)) | (focus (refine Rd3.keep (y := W.heap.size) T1 ?_ (Nat.ne_of_lt pW) (Nat.ne_of_lt xW); (repeat (first | with_reducible refine gbSet1 ?_ _ _ | with_reducible exact gbRefl _ _)); done)) | (focus (refine Rd3.kept T0b ?_; (repeat (first | with_reducible exact gbRefl W none | with_reducible refine gbDrew ?_ | with_reducible refine gbAllocN ?_ _)); done)) | fail)
      ((first | (go_at_call 95; refine ((HW.out.kept (by repeat (first | with_reducible exact gbRefl W none | with_reducible refine gbDrew ?_ | with_reducible refine gbAllocN ?_ _))).cs.take a c k o r b g u e ha hC he).mono ?_; rintro _ wu1 ⟨rfl, A1, F1⟩; have hcc := fun o (hb : W.heap.size < _) => gcellF F1 W.heap.size o (HW.out.out (Nat.le_refl _)) hb; have hff := fun o (hb : W.heap.size < _) => gfrozF F1 W.heap.size o (HW.out.out (Nat.le_refl _)) hb; have HW1 := hideIt ((HW.out.kept (by repeat (first | with_reducible exact gbRefl W none | with_reducible refine gbDrew ?_ | with_reducible refine gbAllocN ?_ _))).call A1 F1); have HX_1 := hideIt ((HX.out.kept (by repeat (first | with_reducible exact gbRefl W none | with_reducible refine gbDrew ?_ | with_reducible refine gbAllocN ?_ _))).call F1); have HR_1 := hideIt ((HR.out.kept (by repeat (first | with_reducible exact gbRefl W none | with_reducible refine gbDrew ?_ | with_reducible refine gbAllocN ?_ _))).call F1); have T1 : Rd3 wu1 p 0 s w.heap.size a c := ⟨HW1.out.cs.c0, HX_1.out.sb.at0, HX_1.out.sb.at1⟩) | fail))
    · rename_i hold
      clear hold T0
      obtain ⟨W6, hW6, Z6, g6⟩ := boxNew wu1 ⟨k, o, r, b, g, u⟩
      simp only at hW6
      rw [hW6]
      go_wp2
      go_meet
      exact ⟨_, _, rfl, rfl, hideIt (HW1.out.kept g6), hideIt ⟨Z6, HW1.out.out (Nat.le_refl _)⟩, hideIt (HX_1.out.kept (g6)), hideIt (HR_1.out.kept (g6)), hideIt (Nat.lt_of_lt_of_le HR.out.bx.lt (Nat.le_trans (gbDrewN W 1 none).size F1.size))⟩
    · rename_i hold
      clear hold T0
      have Z0 : Box wu1 W.heap.size C.zero := F1.box ((Box.made W C.zero).kept (gbDrew (gbRefl _ none))) (HW.out.out (Nat.le_refl _))
      have Zn := wideNo (O := _) (w' := wu1) (HW.out.out (Nat.le_refl _)) ((Box.made W C.zero).kept (gbDrew (gbRefl _ none))).lt
      obtain ⟨W6, hW6, Z6, g6⟩ := Z0.put ⟨k, o, r, b, g, u⟩
      simp only at hW6
      rw [hW6]
      go_wp2
      go_meet
      exact ⟨_, _, rfl, rfl, hideIt (HW1.out.keep g6 Zn HW.out.fr.size hw0), hideIt ⟨Z6, Zn⟩, hideIt (HX_1.out.keep g6 (Nat.ne_of_lt HX.out.sb.lt)), hideIt (HR_1.out.keep g6 (Nat.ne_of_lt HR.out.bx.lt)), hideIt HR.out.bx.lt⟩
  case rest =>
    obtain ⟨Z1, Oc1, rfl, rfl, HW1, HP_1, HX_1, HR_1, HZ1⟩ := hcut
    obtain ⟨q0, q1, q2, q3, q4, q5, _, qf⟩ := HR_1.out.bx
    have f0 := qf 0
    have f1 := qf 1
    have f2 := qf 2
    have f3 := qf 3
    have f4 := qf 4
    have f5 := qf 5
    clear qf
    go_wp2
    obtain ⟨W7, hW7, Q7, g7⟩ := HR_1.out.bx.put C.zero
    rw [hW7]
    clear hW7 q0 q1 q2 q3 q4 q5 f0 f1 f2 f3 f4 f5
    obtain ⟨y0, y1, y2, y3, y4, y5, _, _⟩ := Q7
    have z1 : e ≠ 0 := by simpa using hn
    have hz : (⟨k, o, r, b, g, u⟩ : C) = C.zero := hC.symm.trans (M.srcC_no (by rw [he]; exact z1))
    cases hz
    have E := (HW1.out.keep g7 HR_1.out.no (Nat.le_succ _) hw0).fin hw0 hlo
    unfold M.takF M.takS
    rw [if_neg (by rw [he]; exact z1)]
    exact bodyPost_ret (v := .tuple #[cv C.zero, .int .i64 e]) (by simp [results, Tryz.results47, go_sem, y0, y1, y2, y3, y4, y5]) rfl ⟨rfl, E.1, E.2⟩

set_option maxHeartbeats 2000000 in
theorem Cs.take_yes {w0 w : World} {O : Nat → Prop} {p s t m : Nat} {S : St} {f : T9.Fo} (h : Cs w0 w O p s t m S f) (I : M.Inv S f) (a c k o r b g u e : Int) (ha : I64 a) (hc : I64 c) (hm : f.len ≤ 1000) (hC : M.srcC S (a, c) = ⟨k, o, r, b, g, u⟩) (he : M.srcE S (a, c) = e) (hn : e = 0) :
    Calls Tryz.prog 47 #[.pointer (some ⟨p, 0, none⟩), sv a c] w fun x w' => x = .returned (.tuple #[cv ⟨k, o, r, b, g, u⟩, .int .i64 e]) ∧ Cs w0 w' (wide O w w') p s t m (M.takS S (a, c)) (M.takF S f (a, c)) ∧ Fr O w w' := by
  subst hn
  have hw0 := h.gr.size
  have hlo := h.lo
  have hgs := hideIt h.gs
  have HH := hideIt h
  clear h
  go_enter Tryz.func47, Tryz.ntmps47
  go_upto_region 1 with fail
  obtain ⟨W, hW, X0, X1, g0⟩ := slotCap w a c
  rw [hW]
  clear hW
  have HW := hideIt ((Wy.start HH.out).kept g0)
  have HX : Hid (SB W O w.heap.size a c) := ⟨X0, (Wy.start HH.out).out (by omega)⟩
  have HR : Hid (BB W O (w.heap.size + 1) C.zero) := ⟨X1, (Wy.start HH.out).out (by omega)⟩
  clear X0 X1 g0
  go_cut [6, 7] (fun s6 s7 wc => ∃ (Z : Nat) (Oc : Nat → Prop), s6 = .pointer (some ⟨Z, 0, none⟩) ∧ s7 = .int .i64 0 ∧ Hid (Wy w0 w wc O Oc p s t m (M.takeS S a c) f) ∧ Hid (BB wc Oc Z ⟨k, o, r, b, g, u⟩) ∧ Hid (SB wc Oc w.heap.size a c) ∧ Hid (BB wc Oc (w.heap.size + 1) C.zero) ∧ Hid (w.heap.size + 1 < Z))
  case first =>
    have T0b : Rd3 W p 0 s w.heap.size a c := ⟨HW.out.cs.c0, HX.out.sb.at0, HX.out.sb.at1⟩
    have T0 : Rd3 W.drew p 0 s w.heap.size a c := T0b.kept (gbDrew (gbRefl W none))
    have pW := HW.out.cs.plt
    have xW := HX.out.sb.lt
    go_region_held3 (fun w' => Rd3 w' p 0 s w.heap.size a c)
      (first | with_reducible exact T0 | with_reducible exact T1 | (focus (refine Rd3.kept T1 ?_; (repeat (first | with_reducible refine gbAllocN ?_ _ | with_reducible refine gbSetNew ?_ _ _ _ (by with_reducible exact Nat.le_refl _) | with_reducible exact gbRefl _ _)); done)) | (focus (refine Rd3.keep (y := W.heap.size) T1 ?_ (Nat.ne_of_lt pW) (Nat.ne_of_lt xW); (repeat (first | with_reducible refine gbSet1 ?_ _ _ | with_reducible exact gbRefl _ _)); done)) | (focus (refine Rd3.kept T0b ?_; (repeat (first | with_reducible exact gbRefl W none | with_reducible refine gbDrew ?_ | with_reducible refine gbAllocN ?_ _)); done)) | fail)
      ((first | (go_at_call 95; refine ((HW.out.kept (by repeat (first | with_reducible exact gbRefl W none | with_reducible refine gbDrew ?_ | with_reducible refine gbAllocN ?_ _))).cs.take a c k o r b g u 0 ha hC he).mono ?_; rintro _ wu1 ⟨rfl, A1, F1⟩; have hcc := fun o (hb : W.heap.size < _) => gcellF F1 W.heap.size o (HW.out.out (Nat.le_refl _)) hb; have hff := fun o (hb : W.heap.size < _) => gfrozF F1 W.heap.size o (HW.out.out (Nat.le_refl _)) hb; have HW1 := hideIt ((HW.out.kept (by repeat (first | with_reducible exact gbRefl W none | with_reducible refine gbDrew ?_ | with_reducible refine gbAllocN ?_ _))).call A1 F1); have HX_1 := hideIt ((HX.out.kept (by repeat (first | with_reducible exact gbRefl W none | with_reducible refine gbDrew ?_ | with_reducible refine gbAllocN ?_ _))).call F1); have HR_1 := hideIt ((HR.out.kept (by repeat (first | with_reducible exact gbRefl W none | with_reducible refine gbDrew ?_ | with_reducible refine gbAllocN ?_ _))).call F1); have T1 : Rd3 wu1 p 0 s w.heap.size a c := ⟨HW1.out.cs.c0, HX_1.out.sb.at0, HX_1.out.sb.at1⟩) | fail))
    · rename_i hold
      clear hold T0
      obtain ⟨W6, hW6, Z6, g6⟩ := boxNew wu1 ⟨k, o, r, b, g, u⟩
      simp only at hW6
      rw [hW6]
      go_wp2
      go_meet
      exact ⟨_, _, rfl, rfl, hideIt (HW1.out.kept g6), hideIt ⟨Z6, HW1.out.out (Nat.le_refl _)⟩, hideIt (HX_1.out.kept (g6)), hideIt (HR_1.out.kept (g6)), hideIt (Nat.lt_of_lt_of_le HR.out.bx.lt (Nat.le_trans (gbDrewN W 1 none).size F1.size))⟩
    · rename_i hold
      clear hold T0
      have Z0 : Box wu1 W.heap.size C.zero := F1.box ((Box.made W C.zero).kept (gbDrew (gbRefl _ none))) (HW.out.out (Nat.le_refl _))
      have Zn := wideNo (O := _) (w' := wu1) (HW.out.out (Nat.le_refl _)) ((Box.made W C.zero).kept (gbDrew (gbRefl _ none))).lt
      obtain ⟨W6, hW6, Z6, g6⟩ := Z0.put ⟨k, o, r, b, g, u⟩
      simp only at hW6
      rw [hW6]
      go_wp2
      go_meet
      exact ⟨_, _, rfl, rfl, hideIt (HW1.out.keep g6 Zn HW.out.fr.size hw0), hideIt ⟨Z6, Zn⟩, hideIt (HX_1.out.keep g6 (Nat.ne_of_lt HX.out.sb.lt)), hideIt (HR_1.out.keep g6 (Nat.ne_of_lt HR.out.bx.lt)), hideIt HR.out.bx.lt⟩
  case rest =>
    obtain ⟨Z1, Oc1, rfl, rfl, HW1, HP_1, HX_1, HR_1, HZ1⟩ := hcut
    go_upto_region 4 with fail
    have hpy : p ≠ w.heap.size + 1 := fun e => HR_1.out.no (e ▸ HW1.out.cs.op)
    have hzy : Z1 ≠ w.heap.size + 1 := Nat.ne_of_gt HZ1.out
    have hxy : w.heap.size ≠ w.heap.size + 1 := Nat.ne_of_lt (Nat.lt_succ_self _)
    have TT := M.tak_ok I he
    have T0 : Tk3 wc.drew p t w.heap.size a c Z1 ⟨k, o, r, b, g, u⟩ := ⟨(HW1.out.kept (gbDrewN wc 1 none)).cs.c1, (HX_1.out.kept (gbDrewN wc 1 none)).sb.tup, (HP_1.out.kept (gbDrewN wc 1 none)).bx.tup⟩
    go_region_held3 (fun w' => Tk3 w' p t w.heap.size a c Z1 ⟨k, o, r, b, g, u⟩)
      (first | with_reducible exact T0 | with_reducible exact T1 | (focus (refine Tk3.keep (y := w.heap.size + 1) T1 ?_ hpy hxy hzy; (repeat (first | with_reducible refine gbSet1 ?_ _ _ | with_reducible exact gbRefl _ _)); done)) | fail)
      ((first | (go_at_call 96; refine ((HW1.out.kept (gbDrewN wc 1 none)).cs.drop a c 0 ha hc hm TT.1).mono ?_; rintro _ wu2 ⟨rfl, A2, F2⟩; have HW2 := hideIt ((HW1.out.kept (gbDrewN wc 1 none)).call A2 F2); have HX_2 := hideIt ((HX_1.out.kept (gbDrewN wc 1 none)).call F2); have HP_2 := hideIt ((HP_1.out.kept (gbDrewN wc 1 none)).call F2); have HR_2 := hideIt ((HR_1.out.kept (gbDrewN wc 1 none)).call F2); have T1 : Tk3 wu2 p t w.heap.size a c Z1 ⟨k, o, r, b, g, u⟩ := ⟨HW2.out.cs.c1, HX_2.out.sb.tup, HP_2.out.bx.tup⟩; have q0 := HR_2.out.bx.at0; have q1 := HR_2.out.bx.at1; have q2 := HR_2.out.bx.at2; have q3 := HR_2.out.bx.at3; have q4 := HR_2.out.bx.at4; have q5 := HR_2.out.bx.at5; have f0 := HR_2.out.bx.fr 0; have f1 := HR_2.out.bx.fr 1; have f2 := HR_2.out.bx.fr 2; have f3 := HR_2.out.bx.fr 3; have f4 := HR_2.out.bx.fr 4; have f5 := HR_2.out.bx.fr 5; clear A2 F2) | fail))
    rename_i hold
    clear hold T0 T1
    obtain ⟨W7, hW7, Q7, g7⟩ := HR_2.out.bx.put ⟨k, o, r, b, g, u⟩
    simp only at hW7
    rw [hW7]
    clear hW7 q0 q1 q2 q3 q4 q5 f0 f1 f2 f3 f4 f5
    go_wp2
    obtain ⟨y0, y1, y2, y3, y4, y5, _, _⟩ := Q7
    simp only at y0 y1 y2 y3 y4 y5
    have E := (HW2.out.keep g7 HR_2.out.no (Nat.le_succ _) hw0).fin hw0 hlo
    unfold M.takF M.takS
    rw [if_pos he]
    exact bodyPost_ret (v := .tuple #[cv ⟨k, o, r, b, g, u⟩, .int .i64 0]) (by simp [results, Tryz.results47, go_sem, y0, y1, y2, y3, y4, y5]) rfl ⟨rfl, E.1, E.2⟩

theorem Cs.takeA {w0 w : World} {O : Nat → Prop} {p s t m : Nat} {S : St} {f : T9.Fo} (h : Cs w0 w O p s t m S f) (I : M.Inv S f) (a c k o r b g u e : Int) (ha : I64 a) (hc : I64 c) (hm : f.len ≤ 1000) (hC : M.srcC S (a, c) = ⟨k, o, r, b, g, u⟩) (he : M.srcE S (a, c) = e) :
    Calls Tryz.prog 47 #[.pointer (some ⟨p, 0, none⟩), sv a c] w fun x w' => x = .returned (.tuple #[cv ⟨k, o, r, b, g, u⟩, .int .i64 e]) ∧ Cs w0 w' (wide O w w') p s t m (M.takS S (a, c)) (M.takF S f (a, c)) ∧ Fr O w w' := by
  by_cases hn : e = 0
  · exact h.take_yes I a c k o r b g u e ha hc hm hC he hn
  · exact h.take_no I a c k o r b g u e ha hc hm hC he (by simpa using hn)

end Go.Proofs.YtdnoidnpiaadaaaGreat

/-
  THE CONTRACT of package moves' Rotate (written by mkact5.py).
-/
namespace Go.Proofs.YtdnoidnpiaadaaaGreat
set_option maxRecDepth 10000
open Go.RowKit
set_option linter.unusedVariables false

theorem seq_iff {a b c d : Int} : T9.M.seq a b c d = true ↔ ((a, b) : Int × Int) = (c, d) := by unfold T9.M.seq; simp
theorem seq_no {a b c d : Int} : T9.M.seq a b c d = false ↔ ((a, b) : Int × Int) ≠ (c, d) := by rw [Ne, ← seq_iff]; cases T9.M.seq a b c d <;> simp

set_option maxHeartbeats 4000000 in
theorem Cs.rotate {w0 w : World} {O : Nat → Prop} {p s t m : Nat} {S : St} {f : T9.Fo} (h : Cs w0 w O p s t m S f) (I : M.Inv S f) (a c a2 c2 a3 c3 e : Int) (ha : I64 a) (hc : I64 c) (ha2 : I64 a2) (hc2 : I64 c2) (ha3 : I64 a3) (hc3 : I64 c3) (hm : f.len ≤ 1000) (he : M.rotE S (a, c) (a2, c2) (a3, c3) = e) :
    Calls Tryz.prog 45 #[.pointer (some ⟨p, 0, none⟩), sv a c, sv a2 c2, sv a3 c3] w fun x w' => x = .returned (.int .i64 e) ∧ Cs w0 w' (wide O w w') p s t m (M.rotS S (a, c) (a2, c2) (a3, c3)) (M.rotF S f (a, c) (a2, c2) (a3, c3)) ∧ Fr O w w' := by
  obtain ⟨e1, h1⟩ : ∃ e1, M.srcE S (a2, c2) = e1 := ⟨_, rfl⟩
  obtain ⟨⟨k1, o1, r1, b1, g1, u1⟩, d1⟩ : ∃ d, M.srcC S (a2, c2) = d := ⟨_, rfl⟩
  obtain ⟨e2, h2⟩ : ∃ e1, M.srcE S (a3, c3) = e1 := ⟨_, rfl⟩
  obtain ⟨⟨k2, o2, r2, b2, g2, u2⟩, d2⟩ : ∃ d, M.srcC S (a3, c3) = d := ⟨_, rfl⟩
  obtain ⟨e3, h3⟩ : ∃ e1, M.plcE S (a, c) = e1 := ⟨_, rfl⟩
  obtain ⟨v1, s1⟩ : ∃ v, T9.M.seq a2 c2 a c = v := ⟨_, rfl⟩
  obtain ⟨v2, s2⟩ : ∃ v, T9.M.seq a2 c2 a3 c3 = v := ⟨_, rfl⟩
  obtain ⟨v3, s3⟩ : ∃ v, T9.M.seq a c a3 c3 = v := ⟨_, rfl⟩
  obtain ⟨w1, n1⟩ : ∃ v, (e1 != 0) = v := ⟨_, rfl⟩
  obtain ⟨w2, n2⟩ : ∃ v, (e2 != 0) = v := ⟨_, rfl⟩
  obtain ⟨w3, n3⟩ : ∃ v, (e3 != 0) = v := ⟨_, rfl⟩
  have HE := hideIt he
  clear he
  have qe := T9.run_eql_slots
  have qn := T9.run_neq_slots
  have qg := T9.eqGuardSlots
  have hw0 := h.gr.size
  have hlo := h.lo
  have HH := hideIt h
  clear h
  go_enter Tryz.func45, Tryz.ntmps45
  go_upto_region 1 with fail
  obtain ⟨W, hW, X0, X1, X2, g0⟩ := slots3 w a c a2 c2 a3 c3
  rw [hW]
  clear hW
  have HW := hideIt ((Wy.start HH.out).kept g0)
  have HX : Hid (SB W O w.heap.size a c) := ⟨X0, (Wy.start HH.out).out (by omega)⟩
  have HY : Hid (SB W O (w.heap.size + 1) a2 c2) := ⟨X1, (Wy.start HH.out).out (by omega)⟩
  have HV : Hid (SB W O (w.heap.size + 2) a3 c3) := ⟨X2, (Wy.start HH.out).out (by omega)⟩
  clear X0 X1 X2 g0
  obtain ⟨x0, x1⟩ := HX.out.sb.tup
  obtain ⟨y0, y1⟩ := HY.out.sb.tup
  obtain ⟨z0, z1⟩ := HV.out.sb.tup
  by_cases hor : (v1 || v2) = true
  · have r10 : M.rotE S (a, c) (a2, c2) (a3, c3) = 10 := by
      unfold M.rotE
      rw [if_pos]
      rcases Bool.or_eq_true_iff.1 hor with k | k
      · exact .inl (seq_iff.1 (s1.trans k))
      · exact .inr (seq_iff.1 (s2.trans k))
    have ee : e = 10 := HE.out.symm.trans r10
    subst ee
    cases v1
    · cases v2
      · cases hor
      · clear hor
        go_wp2
        go_ret
        have E := HW.out.fin hw0 hlo
        have ne : M.rotE S (a, c) (a2, c2) (a3, c3) ≠ 0 := by rw [r10]; decide
        unfold M.rotS M.rotF
        rw [if_neg ne, if_neg ne]
        exact ⟨rfl, E.1, E.2⟩
    · clear hor
      go_wp2
      go_ret
      have E := HW.out.fin hw0 hlo
      have ne : M.rotE S (a, c) (a2, c2) (a3, c3) ≠ 0 := by rw [r10]; decide
      unfold M.rotS M.rotF
      rw [if_neg ne, if_neg ne]
      exact ⟨rfl, E.1, E.2⟩
  · obtain ⟨rfl, rfl⟩ : v1 = false ∧ v2 = false := by cases v1 <;> cases v2 <;> simp at hor <;> exact ⟨rfl, rfl⟩
    clear hor
    have p1 := seq_no.1 s1
    have p2 := seq_no.1 s2
    have r1' : M.rotE S (a, c) (a2, c2) (a3, c3) = if e1 = 0 then (if e2 = 0 then (if ((a, c) : Int × Int) = (a3, c3) then 0 else e3) else e2) else e1 := by
      unfold M.rotE
      rw [if_neg (fun k => k.elim p1 p2), h1, h2, h3]
    have HR := hideIt (HE.out.symm.trans r1')
    clear r1' p1 p2
    go_wp2_with fail
    refine (HW.out.cs.src (a2, c2) ha2 _ _ d1 h1).mono ?_
    rintro _ wa ⟨rfl, ga⟩
    clear x0 x1 y0 y1 z0 z1
    go_upto_region 4 with fail
    obtain ⟨W2, hW2, Z2, gb⟩ := boxNew wa ⟨k1, o1, r1, b1, g1, u1⟩
    simp only at hW2
    rw [hW2]
    clear hW2 Z2
    have HW1 := hideIt (HW.out.kept (gbTrans ga gb))
    have HX1 := hideIt (HX.out.kept (gbTrans ga gb))
    have HY1 := hideIt (HY.out.kept (gbTrans ga gb))
    have HV1 := hideIt (HV.out.kept (gbTrans ga gb))
    clear HW HX HY HV ga gb
    cases w1
    · have z1 : e1 = 0 := by simpa using n1
      subst z1
      rw [if_pos rfl] at HR
      obtain ⟨z0, z1⟩ := HV1.out.sb.tup
      go_wp2_with fail
      refine (HW1.out.cs.src (a3, c3) ha3 _ _ d2 h2).mono ?_
      rintro _ wb ⟨rfl, ga⟩
      clear z0 z1
      go_upto_region 7 with fail
      obtain ⟨W3, hW3, Z3, gb⟩ := boxNew wb ⟨k2, o2, r2, b2, g2, u2⟩
      simp only at hW3
      rw [hW3]
      clear hW3 Z3
      have HW2 := hideIt (HW1.out.kept (gbTrans ga gb))
      have HX2 := hideIt (HX1.out.kept (gbTrans ga gb))
      have HY2 := hideIt (HY1.out.kept (gbTrans ga gb))
      have HV2 := hideIt (HV1.out.kept (gbTrans ga gb))
      clear HW1 HX1 HY1 HV1 ga gb
      cases w2
      · have z1 : e2 = 0 := by simpa using n2
        subst z1
        rw [if_pos rfl] at HR
        obtain ⟨x0, x1⟩ := HX2.out.sb.tup
        obtain ⟨z0, z1⟩ := HV2.out.sb.tup
        cases v3
        · rw [if_neg (seq_no.1 s3)] at HR
          have ee : e3 = e := HR.out.symm
          subst ee
          go_wp2_with fail
          refine (HW2.out.cs.plc (a, c) ha _ h3).mono ?_
          rintro _ wd ⟨rfl, ga⟩
          clear x0 x1 z0 z1
          have HW3 := hideIt (HW2.out.kept ga)
          have HX3 := hideIt (HX2.out.kept ga)
          have HY3 := hideIt (HY2.out.kept ga)
          have HV3 := hideIt (HV2.out.kept ga)
          clear HW2 HX2 HY2 HV2 ga
          cases w3
          · have z1 : e3 = 0 := by simpa using n3
            subst z1
            obtain ⟨x0, x1⟩ := HX3.out.sb.tup
            obtain ⟨z0, z1⟩ := HV3.out.sb.tup
            obtain ⟨y0, y1⟩ := HY3.out.sb.tup
            go_wp2_with fail
            refine (HW3.out.cs.turn I a c a2 c2 a3 c3 ha hc ha2 hc2 ha3 hc3 hm HE.out).mono ?_
            rintro _ wf ⟨rfl, A9, F9⟩
            have HW9 := hideIt (HW3.out.call A9 F9)
            clear A9 F9 x0 x1 y0 y1 z0 z1
            go_wp2
            go_ret
            have E := HW9.out.fin hw0 hlo
            exact ⟨rfl, E.1, E.2⟩
          · have z1 : e3 ≠ 0 := by simpa using n3
            go_wp2
            go_ret
            have E := HW3.out.fin hw0 hlo
            have ne : M.rotE S (a, c) (a2, c2) (a3, c3) ≠ 0 := by rw [HE.out]; exact z1
            unfold M.rotS M.rotF
            rw [if_neg ne, if_neg ne]
            exact ⟨rfl, E.1, E.2⟩
        · rw [if_pos (seq_iff.1 s3)] at HR
          have ee : e = 0 := HR.out
          subst ee
          obtain ⟨y0, y1⟩ := HY2.out.sb.tup
          go_wp2_with fail
          refine (HW2.out.cs.turn I a c a2 c2 a3 c3 ha hc ha2 hc2 ha3 hc3 hm HE.out).mono ?_
          rintro _ wf ⟨rfl, A9, F9⟩
          have HW9 := hideIt (HW2.out.call A9 F9)
          clear A9 F9 x0 x1 y0 y1 z0 z1
          go_wp2
          go_ret
          have E := HW9.out.fin hw0 hlo
          exact ⟨rfl, E.1, E.2⟩
      · have z1 : e2 ≠ 0 := by simpa using n2
        rw [if_neg z1] at HR
        have ee : e2 = e := HR.out.symm
        subst ee
        go_wp2
        go_ret
        have E := HW2.out.fin hw0 hlo
        have ne : M.rotE S (a, c) (a2, c2) (a3, c3) ≠ 0 := by rw [HE.out]; exact z1
        unfold M.rotS M.rotF
        rw [if_neg ne, if_neg ne]
        exact ⟨rfl, E.1, E.2⟩
    · have z1 : e1 ≠ 0 := by simpa using n1
      rw [if_neg z1] at HR
      have ee : e1 = e := HR.out.symm
      subst ee
      go_wp2
      go_ret
      have E := HW1.out.fin hw0 hlo
      have ne : M.rotE S (a, c) (a2, c2) (a3, c3) ≠ 0 := by rw [HE.out]; exact z1
      unfold M.rotS M.rotF
      rw [if_neg ne, if_neg ne]
      exact ⟨rfl, E.1, E.2⟩

end Go.Proofs.YtdnoidnpiaadaaaGreat
