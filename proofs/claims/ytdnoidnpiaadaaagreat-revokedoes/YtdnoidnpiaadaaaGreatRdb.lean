/-
  THE CONTRACTS of the document's side: donjonref10's Mint, carry and Move.
-/
import Derived.Test.YtdnoidnpiaadaaaGreatG19
import Derived.Test.YtdnoidnpiaadaaaGreatRder
namespace Go.Proofs.YtdnoidnpiaadaaaGreat
set_option maxRecDepth 10000
open Go.RowKit
set_option linter.unusedVariables false

set_option maxHeartbeats 2000000 in
theorem Rc.mint {w0 w : World} {O : Nat → Prop} {q : Nat} {S : St} {f : T9.Fo} (h : Rc w0 w O q S f) (I : M.Inv S f) (a c a2 c2 rt bd gd bt e : Int) (ha2 : I64 a2) (hc2 : I64 c2) (hm : f.len ≤ 60) (he : M.minE S (a, c) (a2, c2) rt bd gd bt = e) :
    Calls Tryz.prog 40 #[.pointer (some ⟨q, 0, none⟩), sv a c, sv a2 c2, .int .i64 rt, .int .u64 bd, .int .u64 gd, .int .i64 bt] w fun x w' => x = .returned (.int .i64 e) ∧ Rc w0 w' (wide O w w') q (M.minS S (a, c) (a2, c2) rt bd gd bt) (M.minF S f (a, c) (a2, c2) rt bd gd bt) ∧ Fr O w w' := by
  obtain ⟨⟨k1, o1, r1, b1, g1, u1⟩, hC⟩ : ∃ d, M.srcC S (a, c) = d := ⟨_, rfl⟩
  obtain ⟨E1, h1⟩ : ∃ x, M.srcE S (a, c) = x := ⟨_, rfl⟩
  obtain ⟨E2, h2⟩ : ∃ x, M.plcE S (a2, c2) = x := ⟨_, rfl⟩
  obtain ⟨⟨⟨k, o, r, b, g, u⟩, E3⟩, h3⟩ : ∃ x, M.drv ⟨k1, o1, r1, b1, g1, u1⟩ rt bd gd bt = x := ⟨_, rfl⟩
  obtain ⟨v1, hv1⟩ : ∃ v, (E1 == 0) = v := ⟨_, rfl⟩
  obtain ⟨v2, hv2⟩ : ∃ v, (E2 != 0) = v := ⟨_, rfl⟩
  obtain ⟨v3, hv3⟩ : ∃ v, (E3 != 0) = v := ⟨_, rfl⟩
  have hgs := hideIt h.gs
  have hw0 := h.gr.size
  have hlo := h.lo
  have HH := hideIt h
  clear h
  go_enter Tryz.func40, Tryz.ntmps40
  go_upto_region 1 with fail
  obtain ⟨W, hW, X0, X1, g0⟩ := slots2 w a c a2 c2
  try simp only at hW
  rw [hW]
  clear hW
  have HW0 := hideIt ((Wr.start HH.out).kept g0)
  have X_0 : Hid (SB W O w.heap.size a c) := ⟨X0, (Wr.start HH.out).out (by omega)⟩
  have Y_0 : Hid (SB W O (w.heap.size + 1) a2 c2) := ⟨X1, (Wr.start HH.out).out (by omega)⟩
  clear X0 X1 g0
  obtain ⟨x0, x1⟩ := X_0.out.sb.tup
  go_wp2_with fail
  refine (HW0.out.rc.src a c _ E1 hC h1).mono ?_
  rintro _ wu1 ⟨rfl, g1⟩
  clear x0 x1
  have HW1 := hideIt (HW0.out.kept g1)
  have X_1 := hideIt (X_0.out.kept g1)
  have Y_1 := hideIt (Y_0.out.kept g1)
  clear g1
  go_upto_region 2 with fail
  obtain ⟨V2, hV2, Z2, g2⟩ := boxNew wu1 ⟨k1, o1, r1, b1, g1, u1⟩
  simp only at hV2
  rw [hV2]
  clear hV2
  have HW2 := hideIt (HW1.out.kept g2)
  have X_2 := hideIt (X_1.out.kept g2)
  have Y_2 := hideIt (Y_1.out.kept g2)
  have Z_2 := hideIt (BB.mk Z2 (HW1.out.out (Nat.le_refl _)))
  clear g2 Z2
  cases v1
  · have n1 : E1 ≠ 0 := by simpa using hv1
    have nb : (E1 != 0) = true := by simpa using n1
    go_wp2
    go_ret
    have E := HW2.out.fin hw0 hlo
    have e1 : M.endE S (a, c) (a2, c2) = E1 := (M.endE1 (by rw [h1]; exact n1)).trans h1
    have e2 : M.minE S (a, c) (a2, c2) rt bd gd bt = E1 := (M.minE1 (by rw [e1]; exact n1)).trans e1
    obtain rfl : E1 = e := e2.symm.trans he
    have hN := M.minN (f := f) (by rw [e2]; exact n1)
    rw [hN.1, hN.2]
    exact ⟨rfl, E.1, E.2⟩
  · obtain rfl : E1 = 0 := by simpa using hv1
    clear hv1
    obtain ⟨y0, y1⟩ := Y_2.out.sb.tup
    go_wp2_with fail
    refine (HW2.out.rc.plc a2 c2 E2 h2).mono ?_
    rintro _ wu3 ⟨rfl, g3⟩
    clear y0 y1
    have HW3 := hideIt (HW2.out.kept g3)
    have X_3 := hideIt (X_2.out.kept g3)
    have Y_3 := hideIt (Y_2.out.kept g3)
    have Z_3 := hideIt (Z_2.out.kept g3)
    clear g3
    cases v2
    · obtain rfl : E2 = 0 := by simpa using hv2
      clear hv2
      have hg1 : M.gc S (a, c) = ⟨k1, o1, r1, b1, g1, u1⟩ := (M.srcC_ok h1).symm.trans hC
      obtain ⟨z0, z1, z2, z3, z4, z5⟩ := Z_3.out.bx.tup
      try simp only at z0 z1 z2 z3 z4 z5
      go_wp2_with fail
      refine (rderive_is k1 o1 r1 b1 g1 u1 rt bd gd bt _ E3 h3 _).mono ?_
      rintro _ wu4 ⟨rfl, g4⟩
      clear z0 z1 z2 z3 z4 z5
      have HW4 := hideIt (HW3.out.kept g4)
      have X_4 := hideIt (X_3.out.kept g4)
      have Y_4 := hideIt (Y_3.out.kept g4)
      have Z_4 := hideIt (Z_3.out.kept g4)
      clear g4
      go_upto_region 7 with fail
      obtain ⟨V5, hV5, Z5, g5⟩ := boxNew wu4 ⟨k, o, r, b, g, u⟩
      simp only at hV5
      rw [hV5]
      clear hV5
      have HW5 := hideIt (HW4.out.kept g5)
      have X_5 := hideIt (X_4.out.kept g5)
      have Y_5 := hideIt (Y_4.out.kept g5)
      have Z_5 := hideIt (Z_4.out.kept g5)
      have Q_5 := hideIt (BB.mk Z5 (HW4.out.out (Nat.le_refl _)))
      clear g5 Z5
      cases v3
      · obtain rfl : E3 = 0 := by simpa using hv3
        clear hv3
        have e1 : M.endE S (a, c) (a2, c2) = 0 := (M.endE2 h1).trans h2
        have p1 := M.min_chi I hgs.out e1 (by rw [hg1]; exact h3)
        rw [M.chiE2 e1] at p1
        have HP := hideIt p1
        clear p1 e1
        go_upto_region 9 with fail
        have T0 : Two V5.drew (w.heap.size + 1) a2 c2 ∧ Six V5.drew wu4.heap.size ⟨k, o, r, b, g, u⟩ := ⟨(Y_5.out.kept (gbDrewN V5 1 none)).sb.tup, (Q_5.out.kept (gbDrewN V5 1 none)).bx.tup⟩
        go_region_held3 (fun w' => Two w' (w.heap.size + 1) a2 c2 ∧ Six w' wu4.heap.size ⟨k, o, r, b, g, u⟩)
          (first | with_reducible exact T0 | with_reducible exact T1 | fail)
          ((first | (go_at_call 78; refine ((HW5.out.kept (gbDrewN V5 1 none)).rc.put a2 c2 k o r b g u 0 HP.out).mono ?_; rintro _ wu6 ⟨rfl, A6, F6⟩; have HW6 := hideIt ((HW5.out.kept (gbDrewN V5 1 none)).call A6 F6); have X_6 := hideIt ((X_5.out.kept (gbDrewN V5 1 none)).call F6); have Y_6 := hideIt ((Y_5.out.kept (gbDrewN V5 1 none)).call F6); have Z_6 := hideIt ((Z_5.out.kept (gbDrewN V5 1 none)).call F6); have Q_6 := hideIt ((Q_5.out.kept (gbDrewN V5 1 none)).call F6); have T1 : Two wu6 (w.heap.size + 1) a2 c2 ∧ Six wu6 wu4.heap.size ⟨k, o, r, b, g, u⟩ := ⟨Y_6.out.sb.tup, Q_6.out.bx.tup⟩; clear A6 F6) | fail))
        clear T0 T1
        go_upto_region 10 with fail
        have T0 : Two wu6.drew w.heap.size a c ∧ Two wu6.drew (w.heap.size + 1) a2 c2 := ⟨(X_6.out.kept (gbDrewN wu6 1 none)).sb.tup, (Y_6.out.kept (gbDrewN wu6 1 none)).sb.tup⟩
        go_region_held3 (fun w' => Two w' w.heap.size a c ∧ Two w' (w.heap.size + 1) a2 c2)
          (first | with_reducible exact T0 | with_reducible exact T1 | fail)
          ((first | (go_at_call 84; refine ((HW6.out.kept (gbDrewN wu6 1 none)).rc.child a c a2 c2 0 ha2 hc2 hm (M.chi_child I ((M.endE2 h1).trans h2))).mono ?_; rintro _ wu7 ⟨rfl, A7, F7⟩; have HW7 := hideIt ((HW6.out.kept (gbDrewN wu6 1 none)).call A7 F7); have X_7 := hideIt ((X_6.out.kept (gbDrewN wu6 1 none)).call F7); have Y_7 := hideIt ((Y_6.out.kept (gbDrewN wu6 1 none)).call F7); have Z_7 := hideIt ((Z_6.out.kept (gbDrewN wu6 1 none)).call F7); have Q_7 := hideIt ((Q_6.out.kept (gbDrewN wu6 1 none)).call F7); have T1 : Two wu7 w.heap.size a c ∧ Two wu7 (w.heap.size + 1) a2 c2 := ⟨X_7.out.sb.tup, Y_7.out.sb.tup⟩; clear A7 F7) | fail))
        clear T0 T1
        go_wp2
        go_ret
        have E := HW7.out.fin hw0 hlo
        have e1 : M.endE S (a, c) (a2, c2) = 0 := (M.endE2 h1).trans h2
        have e2 : M.minE S (a, c) (a2, c2) rt bd gd bt = 0 := by rw [M.minE2 e1, hg1, h3]
        obtain rfl : 0 = e := e2.symm.trans he
        have hN := M.minY (f := f) e2
        rw [hg1, h3] at hN
        rw [M.putS_up (x := (a2, c2)) HP.out] at E
        rw [hN.1, hN.2]
        exact ⟨rfl, E.1, E.2⟩
      · have n3 : E3 ≠ 0 := by simpa using hv3
        go_wp2
        go_ret
        have E := HW5.out.fin hw0 hlo
        have e1 : M.endE S (a, c) (a2, c2) = 0 := (M.endE2 h1).trans h2
        have e2 : M.minE S (a, c) (a2, c2) rt bd gd bt = E3 := by rw [M.minE2 e1, hg1, h3]
        obtain rfl : E3 = e := e2.symm.trans he
        have hN := M.minN (f := f) (by rw [e2]; exact n3)
        rw [hN.1, hN.2]
        exact ⟨rfl, E.1, E.2⟩
    · have n2 : E2 ≠ 0 := by simpa using hv2
      go_wp2
      go_ret
      have E := HW3.out.fin hw0 hlo
      have e1 : M.endE S (a, c) (a2, c2) = E2 := (M.endE2 h1).trans h2
      have e2 : M.minE S (a, c) (a2, c2) rt bd gd bt = E2 := (M.minE1 (by rw [e1]; exact n2)).trans e1
      obtain rfl : E2 = e := e2.symm.trans he
      have hN := M.minN (f := f) (by rw [e2]; exact n2)
      rw [hN.1, hN.2]
      exact ⟨rfl, E.1, E.2⟩

set_option maxHeartbeats 2000000 in
theorem Rc.carry {w0 w : World} {O : Nat → Prop} {q : Nat} {S : St} {f : T9.Fo} (h : Rc w0 w O q S f) (I : M.Inv S f) (a c a2 c2 k o r b g u : Int) (ha2 : I64 a2) (hc2 : I64 c2) (hm : f.len ≤ 60) (he : M.endE S (a, c) (a2, c2) = 0) (hk : M.chk ⟨k, o, r, b, g, u⟩ = 0) (hn : k ≠ 0) :
    Calls Tryz.prog 88 #[.pointer (some ⟨q, 0, none⟩), sv a c, sv a2 c2, cv ⟨k, o, r, b, g, u⟩] w fun x w' => x = .returned (.tuple #[]) ∧ Rc w0 w' (wide O w w') q (M.carS S (a, c) (a2, c2) ⟨k, o, r, b, g, u⟩) (f.moveF (a, c) (a2, c2)) ∧ Fr O w w' := by
  obtain ⟨q1, q2, q3, q4⟩ := M.car_put (c := ⟨k, o, r, b, g, u⟩) he hk hn
  obtain ⟨⟨k1, o1, r1, b1, g1, u1⟩, hd⟩ : ∃ d, M.takeC S a c = d := ⟨_, rfl⟩
  have Q := hideIt (And.intro q1 (And.intro q2 (And.intro q3 q4)))
  clear q1 q2 q3 q4 hk hn
  have hw0 := h.gr.size
  have hlo := h.lo
  have HH := hideIt h
  clear h
  go_enter Tryz.func88, Tryz.ntmps88
  go_upto_region 1 with fail
  obtain ⟨W, hW, X0, X1, X2, g0⟩ := slots2Box w a c a2 c2 ⟨k, o, r, b, g, u⟩
  try simp only at hW
  rw [hW]
  clear hW
  have HW0 := hideIt ((Wr.start HH.out).kept g0)
  have X_0 : Hid (SB W O w.heap.size a c) := ⟨X0, (Wr.start HH.out).out (by omega)⟩
  have Y_0 : Hid (SB W O (w.heap.size + 1) a2 c2) := ⟨X1, (Wr.start HH.out).out (by omega)⟩
  have Z_0 : Hid (BB W O (w.heap.size + 2) ⟨k, o, r, b, g, u⟩) := ⟨X2, (Wr.start HH.out).out (by omega)⟩
  clear X0 X1 X2 g0
  have T0 : Two W.drew w.heap.size a c := (X_0.out.kept (gbDrewN W 1 none)).sb.tup
  go_region_held3 (fun w' => Two w' w.heap.size a c)
    (first | with_reducible exact T0 | with_reducible exact T1 | fail)
    ((first | (go_at_call 93; refine ((HW0.out.kept (gbDrewN W 1 none)).rc.take a c k1 o1 r1 b1 g1 u1 0 hd Q.out.1).mono ?_; rintro _ wu1 ⟨rfl, A1, F1⟩; rw [Q.out.2.1] at A1; have HW1 := hideIt ((HW0.out.kept (gbDrewN W 1 none)).call A1 F1); have X_1 := hideIt ((X_0.out.kept (gbDrewN W 1 none)).call F1); have Y_1 := hideIt ((Y_0.out.kept (gbDrewN W 1 none)).call F1); have Z_1 := hideIt ((Z_0.out.kept (gbDrewN W 1 none)).call F1); have T1 : Two wu1 w.heap.size a c := X_1.out.sb.tup; clear A1 F1) | fail))
  clear T0 T1
  go_upto_region 2 with fail
  have T0 : Two wu1.drew (w.heap.size + 1) a2 c2 ∧ Six wu1.drew (w.heap.size + 2) ⟨k, o, r, b, g, u⟩ := ⟨(Y_1.out.kept (gbDrewN wu1 1 none)).sb.tup, (Z_1.out.kept (gbDrewN wu1 1 none)).bx.tup⟩
  go_region_held3 (fun w' => Two w' (w.heap.size + 1) a2 c2 ∧ Six w' (w.heap.size + 2) ⟨k, o, r, b, g, u⟩)
    (first | with_reducible exact T0 | with_reducible exact T1 | fail)
    ((first | (go_at_call 78; refine ((HW1.out.kept (gbDrewN wu1 1 none)).rc.put a2 c2 k o r b g u 0 Q.out.2.2.1).mono ?_; rintro _ wu2 ⟨rfl, A2, F2⟩; rw [Q.out.2.2.2] at A2; have HW2 := hideIt ((HW1.out.kept (gbDrewN wu1 1 none)).call A2 F2); have X_2 := hideIt ((X_1.out.kept (gbDrewN wu1 1 none)).call F2); have Y_2 := hideIt ((Y_1.out.kept (gbDrewN wu1 1 none)).call F2); have Z_2 := hideIt ((Z_1.out.kept (gbDrewN wu1 1 none)).call F2); have T1 : Two wu2 (w.heap.size + 1) a2 c2 ∧ Six wu2 (w.heap.size + 2) ⟨k, o, r, b, g, u⟩ := ⟨Y_2.out.sb.tup, Z_2.out.bx.tup⟩; clear A2 F2) | fail))
  clear T0 T1
  go_upto_region 3 with fail
  have T0 : Two wu2.drew w.heap.size a c ∧ Two wu2.drew (w.heap.size + 1) a2 c2 := ⟨(X_2.out.kept (gbDrewN wu2 1 none)).sb.tup, (Y_2.out.kept (gbDrewN wu2 1 none)).sb.tup⟩
  go_region_held3 (fun w' => Two w' w.heap.size a c ∧ Two w' (w.heap.size + 1) a2 c2)
    (first | with_reducible exact T0 | with_reducible exact T1 | fail)
    ((first | (go_at_call 94; refine ((HW2.out.kept (gbDrewN wu2 1 none)).rc.move a c a2 c2 0 ha2 hc2 hm (M.end_move I he)).mono ?_; rintro _ wu3 ⟨rfl, A3, F3⟩; have HW3 := hideIt ((HW2.out.kept (gbDrewN wu2 1 none)).call A3 F3); have X_3 := hideIt ((X_2.out.kept (gbDrewN wu2 1 none)).call F3); have Y_3 := hideIt ((Y_2.out.kept (gbDrewN wu2 1 none)).call F3); have Z_3 := hideIt ((Z_2.out.kept (gbDrewN wu2 1 none)).call F3); have T1 : Two wu3 w.heap.size a c ∧ Two wu3 (w.heap.size + 1) a2 c2 := ⟨X_3.out.sb.tup, Y_3.out.sb.tup⟩; clear A3 F3) | fail))
  clear T0 T1
  go_wp2
  have E := HW3.out.fin hw0 hlo
  exact bodyPost_end (results_none rfl _ _ _) rfl ⟨rfl, E.1, E.2⟩

set_option maxHeartbeats 2000000 in
theorem Rc.moveA {w0 w : World} {O : Nat → Prop} {q : Nat} {S : St} {f : T9.Fo} (h : Rc w0 w O q S f) (I : M.Inv S f) (a c a2 c2 e : Int) (ha2 : I64 a2) (hc2 : I64 c2) (hm : f.len ≤ 60) (he : M.endE S (a, c) (a2, c2) = e) :
    Calls Tryz.prog 42 #[.pointer (some ⟨q, 0, none⟩), sv a c, sv a2 c2] w fun x w' => x = .returned (.int .i64 e) ∧ Rc w0 w' (wide O w w') q (M.movS S (a, c) (a2, c2)) (M.movF S f (a, c) (a2, c2)) ∧ Fr O w w' := by
  obtain ⟨⟨k1, o1, r1, b1, g1, u1⟩, hC⟩ : ∃ d, M.srcC S (a, c) = d := ⟨_, rfl⟩
  obtain ⟨E1, h1⟩ : ∃ x, M.srcE S (a, c) = x := ⟨_, rfl⟩
  obtain ⟨E2, h2⟩ : ∃ x, M.plcE S (a2, c2) = x := ⟨_, rfl⟩
  obtain ⟨v1, hv1⟩ : ∃ v, (E1 == 0) = v := ⟨_, rfl⟩
  obtain ⟨v2, hv2⟩ : ∃ v, (E2 == 0) = v := ⟨_, rfl⟩
  have hgs := hideIt h.gs
  have hw0 := h.gr.size
  have hlo := h.lo
  have HH := hideIt h
  clear h
  go_enter Tryz.func42, Tryz.ntmps42
  go_upto_region 1 with fail
  obtain ⟨W, hW, X0, X1, g0⟩ := slots2 w a c a2 c2
  try simp only at hW
  rw [hW]
  clear hW
  have HW0 := hideIt ((Wr.start HH.out).kept g0)
  have X_0 : Hid (SB W O w.heap.size a c) := ⟨X0, (Wr.start HH.out).out (by omega)⟩
  have Y_0 : Hid (SB W O (w.heap.size + 1) a2 c2) := ⟨X1, (Wr.start HH.out).out (by omega)⟩
  clear X0 X1 g0
  obtain ⟨x0, x1⟩ := X_0.out.sb.tup
  go_wp2_with fail
  refine (HW0.out.rc.src a c _ E1 hC h1).mono ?_
  rintro _ wu1 ⟨rfl, g1⟩
  clear x0 x1
  have HW1 := hideIt (HW0.out.kept g1)
  have X_1 := hideIt (X_0.out.kept g1)
  have Y_1 := hideIt (Y_0.out.kept g1)
  clear g1
  go_upto_region 2 with fail
  obtain ⟨V2, hV2, Z2, g2⟩ := boxNew wu1 ⟨k1, o1, r1, b1, g1, u1⟩
  simp only at hV2
  rw [hV2]
  clear hV2
  have HW2 := hideIt (HW1.out.kept g2)
  have X_2 := hideIt (X_1.out.kept g2)
  have Y_2 := hideIt (Y_1.out.kept g2)
  have Z_2 := hideIt (BB.mk Z2 (HW1.out.out (Nat.le_refl _)))
  clear g2 Z2
  cases v1
  · have n1 : E1 ≠ 0 := by simpa using hv1
    go_wp2
    go_ret
    have E := HW2.out.fin hw0 hlo
    have e1 : M.endE S (a, c) (a2, c2) = E1 := (M.endE1 (by rw [h1]; exact n1)).trans h1
    obtain rfl : E1 = e := e1.symm.trans he
    have hN := M.movN (f := f) (by rw [e1]; exact n1)
    rw [hN.1, hN.2]
    exact ⟨rfl, E.1, E.2⟩
  · obtain rfl : E1 = 0 := by simpa using hv1
    clear hv1
    obtain ⟨y0, y1⟩ := Y_2.out.sb.tup
    go_wp2_with fail
    refine (HW2.out.rc.plc a2 c2 E2 h2).mono ?_
    rintro _ wu3 ⟨rfl, g3⟩
    clear y0 y1
    have HW3 := hideIt (HW2.out.kept g3)
    have X_3 := hideIt (X_2.out.kept g3)
    have Y_3 := hideIt (Y_2.out.kept g3)
    have Z_3 := hideIt (Z_2.out.kept g3)
    clear g3
    cases v2
    · have n2 : E2 ≠ 0 := by simpa using hv2
      go_wp2
      go_ret
      have E := HW3.out.fin hw0 hlo
      have e1 : M.endE S (a, c) (a2, c2) = E2 := (M.endE2 h1).trans h2
      obtain rfl : E2 = e := e1.symm.trans he
      have hN := M.movN (f := f) (by rw [e1]; exact n2)
      rw [hN.1, hN.2]
      exact ⟨rfl, E.1, E.2⟩
    · obtain rfl : E2 = 0 := by simpa using hv2
      clear hv2
      have hg1 : M.gc S (a, c) = ⟨k1, o1, r1, b1, g1, u1⟩ := (M.srcC_ok h1).symm.trans hC
      have e1 : M.endE S (a, c) (a2, c2) = 0 := (M.endE2 h1).trans h2
      have p1 : M.chk ⟨k1, o1, r1, b1, g1, u1⟩ = 0 := by rw [← hg1]; exact M.gc_chk hgs.out _
      have p2 : k1 ≠ 0 := by have := (M.srcE_ok h1).2; rw [hg1] at this; exact this
      have HP := hideIt (And.intro e1 (And.intro p1 p2))
      clear e1 p1 p2
      obtain ⟨x0, x1⟩ := X_3.out.sb.tup
      obtain ⟨y0, y1⟩ := Y_3.out.sb.tup
      obtain ⟨z0, z1, z2, z3, z4, z5⟩ := Z_3.out.bx.tup
      try simp only at z0 z1 z2 z3 z4 z5
      go_wp2_with fail
      refine (HW3.out.rc.carry I a c a2 c2 k1 o1 r1 b1 g1 u1 ha2 hc2 hm HP.out.1 HP.out.2.1 HP.out.2.2).mono ?_
      rintro _ wu4 ⟨rfl, A4, F4⟩
      clear x0 x1 y0 y1 z0 z1 z2 z3 z4 z5
      have HW4 := hideIt (HW3.out.call A4 F4)
      have X_4 := hideIt (X_3.out.call F4)
      have Y_4 := hideIt (Y_3.out.call F4)
      have Z_4 := hideIt (Z_3.out.call F4)
      clear A4 F4
      go_wp2
      go_ret
      have E := HW4.out.fin hw0 hlo
      obtain rfl : 0 = e := HP.out.1.symm.trans he
      have hN := M.movY (f := f) HP.out.1
      rw [hg1] at hN
      rw [hN.1, hN.2]
      exact ⟨rfl, E.1, E.2⟩

end Go.Proofs.YtdnoidnpiaadaaaGreat
