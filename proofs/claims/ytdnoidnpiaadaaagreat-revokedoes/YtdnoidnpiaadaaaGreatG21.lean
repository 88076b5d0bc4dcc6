/-
  THE CONTRACT of the document's side: donjonref10's Rotate.
-/
import Derived.Test.YtdnoidnpiaadaaaGreatRdc
import Derived.Test.YtdnoidnpiaadaaaGreatG20
namespace Go.Proofs.YtdnoidnpiaadaaaGreat
set_option maxRecDepth 10000
open Go.RowKit
set_option linter.unusedVariables false

namespace M
theorem mv3 {d p a s : Int × Int} {f : T9.Fo} (hs : s ∉ f.pre) (n1 : p ≠ d) (n2 : p ≠ a) (n3 : d ≠ a) (s1 : s ≠ p) (s2 : s ≠ a) : T9.Fo.mv a p (T9.Fo.mv p d f) = T9.Fo.mv s d (T9.Fo.mv a p (T9.Fo.mv p s f)) := by
  induction f using T9.Fo.ind with
  | nil => rfl
  | node bb oo x l r ihl ihr =>
    simp only [T9.Fo.pre, List.mem_cons, List.mem_append, not_or] at hs
    obtain ⟨h1, h2, h3⟩ := hs
    simp only [T9.Fo.mv]
    rw [ihl h2, ihr h3]
    have e : (if (if x = p then d else x) = a then p else (if x = p then d else x)) = (if (if (if x = p then s else x) = a then p else (if x = p then s else x)) = s then d else (if (if x = p then s else x) = a then p else (if x = p then s else x))) := by
      by_cases x1 : x = p
      · simp [x1, n3, s2]
      · by_cases x2 : x = a
        · simp [x2, Ne.symm n2, Ne.symm s1]
        · simp [x1, x2, Ne.symm h1]
    rw [e]
theorem rot_two {S : St} {f : T9.Fo} (I : Inv S f) (G : Good S) {d p a : Int × Int} (h : rotE S d p a = 0) (hne : d ≠ a) :
    endE S p d = 0 ∧ endE (carS S p d (gc S p)) a p = 0 ∧ carS (carS S p d (gc S p)) a p (gc S a) = rotS S d p a ∧ (f.moveF p d).moveF a p = rotF S f d p a := by
  obtain ⟨n1, n2, h1, h2, h3⟩ := rot_ok h
  have hd : plcE S d = 0 := h3.resolve_left hne
  have hp := srcE_ok h1
  have ha := srcE_ok h2
  have e1 : endE S p d = 0 := (endE2 h1).trans hd
  have g1 := gc_car (c := gc S p) e1
  have s1 : srcE (carS S p d (gc S p)) a = 0 := srcE_yes (by rw [g1, if_neg (Ne.symm hne), if_neg (Ne.symm n2)]; exact ha.2)
  have p1 : plcE (carS S p d (gc S p)) p = 0 := plcE_yes (by unfold carS; rw [th_up, th_up]; exact hp.1) (by rw [g1, if_neg n1, if_pos rfl])
  have T := turn_of I G h
  refine ⟨e1, (endE2 s1).trans p1, ?_, ?_⟩
  · rw [(rotY (f := f) h).1]
    unfold carS
    rw [up_swap (up S p C.zero) d a (gc S p) C.zero hne (th_range G (plcE_ok hd).1).2.2.1 (th_range G ha.1).2.2.1]
  · have pin : p ∈ f.pre := (I.inv p).2 hp.2
    have ain : a ∈ f.pre := (I.inv a).2 ha.2
    have dout : d ∉ f.pre := fun k => (I.inv d).1 k (plcE_ok hd).2
    have out : ∀ x, th S x = true → x ≠ aside := fun x hx e => by
      have := th_range G hx
      rw [e] at this
      simp at this
    have sout : aside ∉ f.pre := fun k => out _ (gc_th ((I.inv aside).1 k)) rfl
    have a1 : a ∈ (T9.Fo.mv p d f).pre := (mem_mv pin).2 (.inr ⟨ain, Ne.symm n2⟩)
    have p2 : p ∉ (T9.Fo.mv p d f).pre := fun k => by
      rcases (mem_mv pin).1 k with e | e
      · exact n1 e
      · exact e.2 rfl
    rw [(rotY (S := S) h).2, T.f1, T.f2, T.f3, moveF_yes pin dout, moveF_yes a1 p2]
    exact mv3 sout n1 n2 hne (fun e => out p hp.1 e.symm) (fun e => out a ha.1 e.symm)
theorem rotE1 {S : St} {d p a : Int × Int} (h : p = d ∨ p = a) : rotE S d p a = 10 := if_pos h
theorem rotE2 {S : St} {d p a : Int × Int} (h : ¬ (p = d ∨ p = a)) : rotE S d p a = if srcE S p = 0 then (if srcE S a = 0 then (if d = a then 0 else plcE S d) else srcE S a) else srcE S p := if_neg h
end M

set_option maxHeartbeats 2000000 in
theorem Rc.rotate {w0 w : World} {O : Nat → Prop} {q : Nat} {S : St} {f : T9.Fo} (h : Rc w0 w O q S f) (I : M.Inv S f) (a c a2 c2 a3 c3 e : Int) (ha : I64 a) (hc : I64 c) (ha2 : I64 a2) (hc2 : I64 c2) (hm : f.len ≤ 60) (hmv : ∀ (g : T9.Fo) (x y : Int × Int), (g.moveF x y).len = g.len) (he : M.rotE S (a, c) (a2, c2) (a3, c3) = e) :
    Calls Tryz.prog 46 #[.pointer (some ⟨q, 0, none⟩), sv a c, sv a2 c2, sv a3 c3] w fun x w' => x = .returned (.int .i64 e) ∧ Rc w0 w' (wide O w w') q (M.rotS S (a, c) (a2, c2) (a3, c3)) (M.rotF S f (a, c) (a2, c2) (a3, c3)) ∧ Fr O w w' := by
  obtain ⟨E1, h1⟩ : ∃ x, M.srcE S (a2, c2) = x := ⟨_, rfl⟩
  obtain ⟨⟨k1, o1, r1, b1, g1, u1⟩, d1⟩ : ∃ d, M.srcC S (a2, c2) = d := ⟨_, rfl⟩
  obtain ⟨E2, h2⟩ : ∃ x, M.srcE S (a3, c3) = x := ⟨_, rfl⟩
  obtain ⟨⟨k2, o2, r2, b2, g2, u2⟩, d2⟩ : ∃ d, M.srcC S (a3, c3) = d := ⟨_, rfl⟩
  obtain ⟨E3, h3⟩ : ∃ x, M.plcE S (a, c) = x := ⟨_, rfl⟩
  obtain ⟨t1, s1⟩ : ∃ v, T9.M.seq a2 c2 a c = v := ⟨_, rfl⟩
  obtain ⟨t2, s2⟩ : ∃ v, T9.M.seq a2 c2 a3 c3 = v := ⟨_, rfl⟩
  obtain ⟨t3, s3⟩ : ∃ v, T9.M.seq a c a3 c3 = v := ⟨_, rfl⟩
  obtain ⟨j1, n1⟩ : ∃ v, (E1 != 0) = v := ⟨_, rfl⟩
  obtain ⟨j2, n2⟩ : ∃ v, (E2 != 0) = v := ⟨_, rfl⟩
  obtain ⟨j3, n3⟩ : ∃ v, (E3 != 0) = v := ⟨_, rfl⟩
  have hgs := hideIt h.gs
  have HE := hideIt he
  clear he
  have qe := T9.run_eql_slots
  have qn := T9.run_neq_slots
  have qg := T9.eqGuardSlots
  have hw0 := h.gr.size
  have hlo := h.lo
  have HH := hideIt h
  clear h
  go_enter Tryz.func46, Tryz.ntmps46
  go_upto_region 1 with fail
  obtain ⟨W, hW, X0, X1, X2, g0⟩ := slots3 w a c a2 c2 a3 c3
  try simp only at hW
  rw [hW]
  clear hW
  have HW0 := hideIt ((Wr.start HH.out).kept g0)
  have X_0 : Hid (SB W O w.heap.size a c) := ⟨X0, (Wr.start HH.out).out (by omega)⟩
  have Y_0 : Hid (SB W O (w.heap.size + 1) a2 c2) := ⟨X1, (Wr.start HH.out).out (by omega)⟩
  have V_0 : Hid (SB W O (w.heap.size + 2) a3 c3) := ⟨X2, (Wr.start HH.out).out (by omega)⟩
  clear X0 X1 X2 g0
  obtain ⟨x0, x1⟩ := X_0.out.sb.tup
  obtain ⟨y0, y1⟩ := Y_0.out.sb.tup
  obtain ⟨v0, v1⟩ := V_0.out.sb.tup
  by_cases hor : (t1 || t2) = true
  · have er : M.rotE S (a, c) (a2, c2) (a3, c3) = 10 := M.rotE1 (by
      rcases Bool.or_eq_true_iff.1 hor with k | k
      · exact .inl (seq_iff.1 (s1.trans k))
      · exact .inr (seq_iff.1 (s2.trans k)))
    have HER := hideIt er
    clear er
    cases t1
    · cases t2
      · cases hor
      · clear hor
        go_wp2
        go_ret
        have E := HW0.out.fin hw0 hlo
        have er := HER.out
        obtain rfl : 10 = e := er.symm.trans HE.out
        have hN := M.rotN (f := f) (by rw [er]; decide)
        rw [hN.1, hN.2]
        exact ⟨rfl, E.1, E.2⟩
    · clear hor
      go_wp2
      go_ret
      have E := HW0.out.fin hw0 hlo
      have er := HER.out
      obtain rfl : 10 = e := er.symm.trans HE.out
      have hN := M.rotN (f := f) (by rw [er]; decide)
      rw [hN.1, hN.2]
      exact ⟨rfl, E.1, E.2⟩
  · obtain ⟨rfl, rfl⟩ : t1 = false ∧ t2 = false := by cases t1 <;> cases t2 <;> simp at hor <;> exact ⟨rfl, rfl⟩
    clear hor
    have er : M.rotE S (a, c) (a2, c2) (a3, c3) = if E1 = 0 then (if E2 = 0 then (if ((a, c) : Int × Int) = (a3, c3) then 0 else E3) else E2) else E1 := by
      rw [M.rotE2 (fun k => k.elim (seq_no.1 s1) (seq_no.1 s2)), h1, h2, h3]
    have HR := hideIt er
    clear er
    go_wp2_with fail
    refine (HW0.out.rc.src a2 c2 _ E1 d1 h1).mono ?_
    rintro _ wu1 ⟨rfl, g1⟩
    have HW1 := hideIt (HW0.out.kept g1)
    have X_1 := hideIt (X_0.out.kept g1)
    have Y_1 := hideIt (Y_0.out.kept g1)
    have V_1 := hideIt (V_0.out.kept g1)
    clear g1
    clear x0 x1 y0 y1 v0 v1
    go_upto_region 4 with fail
    obtain ⟨V2, hV2, Z2, g2⟩ := boxNew wu1 ⟨k1, o1, r1, b1, g1, u1⟩
    simp only at hV2
    rw [hV2]
    clear hV2
    have HW2 := hideIt (HW1.out.kept g2)
    have X_2 := hideIt (X_1.out.kept g2)
    have Y_2 := hideIt (Y_1.out.kept g2)
    have V_2 := hideIt (V_1.out.kept g2)
    have Z1_2 := hideIt (BB.mk Z2 (HW1.out.out (Nat.le_refl _)))
    clear g2 Z2
    cases j1
    · obtain rfl : E1 = 0 := by simpa using n1
      clear n1
      rw [if_pos rfl] at HR
      obtain ⟨v0, v1⟩ := V_2.out.sb.tup
      go_wp2_with fail
      refine (HW2.out.rc.src a3 c3 _ E2 d2 h2).mono ?_
      rintro _ wu3 ⟨rfl, g3⟩
      clear v0 v1
      have HW3 := hideIt (HW2.out.kept g3)
      have X_3 := hideIt (X_2.out.kept g3)
      have Y_3 := hideIt (Y_2.out.kept g3)
      have V_3 := hideIt (V_2.out.kept g3)
      have Z1_3 := hideIt (Z1_2.out.kept g3)
      clear g3
      go_upto_region 7 with fail
      obtain ⟨V4, hV4, Z4, g4⟩ := boxNew wu3 ⟨k2, o2, r2, b2, g2, u2⟩
      simp only at hV4
      rw [hV4]
      clear hV4
      have HW4 := hideIt (HW3.out.kept g4)
      have X_4 := hideIt (X_3.out.kept g4)
      have Y_4 := hideIt (Y_3.out.kept g4)
      have V_4 := hideIt (V_3.out.kept g4)
      have Z1_4 := hideIt (Z1_3.out.kept g4)
      have Z2_4 := hideIt (BB.mk Z4 (HW3.out.out (Nat.le_refl _)))
      clear g4 Z4
      cases j2
      · obtain rfl : E2 = 0 := by simpa using n2
        clear n2
        rw [if_pos rfl] at HR
        have hg1 : M.gc S (a2, c2) = ⟨k1, o1, r1, b1, g1, u1⟩ := (M.srcC_ok h1).symm.trans d1
        have hg2 : M.gc S (a3, c3) = ⟨k2, o2, r2, b2, g2, u2⟩ := (M.srcC_ok h2).symm.trans d2
        have p1 : M.chk ⟨k1, o1, r1, b1, g1, u1⟩ = 0 ∧ M.chk ⟨k2, o2, r2, b2, g2, u2⟩ = 0 ∧ k1 ≠ 0 ∧ k2 ≠ 0 := by
          refine ⟨by rw [← hg1]; exact M.gc_chk hgs.out _, by rw [← hg2]; exact M.gc_chk hgs.out _, ?_, ?_⟩
          · have := (M.srcE_ok h1).2; rw [hg1] at this; exact this
          · have := (M.srcE_ok h2).2; rw [hg2] at this; exact this
        have HK := hideIt p1
        have HG := hideIt (And.intro hg1 hg2)
        clear p1 hg1 hg2
        obtain ⟨x0, x1⟩ := X_4.out.sb.tup
        obtain ⟨v0, v1⟩ := V_4.out.sb.tup
        cases t3
        · have hne := seq_no.1 s3
          rw [if_neg hne] at HR
          go_wp2_with fail
          refine (HW4.out.rc.plc a c E3 h3).mono ?_
          rintro _ wu5 ⟨rfl, g5⟩
          have HW5 := hideIt (HW4.out.kept g5)
          have X_5 := hideIt (X_4.out.kept g5)
          have Y_5 := hideIt (Y_4.out.kept g5)
          have V_5 := hideIt (V_4.out.kept g5)
          have Z1_5 := hideIt (Z1_4.out.kept g5)
          have Z2_5 := hideIt (Z2_4.out.kept g5)
          clear g5
          clear x0 x1 v0 v1
          obtain ⟨x0, x1⟩ := X_5.out.sb.tup
          obtain ⟨v0, v1⟩ := V_5.out.sb.tup
          cases j3
          · obtain rfl : E3 = 0 := by simpa using n3
            clear n3
            clear x0 x1 v0 v1
            have HT := hideIt (M.rot_two I hgs.out HR.out hne)
            obtain ⟨x0, x1⟩ := X_5.out.sb.tup
            obtain ⟨y0, y1⟩ := Y_5.out.sb.tup
            obtain ⟨v0, v1⟩ := V_5.out.sb.tup
            obtain ⟨z10, z11, z12, z13, z14, z15⟩ := Z1_5.out.bx.tup
            try simp only at z10 z11 z12 z13 z14 z15
            go_upto_region 12 with fail
            clear x0 x1 y0 y1 v0 v1 z10 z11 z12 z13 z14 z15
            obtain ⟨x0, x1⟩ := X_5.out.sb.tup
            obtain ⟨y0, y1⟩ := Y_5.out.sb.tup
            obtain ⟨z10, z11, z12, z13, z14, z15⟩ := Z1_5.out.bx.tup
            try simp only at z10 z11 z12 z13 z14 z15
            go_wp2_with fail
            refine (HW5.out.rc.carry I a2 c2 a c k1 o1 r1 b1 g1 u1 ha hc hm HT.out.1 HK.out.1 HK.out.2.2.1).mono ?_
            rintro _ wu6 ⟨rfl, A6, F6⟩
            clear x0 x1 y0 y1 z10 z11 z12 z13 z14 z15
            have HW6 := hideIt (HW5.out.call A6 F6)
            have X_6 := hideIt (X_5.out.call F6)
            have Y_6 := hideIt (Y_5.out.call F6)
            have V_6 := hideIt (V_5.out.call F6)
            have Z1_6 := hideIt (Z1_5.out.call F6)
            have Z2_6 := hideIt (Z2_5.out.call F6)
            clear A6 F6
            have I1 := I.car (c := ⟨k1, o1, r1, b1, g1, u1⟩) HT.out.1 HK.out.2.2.1 (by have := (I.nn (a2, c2)).1; rw [HG.out.1] at this; exact this) (by have := (I.nn (a2, c2)).2; rw [HG.out.1] at this; exact this)
            have HT2 : Hid (M.endE (M.carS S (a2, c2) (a, c) ⟨k1, o1, r1, b1, g1, u1⟩) (a3, c3) (a2, c2) = 0) := by have := HT.out.2.1; rw [HG.out.1] at this; exact this
            go_upto_region 13 with fail
            obtain ⟨y0, y1⟩ := Y_6.out.sb.tup
            obtain ⟨v0, v1⟩ := V_6.out.sb.tup
            obtain ⟨z20, z21, z22, z23, z24, z25⟩ := Z2_6.out.bx.tup
            try simp only at z20 z21 z22 z23 z24 z25
            go_wp2_with fail
            refine (HW6.out.rc.carry I1 a3 c3 a2 c2 k2 o2 r2 b2 g2 u2 ha2 hc2 (by rw [hmv]; exact hm) HT2.out HK.out.2.1 HK.out.2.2.2).mono ?_
            rintro _ wu7 ⟨rfl, A7, F7⟩
            clear y0 y1 v0 v1 z20 z21 z22 z23 z24 z25
            have HW7 := hideIt (HW6.out.call A7 F7)
            have X_7 := hideIt (X_6.out.call F7)
            have Y_7 := hideIt (Y_6.out.call F7)
            have V_7 := hideIt (V_6.out.call F7)
            have Z1_7 := hideIt (Z1_6.out.call F7)
            have Z2_7 := hideIt (Z2_6.out.call F7)
            clear A7 F7
            go_wp2
            go_ret
            have E := HW7.out.fin hw0 hlo
            have er := HR.out
            obtain rfl : 0 = e := er.symm.trans HE.out
            rw [← HT.out.2.2.1, ← HT.out.2.2.2, HG.out.1, HG.out.2]
            exact ⟨rfl, E.1, E.2⟩
          · have n4 : E3 ≠ 0 := by simpa using n3
            go_wp2
            go_ret
            have E := HW5.out.fin hw0 hlo
            have er := HR.out
            obtain rfl : E3 = e := er.symm.trans HE.out
            have hN := M.rotN (f := f) (by rw [er]; exact n4)
            rw [hN.1, hN.2]
            exact ⟨rfl, E.1, E.2⟩
        · have heq := seq_iff.1 s3
          rw [if_pos heq] at HR
          have HT := hideIt (M.turn_of I hgs.out HR.out)
          clear x0 x1 v0 v1
          clear heq
          obtain ⟨x0, x1⟩ := X_4.out.sb.tup
          obtain ⟨v0, v1⟩ := V_4.out.sb.tup
          go_upto_region 16 with fail
          clear x0 x1 v0 v1
          obtain ⟨V9, hV9, X9, g9⟩ := sboxNew V4 (-1) 0
          rw [hV9]
          clear hV9
          have HW9 := hideIt (HW4.out.kept g9)
          have A_9 := hideIt (SB.mk X9 (HW4.out.out (Nat.le_refl _)))
          have X_9 := hideIt (X_4.out.kept g9)
          have Y_9 := hideIt (Y_4.out.kept g9)
          have V_9 := hideIt (V_4.out.kept g9)
          have Z1_9 := hideIt (Z1_4.out.kept g9)
          have Z2_9 := hideIt (Z2_4.out.kept g9)
          clear g9 X9
          obtain ⟨⟨k3, o3, r3, b3, g3, u3⟩, d3⟩ : ∃ d, M.takeC S a2 c2 = d := ⟨_, rfl⟩
          obtain ⟨⟨k4, o4, r4, b4, g4, u4⟩, d4⟩ : ∃ d, M.takeC (M.up S (a2, c2) C.zero) a3 c3 = d := ⟨_, rfl⟩
          have T0 : Two V9.drew (w.heap.size + 1) a2 c2 := (Y_9.out.kept (gbDrewN V9 1 none)).sb.tup
          go_region_held3 (fun w' => Two w' (w.heap.size + 1) a2 c2)
            (first | with_reducible exact T0 | with_reducible exact T1 | fail)
            ((first | (go_at_call 93; refine ((HW9.out.kept (gbDrewN V9 1 none)).rc.take a2 c2 k3 o3 r3 b3 g3 u3 0 d3 HT.out.t1).mono ?_; rintro _ wu10 ⟨rfl, A10, F10⟩; rw [HT.out.s1] at A10; have HW10 := hideIt ((HW9.out.kept (gbDrewN V9 1 none)).call A10 F10); have X_10 := hideIt ((X_9.out.kept (gbDrewN V9 1 none)).call F10); have Y_10 := hideIt ((Y_9.out.kept (gbDrewN V9 1 none)).call F10); have V_10 := hideIt ((V_9.out.kept (gbDrewN V9 1 none)).call F10); have Z1_10 := hideIt ((Z1_9.out.kept (gbDrewN V9 1 none)).call F10); have Z2_10 := hideIt ((Z2_9.out.kept (gbDrewN V9 1 none)).call F10); have A_10 := hideIt ((A_9.out.kept (gbDrewN V9 1 none)).call F10); have T1 : Two wu10 (w.heap.size + 1) a2 c2 := Y_10.out.sb.tup; clear A10 F10) | fail))
          clear T0 T1
          go_upto_region 17 with fail
          have T0 : Two wu10.drew (w.heap.size + 2) a3 c3 := (V_10.out.kept (gbDrewN wu10 1 none)).sb.tup
          go_region_held3 (fun w' => Two w' (w.heap.size + 2) a3 c3)
            (first | with_reducible exact T0 | with_reducible exact T1 | fail)
            ((first | (go_at_call 93; refine ((HW10.out.kept (gbDrewN wu10 1 none)).rc.take a3 c3 k4 o4 r4 b4 g4 u4 0 d4 HT.out.t2).mono ?_; rintro _ wu11 ⟨rfl, A11, F11⟩; rw [HT.out.s2] at A11; have HW11 := hideIt ((HW10.out.kept (gbDrewN wu10 1 none)).call A11 F11); have X_11 := hideIt ((X_10.out.kept (gbDrewN wu10 1 none)).call F11); have Y_11 := hideIt ((Y_10.out.kept (gbDrewN wu10 1 none)).call F11); have V_11 := hideIt ((V_10.out.kept (gbDrewN wu10 1 none)).call F11); have Z1_11 := hideIt ((Z1_10.out.kept (gbDrewN wu10 1 none)).call F11); have Z2_11 := hideIt ((Z2_10.out.kept (gbDrewN wu10 1 none)).call F11); have A_11 := hideIt ((A_10.out.kept (gbDrewN wu10 1 none)).call F11); have T1 : Two wu11 (w.heap.size + 2) a3 c3 := V_11.out.sb.tup; clear A11 F11) | fail))
          clear T0 T1
          have q3 := HT.out.t3
          have q4 := HT.out.s3
          have q5 := HT.out.t4
          have q6 := HT.out.s4
          rw [HG.out.1] at q3 q4
          rw [HG.out.1, HG.out.2] at q5 q6
          have HQ := hideIt (And.intro q3 (And.intro q4 (And.intro q5 q6)))
          clear q3 q4 q5 q6
          go_upto_region 18 with fail
          have T0 : Two wu11.drew w.heap.size a c ∧ Six wu11.drew wu1.heap.size ⟨k1, o1, r1, b1, g1, u1⟩ := ⟨(X_11.out.kept (gbDrewN wu11 1 none)).sb.tup, (Z1_11.out.kept (gbDrewN wu11 1 none)).bx.tup⟩
          go_region_held3 (fun w' => Two w' w.heap.size a c ∧ Six w' wu1.heap.size ⟨k1, o1, r1, b1, g1, u1⟩)
            (first | with_reducible exact T0 | with_reducible exact T1 | fail)
            ((first | (go_at_call 78; refine ((HW11.out.kept (gbDrewN wu11 1 none)).rc.put a c k1 o1 r1 b1 g1 u1 0 HQ.out.1).mono ?_; rintro _ wu12 ⟨rfl, A12, F12⟩; rw [HQ.out.2.1] at A12; have HW12 := hideIt ((HW11.out.kept (gbDrewN wu11 1 none)).call A12 F12); have X_12 := hideIt ((X_11.out.kept (gbDrewN wu11 1 none)).call F12); have Y_12 := hideIt ((Y_11.out.kept (gbDrewN wu11 1 none)).call F12); have V_12 := hideIt ((V_11.out.kept (gbDrewN wu11 1 none)).call F12); have Z1_12 := hideIt ((Z1_11.out.kept (gbDrewN wu11 1 none)).call F12); have Z2_12 := hideIt ((Z2_11.out.kept (gbDrewN wu11 1 none)).call F12); have A_12 := hideIt ((A_11.out.kept (gbDrewN wu11 1 none)).call F12); have T1 : Two wu12 w.heap.size a c ∧ Six wu12 wu1.heap.size ⟨k1, o1, r1, b1, g1, u1⟩ := ⟨X_12.out.sb.tup, Z1_12.out.bx.tup⟩; clear A12 F12) | fail))
          clear T0 T1
          go_upto_region 19 with fail
          have T0 : Two wu12.drew (w.heap.size + 1) a2 c2 ∧ Six wu12.drew wu3.heap.size ⟨k2, o2, r2, b2, g2, u2⟩ := ⟨(Y_12.out.kept (gbDrewN wu12 1 none)).sb.tup, (Z2_12.out.kept (gbDrewN wu12 1 none)).bx.tup⟩
          go_region_held3 (fun w' => Two w' (w.heap.size + 1) a2 c2 ∧ Six w' wu3.heap.size ⟨k2, o2, r2, b2, g2, u2⟩)
            (first | with_reducible exact T0 | with_reducible exact T1 | fail)
            ((first | (go_at_call 78; refine ((HW12.out.kept (gbDrewN wu12 1 none)).rc.put a2 c2 k2 o2 r2 b2 g2 u2 0 HQ.out.2.2.1).mono ?_; rintro _ wu13 ⟨rfl, A13, F13⟩; rw [HQ.out.2.2.2] at A13; have HW13 := hideIt ((HW12.out.kept (gbDrewN wu12 1 none)).call A13 F13); have X_13 := hideIt ((X_12.out.kept (gbDrewN wu12 1 none)).call F13); have Y_13 := hideIt ((Y_12.out.kept (gbDrewN wu12 1 none)).call F13); have V_13 := hideIt ((V_12.out.kept (gbDrewN wu12 1 none)).call F13); have Z1_13 := hideIt ((Z1_12.out.kept (gbDrewN wu12 1 none)).call F13); have Z2_13 := hideIt ((Z2_12.out.kept (gbDrewN wu12 1 none)).call F13); have A_13 := hideIt ((A_12.out.kept (gbDrewN wu12 1 none)).call F13); have T1 : Two wu13 (w.heap.size + 1) a2 c2 ∧ Six wu13 wu3.heap.size ⟨k2, o2, r2, b2, g2, u2⟩ := ⟨Y_13.out.sb.tup, Z2_13.out.bx.tup⟩; clear A13 F13) | fail))
          clear T0 T1
          have i1 : I64 (-1) := i64_of (by decide) (by decide)
          have i2 : I64 0 := i64_of (by decide) (by decide)
          go_upto_region 20 with fail
          have T0 : Two wu13.drew (w.heap.size + 1) a2 c2 ∧ Two wu13.drew V4.heap.size (-1) 0 := ⟨(Y_13.out.kept (gbDrewN wu13 1 none)).sb.tup, (A_13.out.kept (gbDrewN wu13 1 none)).sb.tup⟩
          go_region_held3 (fun w' => Two w' (w.heap.size + 1) a2 c2 ∧ Two w' V4.heap.size (-1) 0)
            (first | with_reducible exact T0 | with_reducible exact T1 | fail)
            ((first | (go_at_call 94; refine ((HW13.out.kept (gbDrewN wu13 1 none)).rc.move a2 c2 (-1) 0 0 i1 i2 hm HT.out.m1).mono ?_; rintro _ wu14 ⟨rfl, A14, F14⟩; rw [HT.out.f1] at A14; have HW14 := hideIt ((HW13.out.kept (gbDrewN wu13 1 none)).call A14 F14); have X_14 := hideIt ((X_13.out.kept (gbDrewN wu13 1 none)).call F14); have Y_14 := hideIt ((Y_13.out.kept (gbDrewN wu13 1 none)).call F14); have V_14 := hideIt ((V_13.out.kept (gbDrewN wu13 1 none)).call F14); have Z1_14 := hideIt ((Z1_13.out.kept (gbDrewN wu13 1 none)).call F14); have Z2_14 := hideIt ((Z2_13.out.kept (gbDrewN wu13 1 none)).call F14); have A_14 := hideIt ((A_13.out.kept (gbDrewN wu13 1 none)).call F14); have T1 : Two wu14 (w.heap.size + 1) a2 c2 ∧ Two wu14 V4.heap.size (-1) 0 := ⟨Y_14.out.sb.tup, A_14.out.sb.tup⟩; clear A14 F14) | fail))
          clear T0 T1
          have l1 : T9.Fo.len (T9.Fo.mv (a2, c2) M.aside f) ≤ 60 := by rw [← HT.out.f1, hmv]; exact hm
          go_upto_region 21 with fail
          have T0 : Two wu14.drew (w.heap.size + 2) a3 c3 ∧ Two wu14.drew (w.heap.size + 1) a2 c2 := ⟨(V_14.out.kept (gbDrewN wu14 1 none)).sb.tup, (Y_14.out.kept (gbDrewN wu14 1 none)).sb.tup⟩
          go_region_held3 (fun w' => Two w' (w.heap.size + 2) a3 c3 ∧ Two w' (w.heap.size + 1) a2 c2)
            (first | with_reducible exact T0 | with_reducible exact T1 | fail)
            ((first | (go_at_call 94; refine ((HW14.out.kept (gbDrewN wu14 1 none)).rc.move a3 c3 a2 c2 0 ha2 hc2 l1 HT.out.m2).mono ?_; rintro _ wu15 ⟨rfl, A15, F15⟩; rw [HT.out.f2] at A15; have HW15 := hideIt ((HW14.out.kept (gbDrewN wu14 1 none)).call A15 F15); have X_15 := hideIt ((X_14.out.kept (gbDrewN wu14 1 none)).call F15); have Y_15 := hideIt ((Y_14.out.kept (gbDrewN wu14 1 none)).call F15); have V_15 := hideIt ((V_14.out.kept (gbDrewN wu14 1 none)).call F15); have Z1_15 := hideIt ((Z1_14.out.kept (gbDrewN wu14 1 none)).call F15); have Z2_15 := hideIt ((Z2_14.out.kept (gbDrewN wu14 1 none)).call F15); have A_15 := hideIt ((A_14.out.kept (gbDrewN wu14 1 none)).call F15); have T1 : Two wu15 (w.heap.size + 2) a3 c3 ∧ Two wu15 (w.heap.size + 1) a2 c2 := ⟨V_15.out.sb.tup, Y_15.out.sb.tup⟩; clear A15 F15) | fail))
          clear T0 T1
          have l2 : T9.Fo.len (T9.Fo.mv (a3, c3) (a2, c2) (T9.Fo.mv (a2, c2) M.aside f)) ≤ 60 := by rw [← HT.out.f2, hmv]; exact l1
          go_upto_region 22 with fail
          have T0 : Two wu15.drew V4.heap.size (-1) 0 ∧ Two wu15.drew w.heap.size a c := ⟨(A_15.out.kept (gbDrewN wu15 1 none)).sb.tup, (X_15.out.kept (gbDrewN wu15 1 none)).sb.tup⟩
          go_region_held3 (fun w' => Two w' V4.heap.size (-1) 0 ∧ Two w' w.heap.size a c)
            (first | with_reducible exact T0 | with_reducible exact T1 | fail)
            ((first | (go_at_call 94; refine ((HW15.out.kept (gbDrewN wu15 1 none)).rc.move (-1) 0 a c 0 ha hc l2 HT.out.m3).mono ?_; rintro _ wu16 ⟨rfl, A16, F16⟩; rw [HT.out.f3] at A16; have HW16 := hideIt ((HW15.out.kept (gbDrewN wu15 1 none)).call A16 F16); have X_16 := hideIt ((X_15.out.kept (gbDrewN wu15 1 none)).call F16); have Y_16 := hideIt ((Y_15.out.kept (gbDrewN wu15 1 none)).call F16); have V_16 := hideIt ((V_15.out.kept (gbDrewN wu15 1 none)).call F16); have Z1_16 := hideIt ((Z1_15.out.kept (gbDrewN wu15 1 none)).call F16); have Z2_16 := hideIt ((Z2_15.out.kept (gbDrewN wu15 1 none)).call F16); have A_16 := hideIt ((A_15.out.kept (gbDrewN wu15 1 none)).call F16); have T1 : Two wu16 V4.heap.size (-1) 0 ∧ Two wu16 w.heap.size a c := ⟨A_16.out.sb.tup, X_16.out.sb.tup⟩; clear A16 F16) | fail))
          clear T0 T1
          go_wp2
          go_ret
          have E := HW16.out.fin hw0 hlo
          have er := HR.out
          obtain rfl : 0 = e := er.symm.trans HE.out
          have hN := M.rotY (f := f) er
          rw [HT.out.f1, HT.out.f2, HT.out.f3, HG.out.1, HG.out.2] at hN
          rw [hN.1, hN.2]
          exact ⟨rfl, E.1, E.2⟩
      · have n4 : E2 ≠ 0 := by simpa using n2
        have nb : (E2 == 0) = false := by simpa using n4
        rw [if_neg n4] at HR
        go_wp2
        go_ret
        have E := HW4.out.fin hw0 hlo
        have er := HR.out
        obtain rfl : E2 = e := er.symm.trans HE.out
        have hN := M.rotN (f := f) (by rw [er]; exact n4)
        rw [hN.1, hN.2]
        exact ⟨rfl, E.1, E.2⟩
    · have n4 : E1 ≠ 0 := by simpa using n1
      rw [if_neg n4] at HR
      go_wp2
      go_ret
      have E := HW2.out.fin hw0 hlo
      have er := HR.out
      obtain rfl : E1 = e := er.symm.trans HE.out
      have hN := M.rotN (f := f) (by rw [er]; exact n4)
      rw [hN.1, hN.2]
      exact ⟨rfl, E.1, E.2⟩

end Go.Proofs.YtdnoidnpiaadaaaGreat

/-
  FOR THE LAWS: what is refused changes nothing; the tree's answers; lists that the parts do not have; slot, works' numbers.
-/
namespace Go.Proofs.YtdnoidnpiaadaaaGreat
set_option maxRecDepth 10000
open Go.RowKit
set_option linter.unusedVariables false

namespace Cs
theorem parent {w0 w : World} {O : Nat → Prop} {p s t m : Nat} {S : St} {f : T9.Fo} (h : Cs w0 w O p s t m S f) (n i : Int) (hn : I64 n) (hi : I64 i) (on oa : Int) (ob : Bool) (e1 : T9.oN (f.parent (n, i)) = on) (e2 : T9.oA (f.parent (n, i)) = oa) (e3 : T9.oB (f.parent (n, i)) = ob) :
    Calls Tryz.prog 53 #[.pointer (some ⟨t, 0, none⟩), sv n i] w fun e w' => e = .returned (.tuple #[sv on oa, .bool ob]) ∧ w.grownBy w' none := by
  obtain ⟨OS, OT, h1, h2, _⟩ := h.ex
  exact T9.parent_is h2 n i hn hi on oa ob e1 e2 e3
theorem children {w0 w : World} {O : Nat → Prop} {p s t m : Nat} {S : St} {f : T9.Fo} (h : Cs w0 w O p s t m S f) (n i : Int) (hn : I64 n) (hi : I64 i) (hl : (f.children (n, i)).length ≤ 1000) :
    Calls Tryz.prog 55 #[.pointer (some ⟨t, 0, none⟩), sv n i] w fun e w' => ∃ v', e = .returned v' ∧ Lst w' w.heap.size v' (f.children (n, i)) ∧ w.grownBy w' none := by
  obtain ⟨OS, OT, h1, h2, _⟩ := h.ex
  exact T9.children_is h2 n i hn hi _ rfl hl
end Cs

namespace M
theorem pla_no {S : St} {f : T9.Fo} {a : Int × Int} {c : C} (h : plaE S a c ≠ 0) : plaS S a c = S ∧ plaF S f a c = f := by
  refine ⟨?_, by unfold plaF; rw [if_neg h]⟩
  unfold plaS putS; unfold plaE at h; rw [if_neg h]
theorem min_no {S : St} {f : T9.Fo} {a b : Int × Int} {rt bd gd bt : Int} (h : minE S a b rt bd gd bt ≠ 0) : minS S a b rt bd gd bt = S ∧ minF S f a b rt bd gd bt = f := ⟨by unfold minS; rw [if_neg h], by unfold minF; rw [if_neg h]⟩
theorem cop_no {S : St} {f : T9.Fo} {a b : Int × Int} {rt : Int} (h : copE S a b rt ≠ 0) : copS S a b rt = S ∧ copF S f a b rt = f := min_no h
theorem mov_no {S : St} {f : T9.Fo} {a b : Int × Int} (h : endE S a b ≠ 0) : movS S a b = S ∧ movF S f a b = f := ⟨by unfold movS; rw [if_neg h], by unfold movF; rw [if_neg h]⟩
theorem rot_no {S : St} {f : T9.Fo} {d p a : Int × Int} (h : rotE S d p a ≠ 0) : rotS S d p a = S ∧ rotF S f d p a = f := ⟨by unfold rotS; rw [if_neg h], by unfold rotF; rw [if_neg h]⟩
end M

/-- A list that the parts do not have. -/
structure LB (wc : World) (Oc : Nat → Prop) (v : Value) (L : List (Int × Int)) : Prop where
  ls : Lst wc 0 v L
  no : ∀ g, v.ownBlock = some g → ¬ Oc g
theorem LB.kept {wc wd : World} {Oc : Nat → Prop} {v : Value} {L : List (Int × Int)} (h : LB wc Oc v L) (g : wc.grownBy wd none) : LB wd Oc v L := ⟨h.ls.kept g, h.no⟩
theorem LB.call {wc wd : World} {Oc : Nat → Prop} {v : Value} {L : List (Int × Int)} (h : LB wc Oc v L) (F : Fr Oc wc wd) : LB wd (wide Oc wc wd) v L :=
  ⟨h.ls.fr F h.no, fun g hg e => by
    rcases e with e | e
    · exact h.no g hg e
    · have := (h.ls.lt g hg).2; omega⟩
theorem LB.new {w0 wc wd : World} {Oc : Nat → Prop} {p s t m : Nat} {S : St} {f : T9.Fo} {v : Value} {L : List (Int × Int)} (h : Cs w0 wc Oc p s t m S f) (l : Lst wd wc.heap.size v L) : LB wd Oc v L :=
  ⟨l.zero, fun g hg e => by have := (h.lo g e).2; have := (l.lt g hg).1; omega⟩

theorem Ptr.kept {w w' : World} {p j q : Nat} (h : Ptr w p j q) (g : w.grownBy w' none) : Ptr w' p j q := g.cell h (by simp)

/-! ### The numbers of works -/
namespace Wk
def c0 : C := ⟨4, 4, 7, 0, 0, 0⟩
def S0 : St := fun _ => none
def S1 : St := M.addS S0 0 3
def S2 : St := M.plaS S1 (0, 0) c0
def f2 : T9.Fo := M.plaF S1 .nil (0, 0) c0
def S3 : St := M.minS S2 (0, 0) (0, 1) 1 7 0 0
def f3 : T9.Fo := M.minF S2 f2 (0, 0) (0, 1) 1 7 0 0
def S4 : St := M.copS S3 (0, 1) (0, 2) 7
def f4 : T9.Fo := M.copF S3 f3 (0, 1) (0, 2) 7
def S5 : St := M.movS S4 (0, 0) (0, 3)
def f5 : T9.Fo := M.movF S4 f4 (0, 0) (0, 3)
theorem I1 : M.Inv S1 .nil := M.Inv.same M.Inv.none (fun x => M.gc_add _ _ _ x)
theorem I2 : M.Inv S2 f2 := I1.pla (0, 0) (by decide) (by decide)
theorem e1 : M.addE S0 0 3 = 0 := by decide +kernel
theorem e2 : M.plaE S1 (0, 0) ⟨4, 4, 7, 0, 0, 0⟩ = 0 := by decide +kernel
theorem e3 : M.minE S2 (0, 0) (0, 1) 1 7 0 0 = 0 := by decide +kernel
theorem e4 : M.copE S3 (0, 1) (0, 2) 7 = 0 := by decide +kernel
theorem e5 : M.endE S4 (0, 0) (0, 3) = 0 := by decide +kernel
theorem k4 : f4.kin (0, 0) = [(0, 1), (0, 2)] := by decide +kernel
theorem k5 : f5.kin (0, 3) = [(0, 1), (0, 2)] := by decide +kernel
theorem y5 : M.getE S5 0 2 = 0 := by decide +kernel
theorem e6 : M.copE S5 (0, 0) (0, 4) 7 = 3 := by decide +kernel
theorem e7 : M.copE S5 (0, 1) (0, 2) 7 = 4 := by decide +kernel
theorem e8 : M.rotE S5 (0, 1) (0, 1) (0, 2) = 10 := by decide +kernel
theorem l1 : T9.Fo.len T9.Fo.nil ≤ 1000 := by decide +kernel
theorem l2 : f2.len ≤ 1000 := by decide +kernel
theorem l3 : f3.len ≤ 1000 := by decide +kernel
theorem l4 : f4.len ≤ 1000 := by decide +kernel
theorem l5 : f5.len ≤ 1000 := by decide +kernel
theorem n6 : M.copS S5 (0, 0) (0, 4) 7 = S5 ∧ M.copF S5 f5 (0, 0) (0, 4) 7 = f5 := M.cop_no (by rw [e6]; decide)
theorem n7 : M.copS S5 (0, 1) (0, 2) 7 = S5 ∧ M.copF S5 f5 (0, 1) (0, 2) 7 = f5 := M.cop_no (by rw [e7]; decide)
end Wk
end Go.Proofs.YtdnoidnpiaadaaaGreat

/-
  WHAT COMES OF A CAPABILITY IS WEAKER, PLAINLY; and how long the tree is. Speaks of no function of the program.
-/
namespace Go.Proofs.YtdnoidnpiaadaaaGreat
set_option maxRecDepth 10000
set_option linter.unusedVariables false

namespace M
open T9 (Fo)
/-- Each slot's capability is weaker than that of what it comes of. -/
def Wkf (g : Int × Int → C) : Option C → Fo → Prop
  | _, Deep.BT.nil => True
  | p, Deep.BT.node bb oo a d r => (∀ c, p = some c → wkr (g a) c = true) ∧ Wkf g (some (g a)) d ∧ Wkf g p r

theorem Wkf.congr {g g' : Int × Int → C} {p : Option C} {f : Fo} (h : ∀ x ∈ f.pre, g' x = g x) (k : Wkf g p f) : Wkf g' p f := by
  induction f using T9.Fo.ind generalizing p with
  | nil => trivial
  | node bb oo a d r ihd ihr =>
    obtain ⟨k1, k2, k3⟩ := k
    have ha : g' a = g a := h a (by simp [T9.Fo.pre])
    refine ⟨fun c hc => by rw [ha]; exact k1 c hc, ?_, ?_⟩
    · rw [ha]; exact ihd (fun x hx => h x (by simp [T9.Fo.pre, hx])) k2
    · exact ihr (fun x hx => h x (by simp [T9.Fo.pre, hx])) k3
theorem Wkf.app {g : Int × Int → C} {p : Option C} {f h : Fo} (k : Wkf g p f) (l : Wkf g p h) : Wkf g p (T9.Fo.app f h) := by
  induction f using T9.Fo.ind with
  | nil => exact l
  | node bb oo a d r ihd ihr =>
    obtain ⟨k1, k2, k3⟩ := k
    exact ⟨k1, k2, ihr k3⟩
theorem Wkf.up {g : Int × Int → C} {c : C} {p : Option C} {f : Fo} (k : Wkf g (some c) f) (h : ∀ c', p = some c' → wkr c c' = true) : Wkf g p f := by
  induction f using T9.Fo.ind with
  | nil => trivial
  | node bb oo a d r ihd ihr =>
    obtain ⟨k1, k2, k3⟩ := k
    exact ⟨fun c' hc' => wkr_trans (k1 c rfl) (h c' hc'), k2, ihr k3⟩
theorem Wkf.drop {g : Int × Int → C} {p : Option C} {f : Fo} (s : Int × Int) (k : Wkf g p f) : Wkf g p (T9.Fo.drop s f) := by
  induction f using T9.Fo.ind generalizing p with
  | nil => trivial
  | node bb oo a d r ihd ihr =>
    obtain ⟨k1, k2, k3⟩ := k
    simp only [T9.Fo.drop]
    split
    · exact (k2.up k1).app k3
    · exact ⟨k1, ihd k2, ihr k3⟩
theorem Wkf.add {g : Int × Int → C} {p : Option C} {f : Fo} {o s : Int × Int} (k : Wkf g p f) (h : wkr (g s) (g o) = true) : Wkf g p (T9.Fo.add o s f) := by
  induction f using T9.Fo.ind generalizing p with
  | nil => trivial
  | node bb oo a d r ihd ihr =>
    obtain ⟨k1, k2, k3⟩ := k
    simp only [T9.Fo.add]
    split
    · rename_i e
      exact ⟨k1, k2.app ⟨fun c hc => by cases hc; rw [e]; exact h, trivial, trivial⟩, k3⟩
    · exact ⟨k1, ihd k2, ihr k3⟩
theorem Wkf.mv {g g' : Int × Int → C} {p : Option C} {f : Fo} {a b : Int × Int} (h : ∀ x ∈ f.pre, g' (T9.Fo.ren a b x) = g x) (k : Wkf g p f) : Wkf g' p (T9.Fo.mv a b f) := by
  induction f using T9.Fo.ind generalizing p with
  | nil => trivial
  | node bb oo x d r ihd ihr =>
    obtain ⟨k1, k2, k3⟩ := k
    have hx : g' (T9.Fo.ren a b x) = g x := h x (by simp [T9.Fo.pre])
    unfold T9.Fo.ren at hx
    simp only [T9.Fo.mv]
    refine ⟨fun c hc => by rw [hx]; exact k1 c hc, ?_, ?_⟩
    · rw [hx]; exact ihd (fun y hy => h y (by simp [T9.Fo.pre, hy])) k2
    · exact ihr (fun y hy => h y (by simp [T9.Fo.pre, hy])) k3
theorem Wkf.kin {g : Int × Int → C} {p : Option C} {f d : Fo} {x : Int × Int} (k : Wkf g p f) (h : f.sub x = some d) : Wkf g (some (g x)) d := by
  induction f using T9.Fo.ind generalizing p with
  | nil => cases h
  | node bb oo a e r ihe ihr =>
    obtain ⟨k1, k2, k3⟩ := k
    simp only [T9.Fo.sub] at h
    split at h
    · rename_i ea; cases h; rw [← ea]; exact k2
    · cases he : e.sub x with
      | some e' => rw [he] at h; simp at h; subst h; exact ihe k2 he
      | none => rw [he] at h; simp at h; exact ihr k3 h
theorem Wkf.all {g : Int × Int → C} {c : C} {f : Fo} (k : Wkf g (some c) f) : ∀ y ∈ f.pre, wkr (g y) c = true := by
  induction f using T9.Fo.ind generalizing c with
  | nil => intro y hy; cases hy
  | node bb oo a d r ihd ihr =>
    obtain ⟨k1, k2, k3⟩ := k
    intro y hy
    simp only [T9.Fo.pre, List.mem_cons, List.mem_append] at hy
    rcases hy with rfl | hy | hy
    · exact k1 c rfl
    · exact wkr_trans (ihd k2 y hy) (k1 c rfl)
    · exact ihr k3 y hy
abbrev Wks (S : St) (f : Fo) : Prop := Wkf (gc S) none f
theorem Wks.start : Wks (fun _ => none) .nil := trivial
theorem Wks.pla {S : St} {f : Fo} (k : Wks S f) (I : Inv S f) (a : Int × Int) (c : C) : Wks (plaS S a c) (plaF S f a c) := by
  by_cases h : plaE S a c = 0
  · obtain ⟨h1, h2, h3, h4⟩ := putE_ok h
    unfold plaF plaS
    rw [if_pos h, putS_up h]
    unfold T9.Fo.rootF
    rw [I.hasnt h4, if_neg (by simp)]
    refine Wkf.app (k.congr fun x hx => ?_) ⟨fun c hc => (nomatch hc), trivial, trivial⟩
    have xa : x ≠ a := fun e => (I.inv x).1 hx (by rw [e]; exact h4)
    rw [gc_up c h1, if_neg xa]
  · obtain ⟨e1, e2⟩ := pla_no (f := f) h; rw [e1, e2]; exact k
theorem Wks.min {S : St} {f : Fo} (k : Wks S f) (I : Inv S f) (a b : Int × Int) {rt bd gd bt : Int} (hbd : 0 ≤ bd) (hgd : 0 ≤ gd) : Wks (minS S a b rt bd gd bt) (minF S f a b rt bd gd bt) := by
  by_cases h : minE S a b rt bd gd bt = 0
  · obtain ⟨he, d, hd, hk, hb, hg, hw⟩ := min_d I hbd hgd h
    obtain ⟨h1, h2⟩ := endE_ok he
    unfold minF minS
    rw [if_pos h, if_pos h, hd]
    unfold T9.Fo.childF
    rw [I.has (srcE_ok h1).2, I.hasnt (plcE_ok h2).2, if_pos rfl, if_neg (by simp)]
    have hne := end_ne he
    refine Wkf.add (k.congr fun x hx => ?_) ?_
    · have xb : x ≠ b := fun e => (I.inv x).1 hx (by rw [e]; exact (plcE_ok h2).2)
      rw [gc_up _ (plcE_ok h2).1, if_neg xb]
    · rw [gc_up _ (plcE_ok h2).1, gc_up _ (plcE_ok h2).1, if_pos rfl, if_neg hne]; exact hw
  · obtain ⟨e1, e2⟩ := min_no (f := f) h; rw [e1, e2]; exact k
theorem Wks.cop {S : St} {f : Fo} (k : Wks S f) (I : Inv S f) (a b : Int × Int) (rt : Int) : Wks (copS S a b rt) (copF S f a b rt) := k.min I a b (Int.le_refl 0) (I.nn a).2
theorem Wks.mov {S : St} {f : Fo} (k : Wks S f) (I : Inv S f) (a b : Int × Int) : Wks (movS S a b) (movF S f a b) := by
  by_cases h : endE S a b = 0
  · obtain ⟨h1, h2⟩ := endE_ok h
    have ha := (I.inv a).2 (srcE_ok h1).2
    have hb : b ∉ f.pre := fun e => (I.inv b).1 e (plcE_ok h2).2
    unfold movF movS
    rw [if_pos h, if_pos h, moveF_yes ha hb]
    refine k.mv fun x hx => ?_
    rw [gc_car h]
    unfold T9.Fo.ren
    by_cases e : x = a
    · rw [if_pos e, if_pos rfl, e]
    · have xb : x ≠ b := fun e' => hb (e' ▸ hx)
      rw [if_neg e, if_neg xb, if_neg e]
  · obtain ⟨e1, e2⟩ := mov_no (f := f) h; rw [e1, e2]; exact k
theorem Wks.rot {S : St} {f : Fo} (k : Wks S f) (I : Inv S f) (G : Good S) (d p a : Int × Int) : Wks (rotS S d p a) (rotF S f d p a) := by
  by_cases h : rotE S d p a = 0
  · have T := turn_of I G h
    obtain ⟨n1, n2, h1, h2, h3⟩ := rot_ok h
    have pin := (I.inv p).2 (srcE_ok h1).2
    have ain := (I.inv a).2 (srcE_ok h2).2
    have sout : aside ∉ f.pre := fun e => by
      have := th_range G (gc_th ((I.inv aside).1 e))
      simp at this
    unfold rotF rotS
    rw [if_pos h, if_pos h, T.f1, T.f2, T.f3]
    have pa : p ≠ aside := fun e => sout (e ▸ pin)
    have aa : a ≠ aside := fun e => sout (e ▸ ain)
    have k1 : Wkf (fun x => if x = aside then gc S p else gc S x) none (T9.Fo.mv p aside f) := k.mv fun x hx => by
      unfold T9.Fo.ren
      by_cases e : x = p
      · rw [if_pos e, if_pos rfl, e]
      · have xs : x ≠ aside := fun e' => sout (e' ▸ hx)
        rw [if_neg e, if_neg xs]
    have k2 : Wkf (fun x => if x = p then gc S a else if x = aside then gc S p else gc S x) none (T9.Fo.mv a p (T9.Fo.mv p aside f)) := k1.mv fun x hx => by
      have m1 := (mem_mv pin).1 hx
      unfold T9.Fo.ren
      by_cases e : x = a
      · rw [if_pos e, if_pos rfl, e, if_neg aa]
      · have xp : x ≠ p := fun e' => by
          rcases m1 with e1 | e1
          · exact pa (e'.symm.trans e1)
          · exact e1.2 e'
        rw [if_neg e, if_neg xp]
    refine k2.mv fun x hx => ?_
    have a1 : a ∈ (T9.Fo.mv p aside f).pre := (mem_mv pin).2 (.inr ⟨ain, Ne.symm n2⟩)
    have m2 := (mem_mv a1).1 hx
    rw [mem_mv pin] at m2
    unfold T9.Fo.ren
    rw [T.gcs]
    by_cases e : x = aside
    · rw [if_pos e, if_neg (Ne.symm n1), if_pos rfl, e, if_neg (Ne.symm pa), if_pos rfl]
    · rw [if_neg e]
      by_cases xp : x = p
      · rw [if_pos xp, if_pos xp]
      · rw [if_neg xp, if_neg xp, if_neg e]
        rcases m2 with e1 | ⟨e1 | e1, e2⟩
        · exact absurd e1 xp
        · exact absurd e1 e
        · have xd : x ≠ d := fun e' => by
            rcases h3 with h3 | h3
            · exact e2 (e'.trans h3)
            · exact (I.inv x).1 e1.1 (e' ▸ (plcE_ok h3).2)
          rw [if_neg xd, if_neg e2]
  · obtain ⟨e1, e2⟩ := rot_no (f := f) h; rw [e1, e2]; exact k
theorem Wks.tak {S : St} {f : Fo} (k : Wks S f) (I : Inv S f) (N : T9.Good f) (a : Int × Int) : Wks (takS S a) (takF S f a) := by
  unfold takS takF
  by_cases h : srcE S a = 0
  · rw [if_pos h, takeS_up h, (tak_ok I h).2]
    refine (k.drop a).congr fun x hx => ?_
    rw [T9.Fo.pre_drop N.nd, List.mem_filter] at hx
    rw [gc_up _ (srcE_ok h).1, if_neg (by simpa using hx.2)]
  · unfold takeS
    unfold srcE at h ⊢
    rw [if_neg h, if_neg h]; exact k

/-! ### How long -/
theorem len_root (f : Fo) (a : Int × Int) : (f.rootF a).len ≤ f.len + 1 := by
  unfold T9.Fo.rootF T9.Fo.len
  split
  · omega
  · rw [T9.Fo.pre_app, T9.Fo.pre_one]; simp
theorem len_childF {f : Fo} (N : T9.Good f) (o a : Int × Int) : (f.childF o a).len ≤ f.len + 1 := by
  unfold T9.Fo.childF T9.Fo.len
  split
  · rename_i h
    split
    · omega
    · rw [T9.Fo.len_add N.nd (T9.Fo.has_iff.1 h)]; omega
  · omega
theorem len_moveF (f : Fo) (a b : Int × Int) : (f.moveF a b).len ≤ f.len := by
  unfold T9.Fo.moveF T9.Fo.len
  split
  · split
    · omega
    · rw [T9.Fo.pre_mv, List.length_map]; omega
  · omega
theorem len_dropF {f : Fo} (N : T9.Good f) (a : Int × Int) : (f.dropF a).len ≤ f.len := by
  unfold T9.Fo.dropF T9.Fo.len
  split
  · rw [T9.Fo.pre_drop N.nd]; exact List.length_filter_le _ _
  · omega
theorem sub_len {f d : Fo} {x : Int × Int} (h : f.sub x = some d) : d.pre.length ≤ f.pre.length := by
  induction f using T9.Fo.ind with
  | nil => cases h
  | node bb oo a e r ihe ihr =>
    simp only [T9.Fo.sub] at h
    simp only [T9.Fo.pre, List.length_cons, List.length_append]
    split at h
    · cases h; omega
    · cases he : e.sub x with
      | some e' => rw [he] at h; simp at h; subst h; have := ihe he; omega
      | none => rw [he] at h; simp at h; have := ihr h; omega
theorem kin_len (f : Fo) (x : Int × Int) : (f.kin x).length ≤ f.len := by
  unfold T9.Fo.kin T9.Fo.len
  cases h : f.sub x with
  | none => simp
  | some d => exact sub_len h
theorem tops_len (f : Fo) : f.tops.length ≤ f.pre.length := by
  induction f using T9.Fo.ind with
  | nil => simp [T9.Fo.tops]
  | node bb oo a d r ihd ihr => simp only [T9.Fo.tops, T9.Fo.pre, List.length_cons, List.length_append]; omega
theorem children_len (f : Fo) (x : Int × Int) : (f.children x).length ≤ f.len := by
  unfold T9.Fo.children T9.Fo.len
  cases h : f.sub x with
  | none => simp
  | some d => exact Nat.le_trans (tops_len d) (sub_len h)
theorem full_len (S : St) : (full S).length ≤ 1024 := fullTo_len S 64
theorem len_pla (S : St) (f : Fo) (a : Int × Int) (c : C) : (plaF S f a c).len ≤ f.len + 1 := by
  unfold plaF; split
  · exact len_root f a
  · omega
theorem len_chi (S : St) {f : Fo} (N : T9.Good f) (o a : Int × Int) (c : C) : (chiF S f o a c).len ≤ f.len + 1 := by
  unfold chiF; split
  · exact len_childF N o a
  · omega
theorem len_min (S : St) {f : Fo} (N : T9.Good f) (a b : Int × Int) (rt bd gd bt : Int) : (minF S f a b rt bd gd bt).len ≤ f.len + 1 := by
  unfold minF; split
  · exact len_childF N a b
  · omega
theorem len_cop (S : St) {f : Fo} (N : T9.Good f) (a b : Int × Int) (rt : Int) : (copF S f a b rt).len ≤ f.len + 1 := len_min S N a b _ _ _ _
theorem len_mov (S : St) (f : Fo) (a b : Int × Int) : (movF S f a b).len ≤ f.len + 1 := by
  unfold movF; split
  · have := len_moveF f a b; omega
  · omega
theorem len_mut (S : St) (f : Fo) (a b : Int × Int) (gd bt : Int) : (mutF S f a b gd bt).len ≤ f.len + 1 := by
  unfold mutF; split
  · have := len_moveF f a b; omega
  · omega
theorem len_rot (S : St) (f : Fo) (d p a : Int × Int) : (rotF S f d p a).len ≤ f.len + 1 := by
  unfold rotF; split
  · have h1 := len_moveF f p aside
    have h2 := len_moveF (f.moveF p aside) a p
    have h3 := len_moveF ((f.moveF p aside).moveF a p) aside d
    omega
  · omega
theorem len_tak (S : St) {f : Fo} (N : T9.Good f) (a : Int × Int) : (takF S f a).len ≤ f.len + 1 := by
  unfold takF; split
  · have := len_dropF N a; omega
  · omega
end M
end Go.Proofs.YtdnoidnpiaadaaaGreat
