/-
  THE CONTRACTS of package moves: carry, Child (written by mkact2.py).
-/
import Derived.Test.YtkpcdfiebjigbaaAct1
namespace Go.Proofs.Ytkpcdfiebjigbaa
set_option maxRecDepth 10000
open Go.RowKit
set_option linter.unusedVariables false

set_option maxHeartbeats 2000000 in
theorem Cs.carry {w0 w : World} {O : Nat → Prop} {p s t m : Nat} {S : St} {f : T9.Fo} (h : Cs w0 w O p s t m S f) (I : M.Inv S f) (a c a2 c2 k o r b g u : Int) (ha : I64 a) (hc : I64 c) (ha2 : I64 a2) (hc2 : I64 c2) (hb : 0 ≤ b) (hg : 0 ≤ g) (hm : f.len ≤ 1000) (he : M.endE S (a, c) (a2, c2) = 0) (hk : M.chk ⟨k, o, r, b, g, u⟩ = 0) (hn : k ≠ 0) :
    Calls Try.prog 34 #[.pointer (some ⟨p, 0, none⟩), sv a c, sv a2 c2, cv ⟨k, o, r, b, g, u⟩] w fun x w' => x = .returned (.int .i64 0) ∧ Cs w0 w' (wide O w w') p s t m (M.carS S (a, c) (a2, c2) ⟨k, o, r, b, g, u⟩) (f.moveF (a, c) (a2, c2)) ∧ Fr O w w' := by
  obtain ⟨q1, q2, q3, q4⟩ := M.car_put (c := ⟨k, o, r, b, g, u⟩) he hk hn
  obtain ⟨⟨k1, o1, r1, b1, g1, u1⟩, hd⟩ : ∃ d, M.takeC S a c = d := ⟨_, rfl⟩
  have Q := hideIt (And.intro q1 (And.intro q2 (And.intro q3 q4)))
  clear q1 q2 q3 q4 hk hn
  have hw0 := h.gr.size
  have hlo := h.lo
  have HH := hideIt h
  clear h
  go_enter Try.func34, Try.ntmps34
  go_upto_region 1 with fail
  obtain ⟨W, hW, X0, X1, X2, g0⟩ := slots2Box w a c a2 c2 ⟨k, o, r, b, g, u⟩
  try simp only at hW
  rw [hW]
  clear hW
  have HW := hideIt ((Wy.start HH.out).kept g0)
  have HX : Hid (SB W O w.heap.size a c) := ⟨X0, (Wy.start HH.out).out (by omega)⟩
  have HY : Hid (SB W O (w.heap.size + 1) a2 c2) := ⟨X1, (Wy.start HH.out).out (by omega)⟩
  have HB : Hid (BB W O (w.heap.size + 2) ⟨k, o, r, b, g, u⟩) := ⟨X2, (Wy.start HH.out).out (by omega)⟩
  clear X0 X1 X2 g0
  have T0 : Ptr W.drew p 0 s ∧ Two W.drew w.heap.size a c := ⟨(HW.out.kept (gbDrewN W 1 none)).cs.c0, (HX.out.kept (gbDrewN W 1 none)).sb.tup⟩
  go_region_held3 (fun w' => Ptr w' p 0 s ∧ Two w' w.heap.size a c)
    (first | with_reducible exact T0 | with_reducible exact T1 | fail)
    ((first | (go_at_call 38; refine ((HW.out.kept (gbDrewN W 1 none)).cs.take a c k1 o1 r1 b1 g1 u1 0 ha hd Q.out.1).mono ?_; rintro _ u1 ⟨rfl, A1, F1⟩; rw [Q.out.2.1] at A1; have HW1 := hideIt ((HW.out.kept (gbDrewN W 1 none)).call A1 F1); have HX_1 := hideIt ((HX.out.kept (gbDrewN W 1 none)).call F1); have HY_1 := hideIt ((HY.out.kept (gbDrewN W 1 none)).call F1); have HB_1 := hideIt ((HB.out.kept (gbDrewN W 1 none)).call F1); have T1 : Ptr u1 p 0 s ∧ Two u1 w.heap.size a c := ⟨HW1.out.cs.c0, HX_1.out.sb.tup⟩; clear A1 F1) | fail))
  clear T0 T1
  go_upto_region 2 with fail
  have T0 : Ptr u1.drew p 0 s ∧ Two u1.drew (w.heap.size + 1) a2 c2 ∧ Six u1.drew (w.heap.size + 2) ⟨k, o, r, b, g, u⟩ := ⟨(HW1.out.kept (gbDrewN u1 1 none)).cs.c0, (HY_1.out.kept (gbDrewN u1 1 none)).sb.tup, (HB_1.out.kept (gbDrewN u1 1 none)).bx.tup⟩
  go_region_held3 (fun w' => Ptr w' p 0 s ∧ Two w' (w.heap.size + 1) a2 c2 ∧ Six w' (w.heap.size + 2) ⟨k, o, r, b, g, u⟩)
    (first | with_reducible exact T0 | with_reducible exact T1 | fail)
    ((first | (go_at_call 30; refine ((HW1.out.kept (gbDrewN u1 1 none)).cs.put a2 c2 k o r b g u 0 ha2 hb hg Q.out.2.2.1).mono ?_; rintro _ u2 ⟨rfl, A2, F2⟩; rw [Q.out.2.2.2] at A2; have HW2 := hideIt ((HW1.out.kept (gbDrewN u1 1 none)).call A2 F2); have HX_2 := hideIt ((HX_1.out.kept (gbDrewN u1 1 none)).call F2); have HY_2 := hideIt ((HY_1.out.kept (gbDrewN u1 1 none)).call F2); have HB_2 := hideIt ((HB_1.out.kept (gbDrewN u1 1 none)).call F2); have T1 : Ptr u2 p 0 s ∧ Two u2 (w.heap.size + 1) a2 c2 ∧ Six u2 (w.heap.size + 2) ⟨k, o, r, b, g, u⟩ := ⟨HW2.out.cs.c0, HY_2.out.sb.tup, HB_2.out.bx.tup⟩; clear A2 F2) | fail))
  clear T0 T1
  go_upto_region 3 with fail
  have T0 : Ptr u2.drew p 1 t ∧ Two u2.drew w.heap.size a c ∧ Two u2.drew (w.heap.size + 1) a2 c2 := ⟨(HW2.out.kept (gbDrewN u2 1 none)).cs.c1, (HX_2.out.kept (gbDrewN u2 1 none)).sb.tup, (HY_2.out.kept (gbDrewN u2 1 none)).sb.tup⟩
  go_region_held3 (fun w' => Ptr w' p 1 t ∧ Two w' w.heap.size a c ∧ Two w' (w.heap.size + 1) a2 c2)
    (first | with_reducible exact T0 | with_reducible exact T1 | fail)
    ((first | (go_at_call 53; refine ((HW2.out.kept (gbDrewN u2 1 none)).cs.move a c a2 c2 0 ha hc ha2 hc2 hm (M.end_move I he)).mono ?_; rintro _ u3 ⟨rfl, A3, F3⟩; have HW3 := hideIt ((HW2.out.kept (gbDrewN u2 1 none)).call A3 F3); have HX_3 := hideIt ((HX_2.out.kept (gbDrewN u2 1 none)).call F3); have HY_3 := hideIt ((HY_2.out.kept (gbDrewN u2 1 none)).call F3); have HB_3 := hideIt ((HB_2.out.kept (gbDrewN u2 1 none)).call F3); have T1 : Ptr u3 p 1 t ∧ Two u3 w.heap.size a c ∧ Two u3 (w.heap.size + 1) a2 c2 := ⟨HW3.out.cs.c1, HX_3.out.sb.tup, HY_3.out.sb.tup⟩; clear A3 F3) | fail))
  clear T0 T1
  go_wp2
  go_ret
  have E := HW3.out.fin hw0 hlo
  exact ⟨rfl, E.1, E.2⟩

set_option maxHeartbeats 2000000 in
theorem Cs.childA {w0 w : World} {O : Nat → Prop} {p s t m : Nat} {S : St} {f : T9.Fo} (h : Cs w0 w O p s t m S f) (I : M.Inv S f) (a c a2 c2 k o r b g u e : Int) (ha : I64 a) (hc : I64 c) (ha2 : I64 a2) (hc2 : I64 c2) (hb : 0 ≤ b) (hg : 0 ≤ g) (hm : f.len ≤ 1000) (he : M.chiE S (a, c) (a2, c2) ⟨k, o, r, b, g, u⟩ = e) :
    Calls Try.prog 22 #[.pointer (some ⟨p, 0, none⟩), sv a c, sv a2 c2, cv ⟨k, o, r, b, g, u⟩] w fun x w' => x = .returned (.int .i64 e) ∧ Cs w0 w' (wide O w w') p s t m (M.chiS S (a, c) (a2, c2) ⟨k, o, r, b, g, u⟩) (M.chiF S f (a, c) (a2, c2) ⟨k, o, r, b, g, u⟩) ∧ Fr O w w' := by
  obtain ⟨e1, h1⟩ : ∃ e1, M.endE S (a, c) (a2, c2) = e1 := ⟨_, rfl⟩
  obtain ⟨⟨k1, o1, r1, b1, g1, u1⟩, hd⟩ : ∃ d, M.endC S (a, c) (a2, c2) = d := ⟨_, rfl⟩
  obtain ⟨v, hv⟩ : ∃ v, (e1 != 0) = v := ⟨_, rfl⟩
  have hw0 := h.gr.size
  have hlo := h.lo
  have HH := hideIt h
  clear h
  go_enter Try.func22, Try.ntmps22
  go_upto_region 1 with fail
  obtain ⟨W, hW, X0, X1, X2, g0⟩ := slots2Box w a c a2 c2 ⟨k, o, r, b, g, u⟩
  try simp only at hW
  rw [hW]
  clear hW
  have HW := hideIt ((Wy.start HH.out).kept g0)
  have HX : Hid (SB W O w.heap.size a c) := ⟨X0, (Wy.start HH.out).out (by omega)⟩
  have HY : Hid (SB W O (w.heap.size + 1) a2 c2) := ⟨X1, (Wy.start HH.out).out (by omega)⟩
  have HB : Hid (BB W O (w.heap.size + 2) ⟨k, o, r, b, g, u⟩) := ⟨X2, (Wy.start HH.out).out (by omega)⟩
  clear X0 X1 X2 g0
  obtain ⟨x0, x1⟩ := HX.out.sb.tup
  obtain ⟨y0, y1⟩ := HY.out.sb.tup
  go_wp2_with fail
  refine (HW.out.cs.ends (a, c) (a2, c2) ha ha2 _ _ hd h1).mono ?_
  rintro _ w1 ⟨rfl, g1'⟩
  clear x0 x1 y0 y1
  go_upto_region 2 with fail
  obtain ⟨W2, hW2, Z2, g2⟩ := boxNew w1 ⟨k1, o1, r1, b1, g1, u1⟩
  simp only at hW2
  rw [hW2]
  clear hW2 Z2
  have HW' := hideIt (HW.out.kept (gbTrans g1' g2))
  have HX' := hideIt (HX.out.kept (gbTrans g1' g2))
  have HY' := hideIt (HY.out.kept (gbTrans g1' g2))
  have HB' := hideIt (HB.out.kept (gbTrans g1' g2))
  clear HW HX HY HB g1' g2
  cases v
  · have z1 : e1 = 0 := by simpa using hv
    subst z1
    have he2 : M.putE S a2 c2 ⟨k, o, r, b, g, u⟩ = e := by unfold M.chiE at he; rw [if_pos h1] at he; exact he
    obtain ⟨v2, hv2⟩ : ∃ v, (e != 0) = v := ⟨_, rfl⟩
    have HE := hideIt he
    clear he
    go_upto_region 4 with fail
    have T0 : Ptr W2.drew p 0 s ∧ Two W2.drew (w.heap.size + 1) a2 c2 ∧ Six W2.drew (w.heap.size + 2) ⟨k, o, r, b, g, u⟩ := ⟨(HW'.out.kept (gbDrewN W2 1 none)).cs.c0, (HY'.out.kept (gbDrewN W2 1 none)).sb.tup, (HB'.out.kept (gbDrewN W2 1 none)).bx.tup⟩
    go_region_held3 (fun w' => Ptr w' p 0 s ∧ Two w' (w.heap.size + 1) a2 c2 ∧ Six w' (w.heap.size + 2) ⟨k, o, r, b, g, u⟩)
      (first | with_reducible exact T0 | with_reducible exact T1 | fail)
      ((first | (go_at_call 30; refine ((HW'.out.kept (gbDrewN W2 1 none)).cs.put a2 c2 k o r b g u e ha2 hb hg he2).mono ?_; rintro _ u1 ⟨rfl, A1, F1⟩; have HW1 := hideIt ((HW'.out.kept (gbDrewN W2 1 none)).call A1 F1); have HX_1 := hideIt ((HX'.out.kept (gbDrewN W2 1 none)).call F1); have HY_1 := hideIt ((HY'.out.kept (gbDrewN W2 1 none)).call F1); have HB_1 := hideIt ((HB'.out.kept (gbDrewN W2 1 none)).call F1); have T1 : Ptr u1 p 0 s ∧ Two u1 (w.heap.size + 1) a2 c2 ∧ Six u1 (w.heap.size + 2) ⟨k, o, r, b, g, u⟩ := ⟨HW1.out.cs.c0, HY_1.out.sb.tup, HB_1.out.bx.tup⟩; clear A1 F1) | fail))
    clear T0 T1
    cases v2
    · have e0 : e = 0 := by simpa using hv2
      subst e0
      go_upto_region 7 with fail
      have T0 : Ptr u1.drew p 1 t ∧ Two u1.drew w.heap.size a c ∧ Two u1.drew (w.heap.size + 1) a2 c2 := ⟨(HW1.out.kept (gbDrewN u1 1 none)).cs.c1, (HX_1.out.kept (gbDrewN u1 1 none)).sb.tup, (HY_1.out.kept (gbDrewN u1 1 none)).sb.tup⟩
      go_region_held3 (fun w' => Ptr w' p 1 t ∧ Two w' w.heap.size a c ∧ Two w' (w.heap.size + 1) a2 c2)
        (first | with_reducible exact T0 | with_reducible exact T1 | fail)
        ((first | (go_at_call 45; refine ((HW1.out.kept (gbDrewN u1 1 none)).cs.child a c a2 c2 0 ha hc ha2 hc2 hm (M.chi_child I h1)).mono ?_; rintro _ u2 ⟨rfl, A2, F2⟩; have HW2 := hideIt ((HW1.out.kept (gbDrewN u1 1 none)).call A2 F2); have HX_2 := hideIt ((HX_1.out.kept (gbDrewN u1 1 none)).call F2); have HY_2 := hideIt ((HY_1.out.kept (gbDrewN u1 1 none)).call F2); have HB_2 := hideIt ((HB_1.out.kept (gbDrewN u1 1 none)).call F2); have T1 : Ptr u2 p 1 t ∧ Two u2 w.heap.size a c ∧ Two u2 (w.heap.size + 1) a2 c2 := ⟨HW2.out.cs.c1, HX_2.out.sb.tup, HY_2.out.sb.tup⟩; clear A2 F2) | fail))
      clear T0 T1
      go_wp2
      go_ret
      have E := HW2.out.fin hw0 hlo
      unfold M.chiS M.chiF
      rw [if_pos HE.out, if_pos HE.out]
      rw [M.putS_up (x := (a2, c2)) he2] at E
      exact ⟨rfl, E.1, E.2⟩
    · have e0 : e ≠ 0 := by simpa using hv2
      go_wp2
      go_ret
      have E := HW1.out.fin hw0 hlo
      unfold M.chiS M.chiF
      rw [if_neg (by rw [HE.out]; exact e0), if_neg (by rw [HE.out]; exact e0)]
      unfold M.putS at E
      rw [if_neg (by rw [he2]; exact e0)] at E
      exact ⟨rfl, E.1, E.2⟩
  · have z1 : e1 ≠ 0 := by simpa using hv
    have ee : e1 = e := by unfold M.chiE at he; rw [if_neg (by rw [h1]; exact z1), h1] at he; exact he
    subst ee
    have HE := hideIt he
    clear he
    go_wp2
    go_ret
    have E := HW'.out.fin hw0 hlo
    unfold M.chiS M.chiF
    rw [if_neg (by rw [HE.out]; exact z1), if_neg (by rw [HE.out]; exact z1)]
    exact ⟨rfl, E.1, E.2⟩

end Go.Proofs.Ytkpcdfiebjigbaa
