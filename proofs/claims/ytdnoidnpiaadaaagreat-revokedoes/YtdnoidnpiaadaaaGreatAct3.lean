/-
  THE CONTRACTS of package moves: Mint, Copy, Move, Mutate (written by mkact3.py).
-/
import Derived.Test.YtdnoidnpiaadaaaGreatG18
namespace Go.Proofs.YtdnoidnpiaadaaaGreat
set_option maxRecDepth 10000
open Go.RowKit
set_option linter.unusedVariables false

theorem Box.gn {w : World} {x : Nat} {k o r b g n : Int} (h : Box w x ⟨k, o, r, b, g, n⟩) (g' n' : Int) : ∃ W, (w.setCell ⟨x, 4, none⟩ (.int .u64 g')).setCell ⟨x, 5, none⟩ (.int .i64 n') = W ∧ Box W x ⟨k, o, r, b, g', n'⟩ ∧ w.grownBy W (some x) := by
  obtain ⟨a0, a1, a2, a3, a4, a5, lt, fr⟩ := h
  refine ⟨_, rfl, ⟨?_, ?_, ?_, ?_, ?_, ?_, ?_, ?_⟩, gbTrans (gbSetCell _ _ _ _) (gbSetCell _ _ _ _)⟩
  · exact (World.cell?_setCell_other _ _ _ _ (by simp)).trans ((World.cell?_setCell_other _ _ _ _ (by simp)).trans a0)
  · exact (World.cell?_setCell_other _ _ _ _ (by simp)).trans ((World.cell?_setCell_other _ _ _ _ (by simp)).trans a1)
  · exact (World.cell?_setCell_other _ _ _ _ (by simp)).trans ((World.cell?_setCell_other _ _ _ _ (by simp)).trans a2)
  · exact (World.cell?_setCell_other _ _ _ _ (by simp)).trans ((World.cell?_setCell_other _ _ _ _ (by simp)).trans a3)
  · exact (World.cell?_setCell_other _ _ _ _ (by simp)).trans (World.cell?_setCell_same _ _ _ a4)
  · exact World.cell?_setCell_same _ _ _ ((World.cell?_setCell_other _ _ _ _ (by simp)).trans a5)
  · simpa [World.setCell] using lt
  · intro i; simpa using fr i

set_option maxHeartbeats 2000000 in
theorem Cs.mint {w0 w : World} {O : Nat → Prop} {p s t m : Nat} {S : St} {f : T9.Fo} (h : Cs w0 w O p s t m S f) (I : M.Inv S f) (a c a2 c2 rt bd gd bt e : Int) (ha : I64 a) (hc : I64 c) (ha2 : I64 a2) (hc2 : I64 c2) (hbd : 0 ≤ bd) (hgd : 0 ≤ gd) (hm : f.len ≤ 1000) (he : M.minE S (a, c) (a2, c2) rt bd gd bt = e) :
    Calls Tryz.prog 39 #[.pointer (some ⟨p, 0, none⟩), sv a c, sv a2 c2, .int .i64 rt, .int .u64 bd, .int .u64 gd, .int .i64 bt] w fun x w' => x = .returned (.int .i64 e) ∧ Cs w0 w' (wide O w w') p s t m (M.minS S (a, c) (a2, c2) rt bd gd bt) (M.minF S f (a, c) (a2, c2) rt bd gd bt) ∧ Fr O w w' := by
  obtain ⟨e1, h1⟩ : ∃ e1, M.endE S (a, c) (a2, c2) = e1 := ⟨_, rfl⟩
  obtain ⟨⟨k1, o1, r1, b1, g1, u1⟩, hd⟩ : ∃ d, M.endC S (a, c) (a2, c2) = d := ⟨_, rfl⟩
  obtain ⟨v, hv⟩ : ∃ v, (e1 != 0) = v := ⟨_, rfl⟩
  have hw0 := h.gr.size
  have hlo := h.lo
  have hgs := hideIt h.gs
  have HH := hideIt h
  clear h
  go_enter Tryz.func39, Tryz.ntmps39
  go_upto_region 1 with fail
  obtain ⟨W, hW, X0, X1, g0⟩ := slots2 w a c a2 c2
  rw [hW]
  clear hW
  have HW := hideIt ((Wy.start HH.out).kept g0)
  have HX : Hid (SB W O w.heap.size a c) := ⟨X0, (Wy.start HH.out).out (by omega)⟩
  have HY : Hid (SB W O (w.heap.size + 1) a2 c2) := ⟨X1, (Wy.start HH.out).out (by omega)⟩
  clear X0 X1 g0
  obtain ⟨x0, x1⟩ := HX.out.sb.tup
  obtain ⟨y0, y1⟩ := HY.out.sb.tup
  go_wp2_with fail
  refine (HW.out.cs.ends (a, c) (a2, c2) ha ha2 _ _ hd h1).mono ?_
  rintro _ w1 ⟨rfl, g1'⟩
  clear x0 x1 y0 y1
  go_upto_region 2 with fail
  obtain ⟨W2, hW2, Z2, g2⟩ := boxNew w1 ⟨k1, o1, r1, b1, g1, u1⟩
  simp only at hW2
  rw [hW2]
  clear hW2
  have HB : Hid (BB W2 O w1.heap.size ⟨k1, o1, r1, b1, g1, u1⟩) := ⟨Z2, (HW.out.kept g1').out (by omega)⟩
  have hZw : Hid (w.heap.size ≤ w1.heap.size) := Nat.le_trans HW.out.fr.size g1'.size
  have hXw : Hid (w.heap.size < w1.heap.size) := Nat.lt_of_lt_of_le HX.out.sb.lt g1'.size
  have hYw : Hid (w.heap.size + 1 < w1.heap.size) := Nat.lt_of_lt_of_le HY.out.sb.lt g1'.size
  have HW' := hideIt (HW.out.kept (gbTrans g1' g2))
  have HX' := hideIt (HX.out.kept (gbTrans g1' g2))
  have HY' := hideIt (HY.out.kept (gbTrans g1' g2))
  clear HW HX HY g1' g2 Z2
  cases v
  · have z1 : e1 = 0 := by simpa using hv
    subst z1
    have hcS : M.gc S (a, c) = ⟨k1, o1, r1, b1, g1, u1⟩ := by unfold M.endC at hd; rw [if_pos h1] at hd; exact hd
    have nn := I.nn (a, c)
    rw [hcS] at nn
    obtain ⟨nb, ng⟩ := nn
    simp only at nb ng
    obtain ⟨⟨k2, o2, r2, b2, g2, u2⟩, e2, hdr⟩ : ∃ d e2, M.drv ⟨k1, o1, r1, b1, g1, u1⟩ rt bd gd bt = (d, e2) := ⟨_, _, rfl⟩
    have ee : e2 = e := by unfold M.minE at he; rw [if_pos h1, hcS, hdr] at he; exact he
    subst ee
    obtain ⟨v2, hv2⟩ : ∃ v, (e2 != 0) = v := ⟨_, rfl⟩
    have HE := hideIt he
    clear he
    obtain ⟨z0, z1, z2, z3, z4, z5⟩ := HB.out.bx.tup
    simp only at z0 z1 z2 z3 z4 z5
    go_wp2_with fail
    refine (derive_is k1 o1 r1 b1 g1 u1 rt bd gd bt ⟨k2, o2, r2, b2, g2, u2⟩ e2 nb ng hbd hgd hdr _).mono ?_
    rintro _ w3 ⟨rfl, g3⟩
    clear z0 z1 z2 z3 z4 z5
    go_upto_region 5 with fail
    obtain ⟨W4, hW4, Z4, g4⟩ := boxNew w3 ⟨k2, o2, r2, b2, g2, u2⟩
    simp only at hW4
    rw [hW4]
    clear hW4
    have HW4 := hideIt (HW'.out.kept (gbTrans g3 g4))
    have HX4 := hideIt (HX'.out.kept (gbTrans g3 g4))
    have HY4 := hideIt (HY'.out.kept (gbTrans g3 g4))
    have HZ4 := hideIt Z4
    clear HW' HX' HY' HB g3 g4 Z4
    cases v2
    · have e0 : e2 = 0 := by simpa using hv2
      subst e0
      obtain ⟨x0, x1⟩ := HX4.out.sb.tup
      obtain ⟨y0, y1⟩ := HY4.out.sb.tup
      obtain ⟨z0, z1, z2, z3, z4, z5⟩ := HZ4.out.tup
      simp only at z0 z1 z2 z3 z4 z5
      have hdn := M.drv_nonneg (c := ⟨k1, o1, r1, b1, g1, u1⟩) nb ng hbd hgd hdr
      have hch : M.chiE S (a, c) (a2, c2) ⟨k2, o2, r2, b2, g2, u2⟩ = 0 := M.min_chi I hgs.out h1 (by rw [hcS]; exact hdr)
      go_wp2_with fail
      refine (HW4.out.cs.childA I a c a2 c2 k2 o2 r2 b2 g2 u2 0 ha hc ha2 hc2 hdn.1 hdn.2 hm hch).mono ?_
      rintro _ w5 ⟨rfl, A5, F5⟩
      have HW5 := hideIt (HW4.out.call A5 F5)
      clear A5 F5 x0 x1 y0 y1 z0 z1 z2 z3 z4 z5
      go_wp2
      go_ret
      have E := HW5.out.fin hw0 hlo
      unfold M.minS M.minF
      rw [if_pos HE.out, if_pos HE.out, hcS, hdr]
      unfold M.chiS M.chiF at E
      rw [if_pos hch, if_pos hch] at E
      exact ⟨rfl, E.1, E.2⟩
    · have e0 : e2 ≠ 0 := by simpa using hv2
      go_wp2
      go_ret
      have E := HW4.out.fin hw0 hlo
      unfold M.minS M.minF
      rw [if_neg (by rw [HE.out]; exact e0), if_neg (by rw [HE.out]; exact e0)]
      exact ⟨rfl, E.1, E.2⟩
  · have z1 : e1 ≠ 0 := by simpa using hv
    have ee : e1 = e := by unfold M.minE at he; rw [if_neg (by rw [h1]; exact z1), h1] at he; exact he
    subst ee
    have HE := hideIt he
    clear he
    go_wp2
    go_ret
    have E := HW'.out.fin hw0 hlo
    unfold M.minS M.minF
    rw [if_neg (by rw [HE.out]; exact z1), if_neg (by rw [HE.out]; exact z1)]
    exact ⟨rfl, E.1, E.2⟩

set_option maxHeartbeats 2000000 in
theorem Cs.moveA {w0 w : World} {O : Nat → Prop} {p s t m : Nat} {S : St} {f : T9.Fo} (h : Cs w0 w O p s t m S f) (I : M.Inv S f) (a c a2 c2 e : Int) (ha : I64 a) (hc : I64 c) (ha2 : I64 a2) (hc2 : I64 c2) (hm : f.len ≤ 1000) (he : M.endE S (a, c) (a2, c2) = e) :
    Calls Tryz.prog 41 #[.pointer (some ⟨p, 0, none⟩), sv a c, sv a2 c2] w fun x w' => x = .returned (.int .i64 e) ∧ Cs w0 w' (wide O w w') p s t m (M.movS S (a, c) (a2, c2)) (M.movF S f (a, c) (a2, c2)) ∧ Fr O w w' := by
  obtain ⟨e1, h1⟩ : ∃ e1, M.endE S (a, c) (a2, c2) = e1 := ⟨_, rfl⟩
  obtain ⟨⟨k1, o1, r1, b1, g1, u1⟩, hd⟩ : ∃ d, M.endC S (a, c) (a2, c2) = d := ⟨_, rfl⟩
  obtain ⟨v, hv⟩ : ∃ v, (e1 != 0) = v := ⟨_, rfl⟩
  have hw0 := h.gr.size
  have hlo := h.lo
  have hgs := hideIt h.gs
  have HH := hideIt h
  clear h
  go_enter Tryz.func41, Tryz.ntmps41
  go_upto_region 1 with fail
  obtain ⟨W, hW, X0, X1, g0⟩ := slots2 w a c a2 c2
  rw [hW]
  clear hW
  have HW := hideIt ((Wy.start HH.out).kept g0)
  have HX : Hid (SB W O w.heap.size a c) := ⟨X0, (Wy.start HH.out).out (by omega)⟩
  have HY : Hid (SB W O (w.heap.size + 1) a2 c2) := ⟨X1, (Wy.start HH.out).out (by omega)⟩
  clear X0 X1 g0
  obtain ⟨x0, x1⟩ := HX.out.sb.tup
  obtain ⟨y0, y1⟩ := HY.out.sb.tup
  go_wp2_with fail
  refine (HW.out.cs.ends (a, c) (a2, c2) ha ha2 _ _ hd h1).mono ?_
  rintro _ w1 ⟨rfl, g1'⟩
  clear x0 x1 y0 y1
  go_upto_region 2 with fail
  obtain ⟨W2, hW2, Z2, g2⟩ := boxNew w1 ⟨k1, o1, r1, b1, g1, u1⟩
  simp only at hW2
  rw [hW2]
  clear hW2
  have HB : Hid (BB W2 O w1.heap.size ⟨k1, o1, r1, b1, g1, u1⟩) := ⟨Z2, (HW.out.kept g1').out (by omega)⟩
  have hZw : Hid (w.heap.size ≤ w1.heap.size) := Nat.le_trans HW.out.fr.size g1'.size
  have hXw : Hid (w.heap.size < w1.heap.size) := Nat.lt_of_lt_of_le HX.out.sb.lt g1'.size
  have hYw : Hid (w.heap.size + 1 < w1.heap.size) := Nat.lt_of_lt_of_le HY.out.sb.lt g1'.size
  have HW' := hideIt (HW.out.kept (gbTrans g1' g2))
  have HX' := hideIt (HX.out.kept (gbTrans g1' g2))
  have HY' := hideIt (HY.out.kept (gbTrans g1' g2))
  clear HW HX HY g1' g2 Z2
  cases v
  · have z1 : e1 = 0 := by simpa using hv
    subst z1
    have hcS : M.gc S (a, c) = ⟨k1, o1, r1, b1, g1, u1⟩ := by unfold M.endC at hd; rw [if_pos h1] at hd; exact hd
    have nn := I.nn (a, c)
    rw [hcS] at nn
    obtain ⟨nb, ng⟩ := nn
    simp only at nb ng
    have ee : 0 = e := by rw [h1] at he; exact he
    subst ee
    clear he
    have hck := M.gc_chk hgs.out (a, c)
    have hkn := (M.srcE_ok (M.endE_ok h1).1).2
    rw [hcS] at hck hkn
    obtain ⟨x0, x1⟩ := HX'.out.sb.tup
    obtain ⟨y0, y1⟩ := HY'.out.sb.tup
    obtain ⟨z0, z1, z2, z3, z4, z5⟩ := HB.out.bx.tup
    simp only at z0 z1 z2 z3 z4 z5
    go_wp2_with fail
    refine (HW'.out.cs.carry I a c a2 c2 k1 o1 r1 b1 g1 u1 ha hc ha2 hc2 nb ng hm h1 hck hkn).mono ?_
    rintro _ w5 ⟨rfl, A5, F5⟩
    have HW5 := hideIt (HW'.out.call A5 F5)
    clear A5 F5 x0 x1 y0 y1 z0 z1 z2 z3 z4 z5
    go_wp2
    go_ret
    have E := HW5.out.fin hw0 hlo
    unfold M.movS M.movF
    rw [if_pos h1, if_pos h1, hcS]
    exact ⟨rfl, E.1, E.2⟩
  · have z1 : e1 ≠ 0 := by simpa using hv
    have ee : e1 = e := h1.symm.trans he
    subst ee
    have HE := hideIt he
    clear he
    go_wp2
    go_ret
    have E := HW'.out.fin hw0 hlo
    unfold M.movS M.movF
    rw [if_neg (by rw [HE.out]; exact z1), if_neg (by rw [HE.out]; exact z1)]
    exact ⟨rfl, E.1, E.2⟩

set_option maxHeartbeats 2000000 in
theorem Cs.mutate {w0 w : World} {O : Nat → Prop} {p s t m : Nat} {S : St} {f : T9.Fo} (h : Cs w0 w O p s t m S f) (I : M.Inv S f) (a c a2 c2 gd bt e : Int) (ha : I64 a) (hc : I64 c) (ha2 : I64 a2) (hc2 : I64 c2) (hgd : 0 ≤ gd) (hm : f.len ≤ 1000) (he : M.mutE S (a, c) (a2, c2) gd bt = e) :
    Calls Tryz.prog 43 #[.pointer (some ⟨p, 0, none⟩), sv a c, sv a2 c2, .int .u64 gd, .int .i64 bt] w fun x w' => x = .returned (.int .i64 e) ∧ Cs w0 w' (wide O w w') p s t m (M.mutS S (a, c) (a2, c2) gd bt) (M.mutF S f (a, c) (a2, c2) gd bt) ∧ Fr O w w' := by
  obtain ⟨e1, h1⟩ : ∃ e1, M.endE S (a, c) (a2, c2) = e1 := ⟨_, rfl⟩
  obtain ⟨⟨k1, o1, r1, b1, g1, u1⟩, hd⟩ : ∃ d, M.endC S (a, c) (a2, c2) = d := ⟨_, rfl⟩
  obtain ⟨v, hv⟩ : ∃ v, (e1 != 0) = v := ⟨_, rfl⟩
  have hw0 := h.gr.size
  have hlo := h.lo
  have hgs := hideIt h.gs
  have HH := hideIt h
  clear h
  go_enter Tryz.func43, Tryz.ntmps43
  go_upto_region 1 with fail
  obtain ⟨W, hW, X0, X1, g0⟩ := slots2 w a c a2 c2
  rw [hW]
  clear hW
  have HW := hideIt ((Wy.start HH.out).kept g0)
  have HX : Hid (SB W O w.heap.size a c) := ⟨X0, (Wy.start HH.out).out (by omega)⟩
  have HY : Hid (SB W O (w.heap.size + 1) a2 c2) := ⟨X1, (Wy.start HH.out).out (by omega)⟩
  clear X0 X1 g0
  obtain ⟨x0, x1⟩ := HX.out.sb.tup
  obtain ⟨y0, y1⟩ := HY.out.sb.tup
  go_wp2_with fail
  refine (HW.out.cs.ends (a, c) (a2, c2) ha ha2 _ _ hd h1).mono ?_
  rintro _ w1 ⟨rfl, g1'⟩
  clear x0 x1 y0 y1
  go_upto_region 2 with fail
  obtain ⟨W2, hW2, Z2, g2⟩ := boxNew w1 ⟨k1, o1, r1, b1, g1, u1⟩
  simp only at hW2
  rw [hW2]
  clear hW2
  have HB : Hid (BB W2 O w1.heap.size ⟨k1, o1, r1, b1, g1, u1⟩) := ⟨Z2, (HW.out.kept g1').out (by omega)⟩
  have hZw : Hid (w.heap.size ≤ w1.heap.size) := Nat.le_trans HW.out.fr.size g1'.size
  have hXw : Hid (w.heap.size < w1.heap.size) := Nat.lt_of_lt_of_le HX.out.sb.lt g1'.size
  have hYw : Hid (w.heap.size + 1 < w1.heap.size) := Nat.lt_of_lt_of_le HY.out.sb.lt g1'.size
  have HW' := hideIt (HW.out.kept (gbTrans g1' g2))
  have HX' := hideIt (HX.out.kept (gbTrans g1' g2))
  have HY' := hideIt (HY.out.kept (gbTrans g1' g2))
  clear HW HX HY g1' g2 Z2
  cases v
  · have z1 : e1 = 0 := by simpa using hv
    subst z1
    have hcS : M.gc S (a, c) = ⟨k1, o1, r1, b1, g1, u1⟩ := by unfold M.endC at hd; rw [if_pos h1] at hd; exact hd
    have nn := I.nn (a, c)
    rw [hcS] at nn
    obtain ⟨nb, ng⟩ := nn
    simp only at nb ng
    have hck := M.gc_chk hgs.out (a, c)
    rw [hcS] at hck
    obtain ⟨v2, hv2⟩ : ∃ v, (k1 != 2) = v := ⟨_, rfl⟩
    obtain ⟨z0, z1, z2, z3, z4, z5⟩ := HB.out.bx.tup
    simp only at z0 z1 z2 z3 z4 z5
    have f4 := HB.out.bx.fr 4
    have f5 := HB.out.bx.fr 5
    cases v2
    · have k2 : k1 = 2 := by simpa using hv2
      subst k2
      have hq := M.mut_chk (gd := gd) (bt := bt) hck rfl
      have ee : (if M.grd gd bt then 0 else 10) = e := by unfold M.mutE at he; rw [if_pos h1, hcS, if_pos rfl] at he; exact he
      rw [ee] at hq
      obtain ⟨v3, hv3⟩ : ∃ v, (e != 0) = v := ⟨_, rfl⟩
      have HE := hideIt he
      clear he ee
      go_upto_region 7 with fail
      obtain ⟨W4, hW4, Z4, g4⟩ := HB.out.bx.gn gd bt
      rw [hW4]
      clear hW4 z0 z1 z2 z3 z4 z5 f4 f5
      have HW4 := hideIt (HW'.out.keep g4 HB.out.no hZw.out hw0)
      have HX4 := hideIt (HX'.out.keep g4 (Nat.ne_of_lt hXw.out))
      have HY4 := hideIt (HY'.out.keep g4 (Nat.ne_of_lt hYw.out))
      have HZ4 : Hid (BB W4 O w1.heap.size ⟨2, o1, r1, b1, gd, bt⟩) := ⟨Z4, HB.out.no⟩
      clear HW' HX' HY' HB g4 Z4
      obtain ⟨z0, z1, z2, z3, z4, z5⟩ := HZ4.out.bx.tup
      simp only at z0 z1 z2 z3 z4 z5
      go_wp2_with fail
      refine (check_is 2 o1 r1 b1 gd bt e nb hgd hq _).mono ?_
      rintro _ w5 ⟨rfl, g5⟩
      clear z0 z1 z2 z3 z4 z5
      have HW5 := hideIt (HW4.out.kept g5)
      have HX5 := hideIt (HX4.out.kept g5)
      have HY5 := hideIt (HY4.out.kept g5)
      have HZ5 := hideIt (HZ4.out.kept g5)
      clear HW4 HX4 HY4 HZ4 g5
      cases v3
      · have e0 : e = 0 := by simpa using hv3
        subst e0
        obtain ⟨x0, x1⟩ := HX5.out.sb.tup
        obtain ⟨y0, y1⟩ := HY5.out.sb.tup
        obtain ⟨z0, z1, z2, z3, z4, z5⟩ := HZ5.out.bx.tup
        simp only at z0 z1 z2 z3 z4 z5
        go_wp2_with fail
        refine (HW5.out.cs.carry I a c a2 c2 2 o1 r1 b1 gd bt ha hc ha2 hc2 nb hgd hm h1 hq (by decide)).mono ?_
        rintro _ w6 ⟨rfl, A6, F6⟩
        have HW6 := hideIt (HW5.out.call A6 F6)
        clear A6 F6 x0 x1 y0 y1 z0 z1 z2 z3 z4 z5
        go_wp2
        go_ret
        have E := HW6.out.fin hw0 hlo
        unfold M.mutS M.mutF
        rw [if_pos HE.out, if_pos HE.out, hcS]
        exact ⟨rfl, E.1, E.2⟩
      · have e0 : e ≠ 0 := by simpa using hv3
        go_wp2
        go_ret
        have E := HW5.out.fin hw0 hlo
        unfold M.mutS M.mutF
        rw [if_neg (by rw [HE.out]; exact e0), if_neg (by rw [HE.out]; exact e0)]
        exact ⟨rfl, E.1, E.2⟩
    · have k2 : k1 ≠ 2 := by simpa using hv2
      have ee : 2 = e := by unfold M.mutE at he; rw [if_pos h1, hcS, if_neg k2] at he; exact he
      subst ee
      have HE := hideIt he
      clear he
      go_wp2
      go_ret
      have E := HW'.out.fin hw0 hlo
      unfold M.mutS M.mutF
      rw [if_neg (by rw [HE.out]; decide), if_neg (by rw [HE.out]; decide)]
      exact ⟨rfl, E.1, E.2⟩
  · have z1 : e1 ≠ 0 := by simpa using hv
    have ee : e1 = e := by unfold M.mutE at he; rw [if_neg (by rw [h1]; exact z1), h1] at he; exact he
    subst ee
    have HE := hideIt he
    clear he
    go_wp2
    go_ret
    have E := HW'.out.fin hw0 hlo
    unfold M.mutS M.mutF
    rw [if_neg (by rw [HE.out]; exact z1), if_neg (by rw [HE.out]; exact z1)]
    exact ⟨rfl, E.1, E.2⟩

set_option maxHeartbeats 2000000 in
theorem Cs.copy {w0 w : World} {O : Nat → Prop} {p s t m : Nat} {S : St} {f : T9.Fo} (h : Cs w0 w O p s t m S f) (I : M.Inv S f) (a c a2 c2 rt e : Int) (ha : I64 a) (hc : I64 c) (ha2 : I64 a2) (hc2 : I64 c2) (hm : f.len ≤ 1000) (he : M.copE S (a, c) (a2, c2) rt = e) :
    Calls Tryz.prog 37 #[.pointer (some ⟨p, 0, none⟩), sv a c, sv a2 c2, .int .i64 rt] w fun x w' => x = .returned (.int .i64 e) ∧ Cs w0 w' (wide O w w') p s t m (M.copS S (a, c) (a2, c2) rt) (M.copF S f (a, c) (a2, c2) rt) ∧ Fr O w w' := by
  obtain ⟨⟨k1, o1, r1, b1, g1, u1⟩, hd⟩ : ∃ d, M.gc S (a, c) = d := ⟨_, rfl⟩
  obtain ⟨e1, h1⟩ : ∃ e1, M.getE S a c = e1 := ⟨_, rfl⟩
  have hnn := (I.nn (a, c)).2
  unfold M.copS M.copF
  unfold M.copE at he
  rw [hd] at he hnn ⊢
  simp only at he hnn ⊢
  have hw0 := h.gr.size
  have hlo := h.lo
  have hgs := hideIt h.gs
  have HH := hideIt h
  clear h
  go_enter Tryz.func37, Tryz.ntmps37
  go_upto_region 1 with fail
  obtain ⟨W, hW, X0, X1, g0⟩ := slots2 w a c a2 c2
  rw [hW]
  clear hW
  have HW := hideIt ((Wy.start HH.out).kept g0)
  have HX : Hid (SB W O w.heap.size a c) := ⟨X0, (Wy.start HH.out).out (by omega)⟩
  have HY : Hid (SB W O (w.heap.size + 1) a2 c2) := ⟨X1, (Wy.start HH.out).out (by omega)⟩
  clear X0 X1 g0
  have HG : gGet W s a c ⟨k1, o1, r1, b1, g1, u1⟩ e1 := fun V g => (HW.out.cs.kept g).get a c _ _ _ _ _ _ _ ha hd h1
  go_cut [9, 10] (fun s6 s7 wc => ∃ Z : Nat, s6 = .pointer (some ⟨Z, 0, none⟩) ∧ s7 = .int .i64 e1 ∧ Hid (Box wc Z ⟨k1, o1, r1, b1, g1, u1⟩) ∧ Hid (W.grownBy wc none))
  case first =>
    have T0b : Rd3 W p 0 s w.heap.size a c := ⟨HW.out.cs.c0, HX.out.sb.at0, HX.out.sb.at1⟩
    have T0 : Rd3 W.drew p 0 s w.heap.size a c := T0b.kept (gbDrew (gbRefl W none))
    go_region_held3 (fun w' => Rd3 w' p 0 s w.heap.size a c)
      (first | with_reducible exact T0 | (refine Rd3.kept T0b ?_; repeat (first | with_reducible exact G2 | with_reducible exact gbRefl W none | with_reducible refine gbDrew ?_ | with_reducible refine gbAllocN ?_ _ | with_reducible refine gbSetNew ?_ _ _ _ (by with_reducible first | exact Nat.le_refl _ | exact G2.size))) | fail)
      ((first | (go_at_call 51; refine (HG _ (by repeat (first | with_reducible exact gbRefl W none | with_reducible refine gbDrew ?_ | with_reducible refine gbAllocN ?_ _))).mono ?_; rintro _ v1 ⟨rfl, g5⟩; have hc3 := gcell g5; have hf3 := gfroz g5; have G2 : W.grownBy v1 none := (by first | exact gbTrans (gbDrewN W 1 none) g5 | exact gbTrans (gbDrew (gbAllocN (gbRefl W none) _)) g5)) | fail))
    · rename_i hold
      clear hold T0
      obtain ⟨W6, hW6, Z6, g6⟩ := boxNew v1 ⟨k1, o1, r1, b1, g1, u1⟩
      simp only at hW6
      rw [hW6]
      go_wp2
      go_meet
      exact ⟨_, rfl, rfl, Z6, gbTrans G2 g6⟩
    · rename_i hold
      clear hold T0
      have Z0 : Box v1 W.heap.size C.zero := ((Box.made W C.zero).kept (gbDrew (gbRefl _ none))).kept g5
      obtain ⟨W6, hW6, Z6, g6⟩ := Z0.put ⟨k1, o1, r1, b1, g1, u1⟩
      simp only at hW6
      rw [hW6]
      have G7 := gbNew (gbTrans (gbAny G2 _) g6) (Nat.le_refl _)
      go_wp2
      go_meet
      exact ⟨_, rfl, rfl, Z6, G7⟩
  case rest =>
    obtain ⟨Z, rfl, rfl, HZ, GG⟩ := hcut
    obtain ⟨z0, z1, z2, z3, z4, z5⟩ := HZ.out.tup
    simp only at z0 z1 z2 z3 z4 z5
    obtain ⟨x0, x1⟩ := (HX.out.kept GG.out).sb.tup
    obtain ⟨y0, y1⟩ := (HY.out.kept GG.out).sb.tup
    go_wp2_with fail
    refine ((HW.out.kept GG.out).cs.mint I a c a2 c2 rt 0 g1 u1 e ha hc ha2 hc2 (Int.le_refl 0) hnn hm he).mono ?_
    rintro _ w5 ⟨rfl, A5, F5⟩
    have HW5 := hideIt ((HW.out.kept GG.out).call A5 F5)
    clear A5 F5 x0 x1 y0 y1 z0 z1 z2 z3 z4 z5
    go_wp2
    go_ret
    have E := HW5.out.fin hw0 hlo
    exact ⟨rfl, E.1, E.2⟩

end Go.Proofs.YtdnoidnpiaadaaaGreat
