/-
  THE CONTRACT of package moves' Rotate (written by mkact5.py).
-/
import Derived.Test.YtkpcdfiebjigbaaAct4
namespace Go.Proofs.Ytkpcdfiebjigbaa
set_option maxRecDepth 10000
open Go.RowKit
set_option linter.unusedVariables false

theorem seq_iff {a b c d : Int} : T9.M.seq a b c d = true ↔ ((a, b) : Int × Int) = (c, d) := by unfold T9.M.seq; simp
theorem seq_no {a b c d : Int} : T9.M.seq a b c d = false ↔ ((a, b) : Int × Int) ≠ (c, d) := by rw [Ne, ← seq_iff]; cases T9.M.seq a b c d <;> simp

set_option maxHeartbeats 4000000 in
theorem Cs.rotate {w0 w : World} {O : Nat → Prop} {p s t m : Nat} {S : St} {f : T9.Fo} (h : Cs w0 w O p s t m S f) (I : M.Inv S f) (a c a2 c2 a3 c3 e : Int) (ha : I64 a) (hc : I64 c) (ha2 : I64 a2) (hc2 : I64 c2) (ha3 : I64 a3) (hc3 : I64 c3) (hm : f.len ≤ 1000) (he : M.rotE S (a, c) (a2, c2) (a3, c3) = e) :
    Calls Try.prog 14 #[.pointer (some ⟨p, 0, none⟩), sv a c, sv a2 c2, sv a3 c3] w fun x w' => x = .returned (.int .i64 e) ∧ Cs w0 w' (wide O w w') p s t m (M.rotS S (a, c) (a2, c2) (a3, c3)) (M.rotF S f (a, c) (a2, c2) (a3, c3)) ∧ Fr O w w' := by
  obtain ⟨e1, h1⟩ : ∃ e1, M.srcE S (a2, c2) = e1 := ⟨_, rfl⟩
  obtain ⟨⟨k1, o1, r1, b1, g1, u1⟩, d1⟩ : ∃ d, M.srcC S (a2, c2) = d := ⟨_, rfl⟩
  obtain ⟨e2, h2⟩ : ∃ e1, M.srcE S (a3, c3) = e1 := ⟨_, rfl⟩
  obtain ⟨⟨k2, o2, r2, b2, g2, u2⟩, d2⟩ : ∃ d, M.srcC S (a3, c3) = d := ⟨_, rfl⟩
  obtain ⟨e3, h3⟩ : ∃ e1, M.plcE S (a, c) = e1 := ⟨_, rfl⟩
  obtain ⟨v1, s1⟩ : ∃ v, T9.M.seq a2 c2 a c = v := ⟨_, rfl⟩
  obtain ⟨v2, s2⟩ : ∃ v, T9.M.seq a2 c2 a3 c3 = v := ⟨_, rfl⟩
  obtain ⟨v3, s3⟩ : ∃ v, T9.M.seq a c a3 c3 = v := ⟨_, rfl⟩
  obtain ⟨w1, n1⟩ : ∃ v, (e1 != 0) = v := ⟨_, rfl⟩
  obtain ⟨w2, n2⟩ : ∃ v, (e2 != 0) = v := ⟨_, rfl⟩
  obtain ⟨w3, n3⟩ : ∃ v, (e3 != 0) = v := ⟨_, rfl⟩
  have HE := hideIt he
  clear he
  have qe := T9.run_eql_slots
  have qn := T9.run_neq_slots
  have qg := T9.eqGuardSlots
  have hw0 := h.gr.size
  have hlo := h.lo
  have HH := hideIt h
  clear h
  go_enter Try.func14, Try.ntmps14
  go_upto_region 1 with fail
  obtain ⟨W, hW, X0, X1, X2, g0⟩ := slots3 w a c a2 c2 a3 c3
  rw [hW]
  clear hW
  have HW := hideIt ((Wy.start HH.out).kept g0)
  have HX : Hid (SB W O w.heap.size a c) := ⟨X0, (Wy.start HH.out).out (by omega)⟩
  have HY : Hid (SB W O (w.heap.size + 1) a2 c2) := ⟨X1, (Wy.start HH.out).out (by omega)⟩
  have HV : Hid (SB W O (w.heap.size + 2) a3 c3) := ⟨X2, (Wy.start HH.out).out (by omega)⟩
  clear X0 X1 X2 g0
  obtain ⟨x0, x1⟩ := HX.out.sb.tup
  obtain ⟨y0, y1⟩ := HY.out.sb.tup
  obtain ⟨z0, z1⟩ := HV.out.sb.tup
  by_cases hor : (v1 || v2) = true
  · have r10 : M.rotE S (a, c) (a2, c2) (a3, c3) = 10 := by
      unfold M.rotE
      rw [if_pos]
      rcases Bool.or_eq_true_iff.1 hor with k | k
      · exact .inl (seq_iff.1 (s1.trans k))
      · exact .inr (seq_iff.1 (s2.trans k))
    have ee : e = 10 := HE.out.symm.trans r10
    subst ee
    cases v1
    · cases v2
      · cases hor
      · clear hor
        go_wp2
        go_ret
        have E := HW.out.fin hw0 hlo
        have ne : M.rotE S (a, c) (a2, c2) (a3, c3) ≠ 0 := by rw [r10]; decide
        unfold M.rotS M.rotF
        rw [if_neg ne, if_neg ne]
        exact ⟨rfl, E.1, E.2⟩
    · clear hor
      go_wp2
      go_ret
      have E := HW.out.fin hw0 hlo
      have ne : M.rotE S (a, c) (a2, c2) (a3, c3) ≠ 0 := by rw [r10]; decide
      unfold M.rotS M.rotF
      rw [if_neg ne, if_neg ne]
      exact ⟨rfl, E.1, E.2⟩
  · obtain ⟨rfl, rfl⟩ : v1 = false ∧ v2 = false := by cases v1 <;> cases v2 <;> simp at hor <;> exact ⟨rfl, rfl⟩
    clear hor
    have p1 := seq_no.1 s1
    have p2 := seq_no.1 s2
    have r1' : M.rotE S (a, c) (a2, c2) (a3, c3) = if e1 = 0 then (if e2 = 0 then (if ((a, c) : Int × Int) = (a3, c3) then 0 else e3) else e2) else e1 := by
      unfold M.rotE
      rw [if_neg (fun k => k.elim p1 p2), h1, h2, h3]
    have HR := hideIt (HE.out.symm.trans r1')
    clear r1' p1 p2
    go_wp2_with fail
    refine (HW.out.cs.src (a2, c2) ha2 _ _ d1 h1).mono ?_
    rintro _ wa ⟨rfl, ga⟩
    clear x0 x1 y0 y1 z0 z1
    go_upto_region 4 with fail
    obtain ⟨W2, hW2, Z2, gb⟩ := boxNew wa ⟨k1, o1, r1, b1, g1, u1⟩
    simp only at hW2
    rw [hW2]
    clear hW2 Z2
    have HW1 := hideIt (HW.out.kept (gbTrans ga gb))
    have HX1 := hideIt (HX.out.kept (gbTrans ga gb))
    have HY1 := hideIt (HY.out.kept (gbTrans ga gb))
    have HV1 := hideIt (HV.out.kept (gbTrans ga gb))
    clear HW HX HY HV ga gb
    cases w1
    · have z1 : e1 = 0 := by simpa using n1
      subst z1
      rw [if_pos rfl] at HR
      obtain ⟨z0, z1⟩ := HV1.out.sb.tup
      go_wp2_with fail
      refine (HW1.out.cs.src (a3, c3) ha3 _ _ d2 h2).mono ?_
      rintro _ wb ⟨rfl, ga⟩
      clear z0 z1
      go_upto_region 7 with fail
      obtain ⟨W3, hW3, Z3, gb⟩ := boxNew wb ⟨k2, o2, r2, b2, g2, u2⟩
      simp only at hW3
      rw [hW3]
      clear hW3 Z3
      have HW2 := hideIt (HW1.out.kept (gbTrans ga gb))
      have HX2 := hideIt (HX1.out.kept (gbTrans ga gb))
      have HY2 := hideIt (HY1.out.kept (gbTrans ga gb))
      have HV2 := hideIt (HV1.out.kept (gbTrans ga gb))
      clear HW1 HX1 HY1 HV1 ga gb
      cases w2
      · have z1 : e2 = 0 := by simpa using n2
        subst z1
        rw [if_pos rfl] at HR
        obtain ⟨x0, x1⟩ := HX2.out.sb.tup
        obtain ⟨z0, z1⟩ := HV2.out.sb.tup
        cases v3
        · rw [if_neg (seq_no.1 s3)] at HR
          have ee : e3 = e := HR.out.symm
          subst ee
          go_wp2_with fail
          refine (HW2.out.cs.plc (a, c) ha _ h3).mono ?_
          rintro _ wd ⟨rfl, ga⟩
          clear x0 x1 z0 z1
          have HW3 := hideIt (HW2.out.kept ga)
          have HX3 := hideIt (HX2.out.kept ga)
          have HY3 := hideIt (HY2.out.kept ga)
          have HV3 := hideIt (HV2.out.kept ga)
          clear HW2 HX2 HY2 HV2 ga
          cases w3
          · have z1 : e3 = 0 := by simpa using n3
            subst z1
            obtain ⟨x0, x1⟩ := HX3.out.sb.tup
            obtain ⟨z0, z1⟩ := HV3.out.sb.tup
            obtain ⟨y0, y1⟩ := HY3.out.sb.tup
            go_wp2_with fail
            refine (HW3.out.cs.turn I a c a2 c2 a3 c3 ha hc ha2 hc2 ha3 hc3 hm HE.out).mono ?_
            rintro _ wf ⟨rfl, A9, F9⟩
            have HW9 := hideIt (HW3.out.call A9 F9)
            clear A9 F9 x0 x1 y0 y1 z0 z1
            go_wp2
            go_ret
            have E := HW9.out.fin hw0 hlo
            exact ⟨rfl, E.1, E.2⟩
          · have z1 : e3 ≠ 0 := by simpa using n3
            go_wp2
            go_ret
            have E := HW3.out.fin hw0 hlo
            have ne : M.rotE S (a, c) (a2, c2) (a3, c3) ≠ 0 := by rw [HE.out]; exact z1
            unfold M.rotS M.rotF
            rw [if_neg ne, if_neg ne]
            exact ⟨rfl, E.1, E.2⟩
        · rw [if_pos (seq_iff.1 s3)] at HR
          have ee : e = 0 := HR.out
          subst ee
          obtain ⟨y0, y1⟩ := HY2.out.sb.tup
          go_wp2_with fail
          refine (HW2.out.cs.turn I a c a2 c2 a3 c3 ha hc ha2 hc2 ha3 hc3 hm HE.out).mono ?_
          rintro _ wf ⟨rfl, A9, F9⟩
          have HW9 := hideIt (HW2.out.call A9 F9)
          clear A9 F9 x0 x1 y0 y1 z0 z1
          go_wp2
          go_ret
          have E := HW9.out.fin hw0 hlo
          exact ⟨rfl, E.1, E.2⟩
      · have z1 : e2 ≠ 0 := by simpa using n2
        rw [if_neg z1] at HR
        have ee : e2 = e := HR.out.symm
        subst ee
        go_wp2
        go_ret
        have E := HW2.out.fin hw0 hlo
        have ne : M.rotE S (a, c) (a2, c2) (a3, c3) ≠ 0 := by rw [HE.out]; exact z1
        unfold M.rotS M.rotF
        rw [if_neg ne, if_neg ne]
        exact ⟨rfl, E.1, E.2⟩
    · have z1 : e1 ≠ 0 := by simpa using n1
      rw [if_neg z1] at HR
      have ee : e1 = e := HR.out.symm
      subst ee
      go_wp2
      go_ret
      have E := HW1.out.fin hw0 hlo
      have ne : M.rotE S (a, c) (a2, c2) (a3, c3) ≠ 0 := by rw [HE.out]; exact z1
      unfold M.rotS M.rotF
      rw [if_neg ne, if_neg ne]
      exact ⟨rfl, E.1, E.2⟩

end Go.Proofs.Ytkpcdfiebjigbaa
