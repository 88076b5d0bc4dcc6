/- CapLess (5.3): for every capability and whatever is asked for twice, what is derived is right, weaker than what it is of, and of the same kind and object; derived once more it is weaker still; what is refused is nothing. No condition. -/
import Derived.Test.YtkgjcolimceogaaBoxes
import Derived.Test.YtkgjcolimceogaaArgs
import Derived.ProofKit
import Derived.OpenShut
import Derived.ShutString
import Derived.ChangeOld
import Derived.Below
import Derived.Deep.Slices
namespace Go.Proofs.Ytkgjcolimceogaa.capLess
open Go.ChangeShapes Go.WideShapes Go.ChangeAt Go.RowKit
set_option linter.unusedVariables false

theorem own : ownKnob Try.prog.godebug = none := by kernel_rfl
theorem laidOut : laidOutB Try.prog = true := by kernel_rfl

/- Refused: nothing. -/
set_option maxHeartbeats 2000000 in
theorem less_no (k o r b g n r0 b0 g0 n0 r1 b1 g1 n1 : Int) (f : Int) (hf : (f != 0) = true)
    (HD : ∀ w, Calls Try.prog 15 #[cv ⟨k, o, r, b, g, n⟩, .int .i64 r0, .int .u64 b0, .int .u64 g0, .int .i64 n0] w fun e w' => e = .returned (.tuple #[cv C.zero, .int .i64 f]) ∧ w.grownBy w' none) (w : World) :
    Calls Try.prog 6 #[cv ⟨k, o, r, b, g, n⟩, av r0 b0 g0 n0, av r1 b1 g1 n1] w fun e w' => e = .returned (.bool true) ∧ w.grownBy w' none := by
  have qe := eqGuardCap
  have qn := run_eql_cap
  go_enter Try.func6, Try.ntmps6
  go_upto_region 1 with fail
  obtain ⟨W0, hW0, XC, XA, XB, G0⟩ := boxesCAA w ⟨k, o, r, b, g, n⟩ r0 b0 g0 n0 r1 b1 g1 n1
  simp only at hW0
  rw [hW0]
  clear hW0
  go_wp2_with fail
  refine (works_any _).mono ?_
  rintro e w1 ⟨rfl, g1'⟩
  replace XC := XC.kept g1'
  replace XA := XA.kept g1'
  replace XB := XB.kept g1'
  have G1 := gbTrans G0 g1'
  clear G0 g1'
  obtain ⟨a0, a1, a2, a3, a4, a5, _, _⟩ := id XC
  obtain ⟨e0, e1, e2, e3, _⟩ := XA
  go_wp2_with fail
  refine (HD _).mono ?_
  rintro e w2 ⟨rfl, g2⟩
  clear a0 a1 a2 a3 a4 a5 e0 e1 e2 e3
  go_upto_region 4 with fail
  obtain ⟨W2, hW2, XD, h2⟩ := boxNew w2 C.zero
  simp only at hW2
  rw [hW2]
  clear hW2
  replace XC := (XC.kept g2).kept h2
  replace XB := (XB.kept g2).kept h2
  have G2 := gbTrans (gbTrans G1 g2) h2
  clear G1 g2 h2
  have hz : M.eq C.zero C.zero = true := M.eq_refl _
  obtain ⟨d0, d1, d2, d3, d4, d5, _, _⟩ := XD
  go_wp2
  go_ret
  exact ⟨rfl, G2⟩

/- Derived, and no more. -/
set_option maxHeartbeats 2000000 in
theorem less_one (k o r b g n r0 b0 g0 n0 r1 b1 g1 n1 : Int) (dr db dg dn x0 x1 x2 x3 x4 x5 f : Int) (hf : (f != 0) = true)
    (HD : ∀ w, Calls Try.prog 15 #[cv ⟨k, o, r, b, g, n⟩, .int .i64 r0, .int .u64 b0, .int .u64 g0, .int .i64 n0] w fun e w' => e = .returned (.tuple #[cv ⟨k, o, dr, db, dg, dn⟩, .int .i64 0]) ∧ w.grownBy w' none)
    (HE : ∀ w, Calls Try.prog 15 #[cv ⟨k, o, dr, db, dg, dn⟩, .int .i64 r1, .int .u64 b1, .int .u64 g1, .int .i64 n1] w fun e w' => e = .returned (.tuple #[cv ⟨x0, x1, x2, x3, x4, x5⟩, .int .i64 f]) ∧ w.grownBy w' none)
    (HC : ∀ w, Calls Try.prog 13 #[cv ⟨k, o, dr, db, dg, dn⟩] w fun e w' => e = .returned (.int .i64 0) ∧ w.grownBy w' none)
    (HP : ∀ w, Calls Try.prog 17 #[cv ⟨k, o, dr, db, dg, dn⟩, cv ⟨k, o, r, b, g, n⟩] w fun e w' => e = .returned (.bool true) ∧ w.grownBy w' none) (w : World) :
    Calls Try.prog 6 #[cv ⟨k, o, r, b, g, n⟩, av r0 b0 g0 n0, av r1 b1 g1 n1] w fun e w' => e = .returned (.bool true) ∧ w.grownBy w' none := by
  have qe := eqGuardCap
  have qn := run_eql_cap
  go_enter Try.func6, Try.ntmps6
  go_upto_region 1 with fail
  obtain ⟨W0, hW0, XC, XA, XB, G0⟩ := boxesCAA w ⟨k, o, r, b, g, n⟩ r0 b0 g0 n0 r1 b1 g1 n1
  simp only at hW0
  rw [hW0]
  clear hW0
  go_wp2_with fail
  refine (works_any _).mono ?_
  rintro e w1 ⟨rfl, g1'⟩
  replace XC := XC.kept g1'
  replace XA := XA.kept g1'
  replace XB := XB.kept g1'
  have G1 := gbTrans G0 g1'
  clear G0 g1'
  obtain ⟨a0, a1, a2, a3, a4, a5, _, _⟩ := id XC
  obtain ⟨e0, e1, e2, e3, _⟩ := XA
  go_wp2_with fail
  refine (HD _).mono ?_
  rintro e w2 ⟨rfl, g2⟩
  clear a0 a1 a2 a3 a4 a5 e0 e1 e2 e3
  go_upto_region 4 with fail
  obtain ⟨W2, hW2, XD, h2⟩ := boxNew w2 ⟨k, o, dr, db, dg, dn⟩
  simp only at hW2
  rw [hW2]
  clear hW2
  replace XC := (XC.kept g2).kept h2
  replace XB := (XB.kept g2).kept h2
  have G2 := gbTrans (gbTrans G1 g2) h2
  clear G1 g2 h2
  obtain ⟨d0, d1, d2, d3, d4, d5, _, _⟩ := id XD
  obtain ⟨e0, e1, e2, e3, _⟩ := XB
  go_wp2_with fail
  refine (HE _).mono ?_
  rintro e w3 ⟨rfl, g3⟩
  clear d0 d1 d2 d3 d4 d5 e0 e1 e2 e3
  go_upto_region 7 with fail
  obtain ⟨W3, hW3, XX, h3⟩ := boxNew w3 ⟨x0, x1, x2, x3, x4, x5⟩
  simp only at hW3
  rw [hW3]
  clear hW3
  replace XC := (XC.kept g3).kept h3
  replace XD := (XD.kept g3).kept h3
  have G3 := gbTrans (gbTrans G2 g3) h3
  clear G2 g3 h3
  obtain ⟨d0, d1, d2, d3, d4, d5, _, _⟩ := id XD
  go_wp2_with fail
  refine (HC _).mono ?_
  rintro e w4 ⟨rfl, g4⟩
  clear d0 d1 d2 d3 d4 d5
  replace XC := XC.kept g4
  replace XD := XD.kept g4
  replace XX := XX.kept g4
  have G4 := gbTrans G3 g4
  clear G3 g4
  obtain ⟨d0, d1, d2, d3, d4, d5, _, _⟩ := id XD
  obtain ⟨a0, a1, a2, a3, a4, a5, _, _⟩ := id XC
  go_wp2_with fail
  refine (HP _).mono ?_
  rintro e w5 ⟨rfl, g5⟩
  clear a0 a1 a2 a3 a4 a5 d0 d1 d2 d3 d4 d5
  replace XC := XC.kept g5
  replace XD := XD.kept g5
  replace XX := XX.kept g5
  have G5 := gbTrans G4 g5
  clear G4 g5
  obtain ⟨d0, d1, d2, d3, d4, d5, _, _⟩ := id XD
  obtain ⟨a0, a1, a2, a3, a4, a5, _, _⟩ := id XC
  obtain ⟨y0, y1, y2, y3, y4, y5, _, _⟩ := id XX
  go_wp2
  go_ret
  exact ⟨rfl, G5⟩

/- Derived once more. -/
set_option maxHeartbeats 2000000 in
theorem less_two (k o r b g n r0 b0 g0 n0 r1 b1 g1 n1 : Int) (dr db dg dn x0 x1 x2 x3 x4 x5 : Int)
    (HD : ∀ w, Calls Try.prog 15 #[cv ⟨k, o, r, b, g, n⟩, .int .i64 r0, .int .u64 b0, .int .u64 g0, .int .i64 n0] w fun e w' => e = .returned (.tuple #[cv ⟨k, o, dr, db, dg, dn⟩, .int .i64 0]) ∧ w.grownBy w' none)
    (HE : ∀ w, Calls Try.prog 15 #[cv ⟨k, o, dr, db, dg, dn⟩, .int .i64 r1, .int .u64 b1, .int .u64 g1, .int .i64 n1] w fun e w' => e = .returned (.tuple #[cv ⟨x0, x1, x2, x3, x4, x5⟩, .int .i64 0]) ∧ w.grownBy w' none)
    (HC : ∀ w, Calls Try.prog 13 #[cv ⟨k, o, dr, db, dg, dn⟩] w fun e w' => e = .returned (.int .i64 0) ∧ w.grownBy w' none)
    (HP : ∀ w, Calls Try.prog 17 #[cv ⟨k, o, dr, db, dg, dn⟩, cv ⟨k, o, r, b, g, n⟩] w fun e w' => e = .returned (.bool true) ∧ w.grownBy w' none)
    (HQ : ∀ w, Calls Try.prog 17 #[cv ⟨x0, x1, x2, x3, x4, x5⟩, cv ⟨k, o, dr, db, dg, dn⟩] w fun e w' => e = .returned (.bool true) ∧ w.grownBy w' none)
    (HR : ∀ w, Calls Try.prog 17 #[cv ⟨x0, x1, x2, x3, x4, x5⟩, cv ⟨k, o, r, b, g, n⟩] w fun e w' => e = .returned (.bool true) ∧ w.grownBy w' none) (w : World) :
    Calls Try.prog 6 #[cv ⟨k, o, r, b, g, n⟩, av r0 b0 g0 n0, av r1 b1 g1 n1] w fun e w' => e = .returned (.bool true) ∧ w.grownBy w' none := by
  have qe := eqGuardCap
  have qn := run_eql_cap
  go_enter Try.func6, Try.ntmps6
  go_upto_region 1 with fail
  obtain ⟨W0, hW0, XC, XA, XB, G0⟩ := boxesCAA w ⟨k, o, r, b, g, n⟩ r0 b0 g0 n0 r1 b1 g1 n1
  simp only at hW0
  rw [hW0]
  clear hW0
  go_wp2_with fail
  refine (works_any _).mono ?_
  rintro e w1 ⟨rfl, g1'⟩
  replace XC := XC.kept g1'
  replace XA := XA.kept g1'
  replace XB := XB.kept g1'
  have G1 := gbTrans G0 g1'
  clear G0 g1'
  obtain ⟨a0, a1, a2, a3, a4, a5, _, _⟩ := id XC
  obtain ⟨e0, e1, e2, e3, _⟩ := XA
  go_wp2_with fail
  refine (HD _).mono ?_
  rintro e w2 ⟨rfl, g2⟩
  clear a0 a1 a2 a3 a4 a5 e0 e1 e2 e3
  go_upto_region 4 with fail
  obtain ⟨W2, hW2, XD, h2⟩ := boxNew w2 ⟨k, o, dr, db, dg, dn⟩
  simp only at hW2
  rw [hW2]
  clear hW2
  replace XC := (XC.kept g2).kept h2
  replace XB := (XB.kept g2).kept h2
  have G2 := gbTrans (gbTrans G1 g2) h2
  clear G1 g2 h2
  obtain ⟨d0, d1, d2, d3, d4, d5, _, _⟩ := id XD
  obtain ⟨e0, e1, e2, e3, _⟩ := XB
  go_wp2_with fail
  refine (HE _).mono ?_
  rintro e w3 ⟨rfl, g3⟩
  clear d0 d1 d2 d3 d4 d5 e0 e1 e2 e3
  go_upto_region 7 with fail
  obtain ⟨W3, hW3, XX, h3⟩ := boxNew w3 ⟨x0, x1, x2, x3, x4, x5⟩
  simp only at hW3
  rw [hW3]
  clear hW3
  replace XC := (XC.kept g3).kept h3
  replace XD := (XD.kept g3).kept h3
  have G3 := gbTrans (gbTrans G2 g3) h3
  clear G2 g3 h3
  obtain ⟨d0, d1, d2, d3, d4, d5, _, _⟩ := id XD
  go_wp2_with fail
  refine (HC _).mono ?_
  rintro e w4 ⟨rfl, g4⟩
  clear d0 d1 d2 d3 d4 d5
  replace XC := XC.kept g4
  replace XD := XD.kept g4
  replace XX := XX.kept g4
  have G4 := gbTrans G3 g4
  clear G3 g4
  obtain ⟨d0, d1, d2, d3, d4, d5, _, _⟩ := id XD
  obtain ⟨a0, a1, a2, a3, a4, a5, _, _⟩ := id XC
  go_wp2_with fail
  refine (HP _).mono ?_
  rintro e w5 ⟨rfl, g5⟩
  clear a0 a1 a2 a3 a4 a5 d0 d1 d2 d3 d4 d5
  replace XC := XC.kept g5
  replace XD := XD.kept g5
  replace XX := XX.kept g5
  have G5 := gbTrans G4 g5
  clear G4 g5
  obtain ⟨d0, d1, d2, d3, d4, d5, _, _⟩ := id XD
  obtain ⟨a0, a1, a2, a3, a4, a5, _, _⟩ := id XC
  obtain ⟨y0, y1, y2, y3, y4, y5, _, _⟩ := id XX
  go_wp2_with fail
  refine (HQ _).mono ?_
  rintro e w6 ⟨rfl, g6⟩
  clear a0 a1 a2 a3 a4 a5 d0 d1 d2 d3 d4 d5 y0 y1 y2 y3 y4 y5
  replace XC := XC.kept g6
  replace XX := XX.kept g6
  have G6 := gbTrans G5 g6
  clear G5 g6
  obtain ⟨a0, a1, a2, a3, a4, a5, _, _⟩ := id XC
  obtain ⟨y0, y1, y2, y3, y4, y5, _, _⟩ := id XX
  go_wp2_with fail
  refine (HR _).mono ?_
  rintro e w7 ⟨rfl, g7⟩
  go_wp2
  go_ret
  exact ⟨rfl, gbTrans G6 g7⟩

theorem walk (k o r b g n : Int) (ub : U64 b) (ug : U64 g) (r0 b0 g0 n0 : Int) (ub0 : U64 b0) (ug0 : U64 g0) (r1 b1 g1 n1 : Int) (ub1 : U64 b1) (ug1 : U64 g1) (w : World) :
    Calls Try.prog 6 #[cv ⟨k, o, r, b, g, n⟩, av r0 b0 g0 n0, av r1 b1 g1 n1] w fun e w' => e = .returned (.bool true) ∧ Below w.heap.size w w' := by
  refine endWalk ?_
  obtain ⟨⟨d, f⟩, hd⟩ : ∃ p, M.drv ⟨k, o, r, b, g, n⟩ r0 b0 g0 n0 = p := ⟨_, rfl⟩
  have HD := fun w => derive_is k o r b g n r0 b0 g0 n0 d f ub.1 ug.1 ub0.1 ug0.1 hd w
  have hn := M.drv_nonneg (c := ⟨k, o, r, b, g, n⟩) ub.1 ug.1 ub0.1 ug0.1 hd
  by_cases hf : f = 0
  · subst hf
    have hr := M.drv_right (c := ⟨k, o, r, b, g, n⟩) ug.1 hd
    have hl := M.drv_less (c := ⟨k, o, r, b, g, n⟩) ug.1 hd
    have hfd := M.drv_fields hd
    obtain ⟨dk, dz, dr, db, dg, dn⟩ := d
    have e1 : k = dk := hfd.1.symm
    have e2 : o = dz := hfd.2.1.symm
    subst e1 e2
    clear hfd
    simp only at hn
    obtain ⟨⟨x, f'⟩, hx⟩ : ∃ p, M.drv ⟨k, o, dr, db, dg, dn⟩ r1 b1 g1 n1 = p := ⟨_, rfl⟩
    have HE := fun w => derive_is k o dr db dg dn r1 b1 g1 n1 x f' hn.1 hn.2 ub1.1 ug1.1 hx w
    have hm := M.drv_nonneg (c := ⟨k, o, dr, db, dg, dn⟩) hn.1 hn.2 ub1.1 ug1.1 hx
    have HC := fun w => check_is k o dr db dg dn 0 hn.1 hn.2 hr w
    have HP := fun w => weaker_is k o dr db dg dn k o r b g n true hn.1 hn.2 ub.1 ug.1 hl w
    obtain ⟨x0, x1, x2, x3, x4, x5⟩ := x
    simp only at hm
    by_cases hf' : f' = 0
    · subst hf'
      have hl2 := M.drv_less (c := ⟨k, o, dr, db, dg, dn⟩) hn.2 hx
      have hl3 := M.wkr_trans hl2 hl
      exact less_two k o r b g n r0 b0 g0 n0 r1 b1 g1 n1 dr db dg dn x0 x1 x2 x3 x4 x5 HD HE HC HP (fun w => weaker_is x0 x1 x2 x3 x4 x5 k o dr db dg dn true hm.1 hm.2 hn.1 hn.2 hl2 w) (fun w => weaker_is x0 x1 x2 x3 x4 x5 k o r b g n true hm.1 hm.2 ub.1 ug.1 hl3 w) w
    · exact less_one k o r b g n r0 b0 g0 n0 r1 b1 g1 n1 dr db dg dn x0 x1 x2 x3 x4 x5 f' (by simpa using hf') HD HE HC HP w
  · have hz := M.drv_none hd hf
    subst hz
    exact less_no k o r b g n r0 b0 g0 n0 r1 b1 g1 n1 f (by simpa using hf) HD w

set_option maxRecDepth 100000 in
theorem lifted (os : Os) (started : os.Started) (H : Type) (enc : TypeId × Value → H) :
    ReturnsInHanded {} Try.checked os 6 .any (Rows.capLessSpec.pre6 enc Try.prog Try.f6 Rows.capLessRow.domain false) (Rows.capLessSpec.post enc Try.prog Try.f6 false true false false) := by
  refine returnsInHanded_of_change (C := Try.checked) own started (by kernel_rfl) Try.func6
    (ChangeSpec.witness6 (enc := enc) (C := Try.checked) false ⟨#[], #[.agg #[.int .i64 0, .int .i64 0, .int .i64 0, .int .u64 0, .int .u64 0, .int .i64 0], .agg #[.int .i64 0, .int .u64 0, .int .u64 0, .int .i64 0], .agg #[.int .i64 0, .int .u64 0, .int .u64 0, .int .i64 0]], []⟩ 8 (by kernel_rfl) (by kernel_rfl) (by kernel_rfl) (by kernel_rfl)) ?_
  intro W base args ds gs before hval0 hW hcnd _
  have hval : ∀ (j : Nat) t v, Try.f6.params[j]? = some t → args[j]? = some v → Value.okWide Try.prog W .any base t v := hval0
  have hW' := hW
  obtain ⟨p, q, hA0, hV, rfl, hfz, hnd⟩ := hW
  have hA : DataW.TrodAll enc Try.prog W 0 (fun _ => true) true Try.f6.params.toList args.toList ds p := hA0
  rw [Try.params6] at hA hval
  obtain ⟨v0, vs0, d0, ds0, p0, q0, hargs, rfl, rfl, h0, r0⟩ := trodAll_cons hA
  obtain ⟨v1, vs1, d1, ds1, p1, q1, rfl, rfl, rfl, h1, r1⟩ := trodAll_cons r0
  obtain ⟨v2, vs2, d2, ds2, p2, q2, rfl, rfl, rfl, h2, r2⟩ := trodAll_cons r1
  obtain ⟨rfl, rfl, rfl⟩ := trodAll_nil r2
  obtain rfl : args = #[v0, v1, v2] := by cases args; simp_all
  obtain ⟨rfl, rfl⟩ := trodVars_none hV
  obtain ⟨K0, O0, R0, B0, G0, N0, rfl, ub0, ug0⟩ := capArg (hval 0 24 v0 rfl rfl) h0
  have k0 := h0
  have lt0 : ∀ x ∈ p0, x.block < W.heap.size := by obtain ⟨m, hm⟩ := k0; exact DataW.trod_lt m _ _ _ hm
  obtain ⟨R1, B1, G1, N1, rfl, ub1, ug1⟩ := askArg (hval 1 33 v1 rfl rfl) h1
  have k1 := h1
  have lt1 : ∀ x ∈ p1, x.block < W.heap.size := by obtain ⟨m, hm⟩ := k1; exact DataW.trod_lt m _ _ _ hm
  obtain ⟨R2, B2, G2, N2, rfl, ub2, ug2⟩ := askArg (hval 2 33 v2 rfl rfl) h2
  have k2 := h2
  have lt2 : ∀ x ∈ p2, x.block < W.heap.size := by obtain ⟨m, hm⟩ := k2; exact DataW.trod_lt m _ _ _ hm
  clear hA0 hval0
  refine (walk K0 O0 R0 B0 G0 N0 ub0 ug0 R1 B1 G1 N1 ub1 ug1 R2 B2 G2 N2 ub2 ug2 W).mono fun e W' ⟨he, bel⟩ => ?_
  subst he
  exact ⟨_, rfl, _, _, _, [], _, [], hW', trodAll_mk1 (shut_bool Try.underlying4 _), (trodAll_cons_mk (Below.trod laidOut (by kernel_rfl) (of_decide_eq_true (by kernel_rfl)) k0 bel lt0) (trodAll_cons_mk (Below.trod laidOut (by kernel_rfl) (of_decide_eq_true (by kernel_rfl)) k1 bel lt1) (trodAll_cons_mk (Below.trod laidOut (by kernel_rfl) (of_decide_eq_true (by kernel_rfl)) k2 bel lt2) trodAll_mk0))), rfl, bel.frame _, fun h => by cases h⟩

theorem over : Rows.capLessRow.holds Try.pinned (OpenSpec.ofChange Rows.capLessSpec) :=
  OpenClaim.holds_of_wide 6 Try.f6 rfl rfl rfl rfl rfl rfl rfl ⟨rfl, rfl, rfl, rfl, rfl⟩ rfl rfl rfl rfl rfl (by kernel_rfl) Try.func6 (by kernel_rfl)
    (of_decide_eq_true (by kernel_rfl)) (by unfold Func.isWrapper; first | (rw [if_pos (by decide +kernel)]; kernel_rfl) | (rw [if_neg (by decide +kernel)]; exact ⟨rfl, rfl⟩))
    (fun os started H enc _ => lifted os started H enc)

theorem proved : Rows.CapLessSaid := over
end Go.Proofs.Ytkgjcolimceogaa.capLess
namespace Go.Proofs.Ytkgjcolimceogaa
theorem capLess_holds : Rows.CapLessSaid := capLess.proved
#print axioms capLess_holds
end Go.Proofs.Ytkgjcolimceogaa
