/- CapDerives (5.2): for every two capabilities and whatever is asked for, Derive and Weaker answer as the document's own definition does. No condition. -/
import Derived.Test.YtkgjcolimceogaaBoxes
import Derived.Test.YtkgjcolimceogaaRder
import Derived.Test.YtkgjcolimceogaaArgs
import Derived.ProofKit
import Derived.OpenShut
import Derived.ShutString
import Derived.ChangeOld
import Derived.Below
import Derived.Deep.Slices
namespace Go.Proofs.Ytkgjcolimceogaa.capDerives
open Go.ChangeShapes Go.WideShapes Go.ChangeAt Go.RowKit
set_option linter.unusedVariables false

theorem own : ownKnob Try.prog.godebug = none := by kernel_rfl
theorem laidOut : laidOutB Try.prog = true := by kernel_rfl

set_option maxHeartbeats 2000000 in
theorem inner (k o r b g n k' o' r' b' g' n' r1 b1 g1 n1 d0 d1 d2 d3 d4 d5 f : Int) (v : Bool)
    (HD : ∀ w, Calls Try.prog 15 #[cv ⟨k, o, r, b, g, n⟩, .int .i64 r1, .int .u64 b1, .int .u64 g1, .int .i64 n1] w fun e w' => e = .returned (.tuple #[cv ⟨d0, d1, d2, d3, d4, d5⟩, .int .i64 f]) ∧ w.grownBy w' none)
    (HE : ∀ w, Calls Try.prog 16 #[cv ⟨k, o, r, b, g, n⟩, .int .i64 r1, .int .u64 b1, .int .u64 g1, .int .i64 n1] w fun e w' => e = .returned (.tuple #[cv ⟨d0, d1, d2, d3, d4, d5⟩, .int .i64 f]) ∧ w.grownBy w' none)
    (HW : ∀ w, Calls Try.prog 17 #[cv ⟨k, o, r, b, g, n⟩, cv ⟨k', o', r', b', g', n'⟩] w fun e w' => e = .returned (.bool v) ∧ w.grownBy w' none)
    (HV : ∀ w, Calls Try.prog 18 #[cv ⟨k, o, r, b, g, n⟩, cv ⟨k', o', r', b', g', n'⟩] w fun e w' => e = .returned (.bool v) ∧ w.grownBy w' none) (w : World) :
    Calls Try.prog 4 #[cv ⟨k, o, r, b, g, n⟩, cv ⟨k', o', r', b', g', n'⟩, av r1 b1 g1 n1] w fun e w' => e = .returned (.bool true) ∧ w.grownBy w' none := by
  have qe := eqGuardCap
  have qn := run_eql_cap
  have he : M.eq ⟨d0, d1, d2, d3, d4, d5⟩ ⟨d0, d1, d2, d3, d4, d5⟩ = true := M.eq_refl _
  go_enter Try.func4, Try.ntmps4
  go_upto_region 1 with fail
  obtain ⟨W0, hW0, X, Y, Z, G0⟩ := boxesCCA w ⟨k, o, r, b, g, n⟩ ⟨k', o', r', b', g', n'⟩ r1 b1 g1 n1
  simp only at hW0
  rw [hW0]
  clear hW0
  obtain ⟨a0, a1, a2, a3, a4, a5, _, _⟩ := id X
  obtain ⟨e0, e1, e2, e3, _⟩ := id Z
  go_wp2_with fail
  refine (HD _).mono ?_
  rintro e w1 ⟨rfl, h1⟩
  clear a0 a1 a2 a3 a4 a5 e0 e1 e2 e3
  go_upto_region 2 with fail
  obtain ⟨W2, hW2, P, h2⟩ := boxNew w1 ⟨d0, d1, d2, d3, d4, d5⟩
  simp only at hW2
  rw [hW2]
  clear hW2
  replace X := (X.kept h1).kept h2
  replace Y := (Y.kept h1).kept h2
  replace Z := (Z.kept h1).kept h2
  have G2 := gbTrans (gbTrans G0 h1) h2
  clear G0 h1 h2
  obtain ⟨a0, a1, a2, a3, a4, a5, _, _⟩ := id X
  obtain ⟨e0, e1, e2, e3, _⟩ := id Z
  go_wp2_with fail
  refine (HE _).mono ?_
  rintro e w3 ⟨rfl, h3⟩
  clear a0 a1 a2 a3 a4 a5 e0 e1 e2 e3
  go_upto_region 3 with fail
  obtain ⟨W4, hW4, Q, h4⟩ := boxNew w3 ⟨d0, d1, d2, d3, d4, d5⟩
  simp only at hW4
  rw [hW4]
  clear hW4
  replace X := (X.kept h3).kept h4
  replace Y := (Y.kept h3).kept h4
  replace P := (P.kept h3).kept h4
  have G4 := gbTrans (gbTrans G2 h3) h4
  clear G2 h3 h4 Z
  obtain ⟨a0, a1, a2, a3, a4, a5⟩ := X.all
  obtain ⟨y0, y1, y2, y3, y4, y5⟩ := Y.all
  obtain ⟨z0, z1, z2, z3, z4, z5⟩ := P.all
  obtain ⟨u0, u1, u2, u3, u4, u5⟩ := Q.all
  simp only at a0 a1 a2 a3 a4 a5 y0 y1 y2 y3 y4 y5 z0 z1 z2 z3 z4 z5 u0 u1 u2 u3 u4 u5
  clear X Y P Q
  refine wp_region_grown (by kernel_rfl) (by kernel_rfl) fun _ => ?_
  repeat (go_big_quiet_step ((first | (go_at_call 17; with_reducible exact callsGr (HW _)) | (go_at_call 18; with_reducible exact callsGr (HV _)))))
  refine wpQuiet_nil ?_
  rintro _ ⟨⟨w5, g5⟩, rfl⟩
  go_wp2
  go_ret
  exact ⟨rfl, gbTrans G4 g5⟩

theorem walk (k o r b g n : Int) (ub : U64 b) (ug : U64 g) (k' o' r' b' g' n' : Int) (ub' : U64 b') (ug' : U64 g') (r1 b1 g1 n1 : Int) (ub1 : U64 b1) (ug1 : U64 g1) (w : World) :
    Calls Try.prog 4 #[cv ⟨k, o, r, b, g, n⟩, cv ⟨k', o', r', b', g', n'⟩, av r1 b1 g1 n1] w fun e w' => e = .returned (.bool true) ∧ Below w.heap.size w w' := by
  refine endWalk ?_
  obtain ⟨⟨⟨d0, d1, d2, d3, d4, d5⟩, f⟩, hd⟩ : ∃ p, M.drv ⟨k, o, r, b, g, n⟩ r1 b1 g1 n1 = p := ⟨_, rfl⟩
  exact inner k o r b g n k' o' r' b' g' n' r1 b1 g1 n1 d0 d1 d2 d3 d4 d5 f _ (fun w => derive_is k o r b g n r1 b1 g1 n1 _ f ub.1 ug.1 ub1.1 ug1.1 hd w) (fun w => rderive_is k o r b g n r1 b1 g1 n1 _ f hd w)
    (fun w => weaker_is k o r b g n k' o' r' b' g' n' _ ub.1 ug.1 ub'.1 ug'.1 rfl w) (fun w => rweaker_is k o r b g n k' o' r' b' g' n' _ rfl w) w

set_option maxRecDepth 100000 in
theorem lifted (os : Os) (started : os.Started) (H : Type) (enc : TypeId × Value → H) :
    ReturnsInHanded {} Try.checked os 4 .any (Rows.capDerivesSpec.pre6 enc Try.prog Try.f4 Rows.capDerivesRow.domain false) (Rows.capDerivesSpec.post enc Try.prog Try.f4 false true false false) := by
  refine returnsInHanded_of_change (C := Try.checked) own started (by kernel_rfl) Try.func4
    (ChangeSpec.witness6 (enc := enc) (C := Try.checked) false ⟨#[], #[.agg #[.int .i64 0, .int .i64 0, .int .i64 0, .int .u64 0, .int .u64 0, .int .i64 0], .agg #[.int .i64 0, .int .i64 0, .int .i64 0, .int .u64 0, .int .u64 0, .int .i64 0], .agg #[.int .i64 0, .int .u64 0, .int .u64 0, .int .i64 0]], []⟩ 8 (by kernel_rfl) (by kernel_rfl) (by kernel_rfl) (by kernel_rfl)) ?_
  intro W base args ds gs before hval0 hW hcnd _
  have hval : ∀ (j : Nat) t v, Try.f4.params[j]? = some t → args[j]? = some v → Value.okWide Try.prog W .any base t v := hval0
  have hW' := hW
  obtain ⟨p, q, hA0, hV, rfl, hfz, hnd⟩ := hW
  have hA : DataW.TrodAll enc Try.prog W 0 (fun _ => true) true Try.f4.params.toList args.toList ds p := hA0
  rw [Try.params4] at hA hval
  obtain ⟨v0, vs0, d0, ds0, p0, q0, hargs, rfl, rfl, h0, r0⟩ := trodAll_cons hA
  obtain ⟨v1, vs1, d1, ds1, p1, q1, rfl, rfl, rfl, h1, r1⟩ := trodAll_cons r0
  obtain ⟨v2, vs2, d2, ds2, p2, q2, rfl, rfl, rfl, h2, r2⟩ := trodAll_cons r1
  obtain ⟨rfl, rfl, rfl⟩ := trodAll_nil r2
  obtain rfl : args = #[v0, v1, v2] := by cases args; simp_all
  obtain ⟨rfl, rfl⟩ := trodVars_none hV
  obtain ⟨K0, O0, R0, B0, G0, N0, rfl, ub0, ug0⟩ := capArg (hval 0 24 v0 rfl rfl) h0
  have k0 := h0
  have lt0 : ∀ x ∈ p0, x.block < W.heap.size := by obtain ⟨m, hm⟩ := k0; exact DataW.trod_lt m _ _ _ hm
  obtain ⟨K1, O1, R1, B1, G1, N1, rfl, ub1, ug1⟩ := capArg (hval 1 24 v1 rfl rfl) h1
  have k1 := h1
  have lt1 : ∀ x ∈ p1, x.block < W.heap.size := by obtain ⟨m, hm⟩ := k1; exact DataW.trod_lt m _ _ _ hm
  obtain ⟨R2, B2, G2, N2, rfl, ub2, ug2⟩ := askArg (hval 2 33 v2 rfl rfl) h2
  have k2 := h2
  have lt2 : ∀ x ∈ p2, x.block < W.heap.size := by obtain ⟨m, hm⟩ := k2; exact DataW.trod_lt m _ _ _ hm
  clear hA0 hval0
  refine (walk K0 O0 R0 B0 G0 N0 ub0 ug0 K1 O1 R1 B1 G1 N1 ub1 ug1 R2 B2 G2 N2 ub2 ug2 W).mono fun e W' ⟨he, bel⟩ => ?_
  subst he
  exact ⟨_, rfl, _, _, _, [], _, [], hW', trodAll_mk1 (shut_bool Try.underlying4 _), (trodAll_cons_mk (Below.trod laidOut (by kernel_rfl) (of_decide_eq_true (by kernel_rfl)) k0 bel lt0) (trodAll_cons_mk (Below.trod laidOut (by kernel_rfl) (of_decide_eq_true (by kernel_rfl)) k1 bel lt1) (trodAll_cons_mk (Below.trod laidOut (by kernel_rfl) (of_decide_eq_true (by kernel_rfl)) k2 bel lt2) trodAll_mk0))), rfl, bel.frame _, fun h => by cases h⟩

theorem over : Rows.capDerivesRow.holds Try.pinned (OpenSpec.ofChange Rows.capDerivesSpec) :=
  OpenClaim.holds_of_wide 4 Try.f4 rfl rfl rfl rfl rfl rfl rfl ⟨rfl, rfl, rfl, rfl, rfl⟩ rfl rfl rfl rfl rfl (by kernel_rfl) Try.func4 (by kernel_rfl)
    (of_decide_eq_true (by kernel_rfl)) (by unfold Func.isWrapper; first | (rw [if_pos (by decide +kernel)]; kernel_rfl) | (rw [if_neg (by decide +kernel)]; exact ⟨rfl, rfl⟩))
    (fun os started H enc _ => lifted os started H enc)

theorem proved : Rows.CapDerivesSaid := over
end Go.Proofs.Ytkgjcolimceogaa.capDerives
namespace Go.Proofs.Ytkgjcolimceogaa
theorem capDerives_holds : Rows.CapDerivesSaid := capDerives.proved
#print axioms capDerives_holds
end Go.Proofs.Ytkgjcolimceogaa
