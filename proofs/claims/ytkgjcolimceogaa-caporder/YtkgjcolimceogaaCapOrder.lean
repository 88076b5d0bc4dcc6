/- CapOrder (5.3): for every three capabilities, each right one (and no other) is weaker than itself, and what is weaker than something weaker is weaker. No condition. -/
import Derived.Test.YtkgjcolimceogaaBoxes
import Derived.Test.YtkgjcolimceogaaArgs
import Derived.ProofKit
import Derived.OpenShut
import Derived.ShutString
import Derived.ChangeOld
import Derived.Below
import Derived.Deep.Slices
namespace Go.Proofs.Ytkgjcolimceogaa.capOrder
open Go.ChangeShapes Go.WideShapes Go.ChangeAt Go.RowKit
set_option linter.unusedVariables false

theorem own : ownKnob Try.prog.godebug = none := by kernel_rfl
theorem laidOut : laidOutB Try.prog = true := by kernel_rfl

set_option maxHeartbeats 2000000 in
theorem inner (k o r b g n k' o' r' b' g' n' k2 o2 r2 b2 g2 n2 f : Int) (v1 v2 v3 v4 : Bool) (hf : (f == 0) = v1) (hv : v2 = false ∨ (v2 = true ∧ v3 = false) ∨ (v2 = true ∧ v3 = true ∧ v4 = true))
    (HAA : ∀ w, Calls Try.prog 17 #[cv ⟨k, o, r, b, g, n⟩, cv ⟨k, o, r, b, g, n⟩] w fun e w' => e = .returned (.bool v1) ∧ w.grownBy w' none)
    (HAB : ∀ w, Calls Try.prog 17 #[cv ⟨k, o, r, b, g, n⟩, cv ⟨k', o', r', b', g', n'⟩] w fun e w' => e = .returned (.bool v2) ∧ w.grownBy w' none)
    (HBC : ∀ w, Calls Try.prog 17 #[cv ⟨k', o', r', b', g', n'⟩, cv ⟨k2, o2, r2, b2, g2, n2⟩] w fun e w' => e = .returned (.bool v3) ∧ w.grownBy w' none)
    (HAC : ∀ w, Calls Try.prog 17 #[cv ⟨k, o, r, b, g, n⟩, cv ⟨k2, o2, r2, b2, g2, n2⟩] w fun e w' => e = .returned (.bool v4) ∧ w.grownBy w' none)
    (HC : ∀ w, Calls Try.prog 13 #[cv ⟨k, o, r, b, g, n⟩] w fun e w' => e = .returned (.int .i64 f) ∧ w.grownBy w' none) (w : World) :
    Calls Try.prog 7 #[cv ⟨k, o, r, b, g, n⟩, cv ⟨k', o', r', b', g', n'⟩, cv ⟨k2, o2, r2, b2, g2, n2⟩] w fun e w' => e = .returned (.bool true) ∧ w.grownBy w' none := by
  rcases hv with rfl | ⟨rfl, rfl⟩ | ⟨rfl, rfl, rfl⟩
  all_goals
    go_enter Try.func7, Try.ntmps7
    go_upto_region 1 with fail
    obtain ⟨W0, hW0, X, Y, Z, G0⟩ := boxesCCC w ⟨k, o, r, b, g, n⟩ ⟨k', o', r', b', g', n'⟩ ⟨k2, o2, r2, b2, g2, n2⟩
    simp only at hW0
    rw [hW0]
    clear hW0
    go_wp2_with fail
    refine (works_any _).mono ?_
    rintro e w1 ⟨rfl, g1⟩
    replace X := X.kept g1
    replace Y := Y.kept g1
    replace Z := Z.kept g1
    have G1 := gbTrans G0 g1
    clear G0 g1
    go_upto_region 3 with fail
    obtain ⟨a0, a1, a2, a3, a4, a5⟩ := X.all
    obtain ⟨y0, y1, y2, y3, y4, y5⟩ := Y.all
    obtain ⟨z0, z1, z2, z3, z4, z5⟩ := Z.all
    simp only at a0 a1 a2 a3 a4 a5 y0 y1 y2 y3 y4 y5 z0 z1 z2 z3 z4 z5
    clear X Y Z
    refine wp_region_grown (by kernel_rfl) (by kernel_rfl) fun _ => ?_
    repeat (go_big_quiet_step ((first | (go_at_call 13; with_reducible exact callsGr (HC _)) | (go_at_call 17; first | with_reducible exact callsGr (HAA _) | with_reducible exact callsGr (HAB _) | with_reducible exact callsGr (HBC _) | with_reducible exact callsGr (HAC _)))))
    refine wpQuiet_nil ?_
    rintro _ ⟨⟨w5, g5⟩, rfl⟩
    go_wp2
    go_ret
    exact ⟨rfl, gbTrans G1 g5⟩

theorem walk (k o r b g n : Int) (ub : U64 b) (ug : U64 g) (k' o' r' b' g' n' : Int) (ub' : U64 b') (ug' : U64 g') (k2 o2 r2 b2 g2 n2 : Int) (ub2 : U64 b2) (ug2 : U64 g2) (w : World) :
    Calls Try.prog 7 #[cv ⟨k, o, r, b, g, n⟩, cv ⟨k', o', r', b', g', n'⟩, cv ⟨k2, o2, r2, b2, g2, n2⟩] w fun e w' => e = .returned (.bool true) ∧ Below w.heap.size w w' := by
  refine endWalk ?_
  refine inner k o r b g n k' o' r' b' g' n' k2 o2 r2 b2 g2 n2 (M.chk ⟨k, o, r, b, g, n⟩) (M.wkr ⟨k, o, r, b, g, n⟩ ⟨k, o, r, b, g, n⟩) (M.wkr ⟨k, o, r, b, g, n⟩ ⟨k', o', r', b', g', n'⟩) (M.wkr ⟨k', o', r', b', g', n'⟩ ⟨k2, o2, r2, b2, g2, n2⟩) (M.wkr ⟨k, o, r, b, g, n⟩ ⟨k2, o2, r2, b2, g2, n2⟩) (M.wkr_self _).symm ?_
    (fun w => weaker_is k o r b g n k o r b g n _ ub.1 ug.1 ub.1 ug.1 rfl w) (fun w => weaker_is k o r b g n k' o' r' b' g' n' _ ub.1 ug.1 ub'.1 ug'.1 rfl w)
    (fun w => weaker_is k' o' r' b' g' n' k2 o2 r2 b2 g2 n2 _ ub'.1 ug'.1 ub2.1 ug2.1 rfl w) (fun w => weaker_is k o r b g n k2 o2 r2 b2 g2 n2 _ ub.1 ug.1 ub2.1 ug2.1 rfl w) (fun w => check_any k o r b g n ub.1 ug.1 w) w
  cases h1 : M.wkr ⟨k, o, r, b, g, n⟩ ⟨k', o', r', b', g', n'⟩
  · exact .inl rfl
  · cases h2 : M.wkr ⟨k', o', r', b', g', n'⟩ ⟨k2, o2, r2, b2, g2, n2⟩
    · exact .inr (.inl ⟨rfl, rfl⟩)
    · exact .inr (.inr ⟨rfl, rfl, M.wkr_trans h1 h2⟩)

set_option maxRecDepth 100000 in
theorem lifted (os : Os) (started : os.Started) (H : Type) (enc : TypeId × Value → H) :
    ReturnsInHanded {} Try.checked os 7 .any (Rows.capOrderSpec.pre6 enc Try.prog Try.f7 Rows.capOrderRow.domain false) (Rows.capOrderSpec.post enc Try.prog Try.f7 false true false false) := by
  refine returnsInHanded_of_change (C := Try.checked) own started (by kernel_rfl) Try.func7
    (ChangeSpec.witness6 (enc := enc) (C := Try.checked) false ⟨#[], #[.agg #[.int .i64 0, .int .i64 0, .int .i64 0, .int .u64 0, .int .u64 0, .int .i64 0], .agg #[.int .i64 0, .int .i64 0, .int .i64 0, .int .u64 0, .int .u64 0, .int .i64 0], .agg #[.int .i64 0, .int .i64 0, .int .i64 0, .int .u64 0, .int .u64 0, .int .i64 0]], []⟩ 8 (by kernel_rfl) (by kernel_rfl) (by kernel_rfl) (by kernel_rfl)) ?_
  intro W base args ds gs before hval0 hW hcnd _
  have hval : ∀ (j : Nat) t v, Try.f7.params[j]? = some t → args[j]? = some v → Value.okWide Try.prog W .any base t v := hval0
  have hW' := hW
  obtain ⟨p, q, hA0, hV, rfl, hfz, hnd⟩ := hW
  have hA : DataW.TrodAll enc Try.prog W 0 (fun _ => true) true Try.f7.params.toList args.toList ds p := hA0
  rw [Try.params7] at hA hval
  obtain ⟨v0, vs0, d0, ds0, p0, q0, hargs, rfl, rfl, h0, r0⟩ := trodAll_cons hA
  obtain ⟨v1, vs1, d1, ds1, p1, q1, rfl, rfl, rfl, h1, r1⟩ := trodAll_cons r0
  obtain ⟨v2, vs2, d2, ds2, p2, q2, rfl, rfl, rfl, h2, r2⟩ := trodAll_cons r1
  obtain ⟨rfl, rfl, rfl⟩ := trodAll_nil r2
  obtain rfl : args = #[v0, v1, v2] := by cases args; simp_all
  obtain ⟨rfl, rfl⟩ := trodVars_none hV
  obtain ⟨K0, O0, R0, B0, G0, N0, rfl, ub0, ug0⟩ := capArg (hval 0 24 v0 rfl rfl) h0
  have k0 := h0
  have lt0 : ∀ x ∈ p0, x.block < W.heap.size := by obtain ⟨m, hm⟩ := k0; exact DataW.trod_lt m _ _ _ hm
  obtain ⟨K1, O1, R1, B1, G1, N1, rfl, ub1, ug1⟩ := capArg (hval 1 24 v1 rfl rfl) h1
  have k1 := h1
  have lt1 : ∀ x ∈ p1, x.block < W.heap.size := by obtain ⟨m, hm⟩ := k1; exact DataW.trod_lt m _ _ _ hm
  obtain ⟨K2, O2, R2, B2, G2, N2, rfl, ub2, ug2⟩ := capArg (hval 2 24 v2 rfl rfl) h2
  have k2 := h2
  have lt2 : ∀ x ∈ p2, x.block < W.heap.size := by obtain ⟨m, hm⟩ := k2; exact DataW.trod_lt m _ _ _ hm
  clear hA0 hval0
  refine (walk K0 O0 R0 B0 G0 N0 ub0 ug0 K1 O1 R1 B1 G1 N1 ub1 ug1 K2 O2 R2 B2 G2 N2 ub2 ug2 W).mono fun e W' ⟨he, bel⟩ => ?_
  subst he
  exact ⟨_, rfl, _, _, _, [], _, [], hW', trodAll_mk1 (shut_bool Try.underlying4 _), (trodAll_cons_mk (Below.trod laidOut (by kernel_rfl) (of_decide_eq_true (by kernel_rfl)) k0 bel lt0) (trodAll_cons_mk (Below.trod laidOut (by kernel_rfl) (of_decide_eq_true (by kernel_rfl)) k1 bel lt1) (trodAll_cons_mk (Below.trod laidOut (by kernel_rfl) (of_decide_eq_true (by kernel_rfl)) k2 bel lt2) trodAll_mk0))), rfl, bel.frame _, fun h => by cases h⟩

theorem over : Rows.capOrderRow.holds Try.pinned (OpenSpec.ofChange Rows.capOrderSpec) :=
  OpenClaim.holds_of_wide 7 Try.f7 rfl rfl rfl rfl rfl rfl rfl ⟨rfl, rfl, rfl, rfl, rfl⟩ rfl rfl rfl rfl rfl (by kernel_rfl) Try.func7 (by kernel_rfl)
    (of_decide_eq_true (by kernel_rfl)) (by unfold Func.isWrapper; first | (rw [if_pos (by decide +kernel)]; kernel_rfl) | (rw [if_neg (by decide +kernel)]; exact ⟨rfl, rfl⟩))
    (fun os started H enc _ => lifted os started H enc)

theorem proved : Rows.CapOrderSaid := over
end Go.Proofs.Ytkgjcolimceogaa.capOrder
namespace Go.Proofs.Ytkgjcolimceogaa
theorem capOrder_holds : Rows.CapOrderSaid := capOrder.proved
#print axioms capOrder_holds
end Go.Proofs.Ytkgjcolimceogaa
