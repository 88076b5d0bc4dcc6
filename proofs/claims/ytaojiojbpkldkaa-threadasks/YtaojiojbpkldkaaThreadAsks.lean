/- ThreadAsks (20.2): who waits for an answer of a thread is noted once, until it is noted that nobody does; nothing else changes. For every input; no condition. -/
import Derived.Test.YtaojiojbpkldkaaFct
import Derived.Deep.Cut
import Derived.Deep.DeepCutAuto
import Derived.ProofKit
import Derived.OpenShut
import Derived.ShutString
import Derived.ChangeOld
import Derived.Below
import Derived.Deep.Slices
namespace Go.Proofs.Ytaojiojbpkldkaa.threadAsks
open Go.ChangeShapes Go.WideShapes Go.ChangeAt Go.RowKit
set_option linter.unusedVariables false

theorem own : ownKnob Try.prog.godebug = none := by kernel_rfl
theorem laidOut : laidOutB Try.prog = true := by kernel_rfl

set_option maxHeartbeats 2000000 in
set_option maxRecDepth 10000 in
theorem core (a0 a1 a2 a3 : Int) (U0 U1 U2 U3 L D A B : Nat) (w : World)
    (p0 : IntKind.u64.wrap a0 = (U0 : Int)) (q0 : (U0 : Int) % 8 = (L : Int)) (hL : L < 8) (p1 : IntKind.u64.wrap a1 = (U1 : Int)) (q1 : (U1 : Int) % 4 = (D : Int)) (hD : D < 4)
    (p2 : IntKind.u64.wrap a2 = (U2 : Int)) (q2 : (U2 : Int) % 64 = (A : Int)) (hA : A < 64) (p3 : IntKind.u64.wrap a3 = (U3 : Int)) (q3 : (U3 : Int) % 64 = (B : Int)) (hB : B < 64)
    (H1 : ∀ w, Calls Try.prog 8 #[.int .i64 (L : Int), .int .i64 (D : Int)] w fun e w' => e = .returned (.tuple #[.agg (tc (tn L D)), .int .i64 0]) ∧ w.grownBy w' none)
    (H2 : ∀ w, Calls Try.prog 13 #[.agg (tc (tn L D)), .int .i64 (A : Int)] w fun e w' => e = .returned (.tuple #[.agg (tc { tn L D with r := A }), .int .i64 0]) ∧ w.grownBy w' none)
    (H3 : ∀ w, Calls Try.prog 13 #[.agg (tc { tn L D with r := A }), .int .i64 (B : Int)] w fun e w' => e = .returned (.tuple #[.agg (tc T0), .int .i64 4]) ∧ w.grownBy w' none)
    (H4 : ∀ w, Calls Try.prog 13 #[.agg (tc { tn L D with r := A }), .int .i64 (-1)] w fun e w' => e = .returned (.tuple #[.agg (tc (tn L D)), .int .i64 0]) ∧ w.grownBy w' none)
    (H5 : ∀ w, Calls Try.prog 13 #[.agg (tc (tn L D)), .int .i64 (B : Int)] w fun e w' => e = .returned (.tuple #[.agg (tc { tn L D with r := B }), .int .i64 0]) ∧ w.grownBy w' none) :
    Calls Try.prog 6 #[.int .i64 a0, .int .i64 a1, .int .i64 a2, .int .i64 a3] w fun e w' => e = .returned (.bool true) ∧ w.grownBy w' none := by
  have G := gbRefl w none
  go_enter Try.func6, Try.ntmps6
  go_wp2_with fail
  refine (works_is _).mono ?_
  rintro e w0 ⟨rfl, g0⟩
  replace G := gbTrans G g0
  clear g0
  go_wp2_with fail
  refine (H1 _).mono ?_
  rintro e w1 ⟨rfl, g1⟩
  replace G := gbTrans G g1
  clear g1
  go_upto_region 5 with (first | (refine wpList_allocT rfl rfl ?_; intro V1 x1 X1 k1 l1) | (refine wpList_storeT rfl _ _ rfl rfl rfl X1 ?_; intro W1 B1 h1))
  replace G := gbMade G k1 l1 h1
  clear k1 l1 h1 X1
  clear p0 q0 p1 q1 p2 q2 p3 q3 H1
  go_wp2_with (refine wpList_loadT rfl _ rfl rfl B1 ?_)
  refine (H2 _).mono ?_
  rintro e w2 ⟨rfl, g2⟩
  replace G := gbTrans G g2
  replace B1 := B1.kept g2
  clear g2
  go_upto_region 6 with (first | (refine wpList_allocT rfl rfl ?_; intro V2 x2 X2 k2 l2) | (refine wpList_storeT rfl _ _ rfl rfl rfl X2 ?_; intro W2 B2 h2))
  replace B1 := B1.past k2 l2 h2
  replace G := gbMade G k2 l2 h2
  clear k2 l2 h2 X2
  go_wp2_with (refine wpList_loadT rfl _ rfl rfl B2 ?_)
  refine (H3 _).mono ?_
  rintro e w3 ⟨rfl, g3⟩
  replace G := gbTrans G g3
  replace B1 := B1.kept g3
  replace B2 := B2.kept g3
  clear g3
  go_upto_region 7 with (first | (refine wpList_allocT rfl rfl ?_; intro V3 x3 X3 k3 l3) | (refine wpList_storeT rfl _ _ rfl rfl rfl X3 ?_; intro W3 B3 h3))
  replace B1 := B1.past k3 l3 h3
  replace B2 := B2.past k3 l3 h3
  replace G := gbMade G k3 l3 h3
  clear k3 l3 h3 X3
  clear B3
  go_wp2_with (refine wpList_loadT rfl _ rfl rfl B2 ?_)
  refine (H4 _).mono ?_
  rintro e w4 ⟨rfl, g4⟩
  replace G := gbTrans G g4
  replace B1 := B1.kept g4
  replace B2 := B2.kept g4
  clear g4
  go_upto_region 8 with (first | (refine wpList_allocT rfl rfl ?_; intro V4 x4 X4 k4 l4) | (refine wpList_storeT rfl _ _ rfl rfl rfl X4 ?_; intro W4 B4 h4))
  replace B1 := B1.past k4 l4 h4
  replace B2 := B2.past k4 l4 h4
  replace G := gbMade G k4 l4 h4
  clear k4 l4 h4 X4
  go_wp2_with (refine wpList_loadT rfl _ rfl rfl B4 ?_)
  refine (H5 _).mono ?_
  rintro e w5 ⟨rfl, g5⟩
  replace G := gbTrans G g5
  replace B1 := B1.kept g5
  replace B2 := B2.kept g5
  replace B4 := B4.kept g5
  clear g5
  go_upto_region 9 with (first | (refine wpList_allocT rfl rfl ?_; intro V5 x5 X5 k5 l5) | (refine wpList_storeT rfl _ _ rfl rfl rfl X5 ?_; intro W5 B5 h5))
  replace B1 := B1.past k5 l5 h5
  replace B2 := B2.past k5 l5 h5
  replace B4 := B4.past k5 l5 h5
  replace G := gbMade G k5 l5 h5
  clear k5 l5 h5 X5
  clear H2 H3 H4 H5
  go_upto_region 10 with (first | (refine wpList_loadT rfl _ rfl rfl B1 ?_) | (refine wpList_allocT rfl rfl ?_; intro V6 x6 X6 k6 l6) | (refine wpList_storeT rfl _ _ rfl rfl rfl X6 ?_; intro W6 B6 h6))
  have a1 := apartT B1 l6
  have a2 := apartT B2 l6
  have a4 := apartT B4 l6
  have a5 := apartT B5 l6
  have lw : w.heap.size ≤ x6 := Nat.le_trans G.size l6
  replace B1 := B1.past k6 l6 h6
  replace B2 := B2.past k6 l6 h6
  replace B4 := B4.past k6 l6 h6
  replace B5 := B5.past k6 l6 h6
  replace G := gbMade G k6 l6 h6
  clear k6 l6 h6 X6
  have c4 := B6.eight.at4
  have cf := B6.fr
  go_upto_region 11 with fail
  obtain ⟨W7, e7, B7, g7⟩ := B6.set4 (B : Int)
  rw [e7]
  clear e7 c4 cf B6
  replace B1 := B1.aside g7 a1
  replace B2 := B2.aside g7 a2
  replace B4 := B4.aside g7 a4
  replace B5 := B5.aside g7 a5
  replace G := gbNew (gbTrans (gbAny G _) g7) lw
  clear g7 a1 a2 a4 a5 lw
  have d4 := B2.eight.at4
  have qe := eqGuardT
  have q1 := fun w => run_eql_same w (tn L D)
  have q2 := fun w => run_eql_same w { tn L D with r := B }
  go_wp2_with (first | (refine wpList_loadTg rfl _ rfl rfl B4 ?_) | (refine wpList_loadTg rfl _ rfl rfl B1 ?_) | (refine wpList_loadTg rfl _ rfl rfl B5 ?_) | (refine wpList_loadTg rfl _ rfl rfl B7 ?_))
  go_ret
  exact ⟨rfl, G⟩

theorem walk (a0 a1 a2 a3 : Int) (w : World) :
    Calls Try.prog 6 #[.int .i64 a0, .int .i64 a1, .int .i64 a2, .int .i64 a3] w fun e w' => e = .returned (.bool true) ∧ Below w.heap.size w w' := by
  refine endWalk ?_
  obtain ⟨U0, L, p0, q0, hL⟩ := mod8 a0
  obtain ⟨U1, D, p1, q1, hD⟩ := mod4 a1
  obtain ⟨U2, A, p2, q2, hA⟩ := mod64 a2
  obtain ⟨U3, B, p3, q3, hB⟩ := mod64 a3
  have R := tn_right L D hL hD
  have RA := R.ask (clr_nat A hA)
  exact core a0 a1 a2 a3 U0 U1 U2 U3 L D A B w p0 q0 hL p1 q1 hD p2 q2 hA p3 q3 hB (new_is L D _ _ (nw_right L D hL hD)) (ask_is _ _ A _ R.b64 (ak_yes R (clr_nat A hA) (.inr rfl)))
    (ask_is _ _ B _ RA.b64 (ak_twice RA (clr_nat B hB) (by omega) (by show (A : Int) ≠ -1; omega))) (ask_is _ _ (-1) _ RA.b64 (ak_yes RA clr_none (.inl rfl))) (ask_is _ _ B _ R.b64 (ak_yes R (clr_nat B hB) (.inr rfl)))

set_option maxRecDepth 100000 in
theorem lifted (os : Os) (started : os.Started) (H : Type) (enc : TypeId × Value → H) :
    ReturnsInHanded {} Try.checked os 6 .any (Rows.threadAsksSpec.pre6 enc Try.prog Try.f6 Rows.threadAsksRow.domain false) (Rows.threadAsksSpec.post enc Try.prog Try.f6 false true false false) := by
  refine returnsInHanded_of_change (C := Try.checked) own started (by kernel_rfl) Try.func6
    (ChangeSpec.witness6 (enc := enc) (C := Try.checked) false ⟨#[], #[.int .i64 0, .int .i64 0, .int .i64 0, .int .i64 0], []⟩ 8 (by kernel_rfl) (by kernel_rfl) (by kernel_rfl) (by kernel_rfl)) ?_
  intro W base args ds gs before hval0 hW hcnd _
  have hval : ∀ (j : Nat) t v, Try.f6.params[j]? = some t → args[j]? = some v → Value.okWide Try.prog W .any base t v := hval0
  have hW' := hW
  obtain ⟨p, q, hA0, hV, rfl, hfz, hnd⟩ := hW
  have hA : DataW.TrodAll enc Try.prog W 0 (fun _ => true) true Try.f6.params.toList args.toList ds p := hA0
  rw [Try.params6] at hA hval
  obtain ⟨v0, vs0, d0, ds0, p0, q0, hargs, rfl, rfl, h0, r0⟩ := trodAll_cons hA
  obtain ⟨v1, vs1, d1, ds1, p1, q1, rfl, rfl, rfl, h1, r1⟩ := trodAll_cons r0
  obtain ⟨v2, vs2, d2, ds2, p2, q2, rfl, rfl, rfl, h2, r2⟩ := trodAll_cons r1
  obtain ⟨v3, vs3, d3, ds3, p3, q3, rfl, rfl, rfl, h3, r3⟩ := trodAll_cons r2
  obtain ⟨rfl, rfl, rfl⟩ := trodAll_nil r3
  obtain rfl : args = #[v0, v1, v2, v3] := by cases args; simp_all
  obtain ⟨rfl, rfl⟩ := trodVars_none hV
  obtain ⟨a0, rfl, rfl, rfl, w0⟩ := open_int Try.underlying3 (hval 0 3 v0 rfl rfl) h0
  obtain ⟨a1, rfl, rfl, rfl, w1⟩ := open_int Try.underlying3 (hval 1 3 v1 rfl rfl) h1
  obtain ⟨a2, rfl, rfl, rfl, w2⟩ := open_int Try.underlying3 (hval 2 3 v2 rfl rfl) h2
  obtain ⟨a3, rfl, rfl, rfl, w3⟩ := open_int Try.underlying3 (hval 3 3 v3 rfl rfl) h3
  clear hA0 hval0
  refine (walk a0 a1 a2 a3 W).mono fun e W' ⟨he, bel⟩ => ?_
  subst he
  exact ⟨_, rfl, _, _, _, [], _, [], hW', trodAll_mk1 (shut_bool Try.underlying4 _), (trodAll_cons_mk (shut_int Try.underlying3 w0) (trodAll_cons_mk (shut_int Try.underlying3 w1) (trodAll_cons_mk (shut_int Try.underlying3 w2) (trodAll_cons_mk (shut_int Try.underlying3 w3) trodAll_mk0)))), rfl, bel.frame _, fun h => by cases h⟩

theorem over : Rows.threadAsksRow.holds Try.pinned (OpenSpec.ofChange Rows.threadAsksSpec) :=
  OpenClaim.holds_of_wide 6 Try.f6 rfl rfl rfl rfl rfl rfl rfl ⟨rfl, rfl, rfl, rfl, rfl⟩ rfl rfl rfl rfl rfl (by kernel_rfl) Try.func6 (by kernel_rfl)
    (of_decide_eq_true (by kernel_rfl)) (by unfold Func.isWrapper; first | (rw [if_pos (by decide +kernel)]; kernel_rfl) | (rw [if_neg (by decide +kernel)]; exact ⟨rfl, rfl⟩))
    (fun os started H enc _ => lifted os started H enc)

theorem proved : Rows.ThreadAsksSaid := over
end Go.Proofs.Ytaojiojbpkldkaa.threadAsks
namespace Go.Proofs.Ytaojiojbpkldkaa
theorem threadAsks_holds : Rows.ThreadAsksSaid := threadAsks.proved
#print axioms threadAsks_holds
end Go.Proofs.Ytaojiojbpkldkaa
