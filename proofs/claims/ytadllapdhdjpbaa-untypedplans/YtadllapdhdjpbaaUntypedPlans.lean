/- UntypedPlans: Bits, Plan and Left of package untyped answer as the document does (donjonref06), at whatever span, used and wishes; no condition. -/
import Derived.Test.YtadllapdhdjpbaaRplan
import Derived.Test.YtadllapdhdjpbaaSame
import Derived.Test.YtadllapdhdjpbaaAsks
import Derived.Test.YtadllapdhdjpbaaArgs
import Derived.ProofKit
import Derived.OpenShut
import Derived.ShutString
import Derived.ChangeOld
import Derived.Below
import Derived.Deep.Slices
namespace Go.Proofs.Ytadllapdhdjpbaa.untypedPlans
open Go.ChangeShapes Go.WideShapes Go.ChangeAt Go.RowKit
set_option linter.unusedVariables false

theorem own : ownKnob Try.prog.godebug = none := by kernel_rfl
theorem laidOut : laidOutB Try.prog = true := by kernel_rfl

set_option maxRecDepth 10000 in
set_option maxHeartbeats 2000000 in
theorem core (A B u k n c b e r e2 q : Int) (L : List (Int × Int)) (w : World)
    (H1 : ∀ w, Calls Try.prog 8 #[.int .i64 k, .int .i64 n] w fun x w' => x = .returned (.tuple #[.int .i64 b, .int .i64 e]) ∧ w' = w)
    (H2 : ∀ w, Calls Try.prog 9 #[.int .i64 k, .int .i64 n] w fun x w' => x = .returned (.tuple #[.int .i64 b, .int .i64 e]) ∧ w' = w)
    (H3 : ∀ w : World, Calls Try.prog 10 #[sp A B, .int .i64 u, .int .i64 k, .int .i64 n, .int .i64 c] w fun x w' => ∃ v, x = .returned (.tuple #[v, .int .i64 r, .int .i64 e2]) ∧ Lst w' w.heap.size v L ∧ w.grownBy w' none)
    (H4 : ∀ w : World, Calls Try.prog 11 #[sp A B, .int .i64 u, .int .i64 k, .int .i64 n, .int .i64 c] w fun x w' => ∃ v, x = .returned (.tuple #[v, .int .i64 r, .int .i64 e2]) ∧ Lst w' w.heap.size v L ∧ w.grownBy w' none)
    (H5 : ∀ w : World, Calls Try.prog 13 #[sp A B, .int .i64 u] w fun x w' => x = .returned (.int .i64 q) ∧ w.grownBy w' none)
    (H6 : ∀ w : World, Calls Try.prog 14 #[sp A B, .int .i64 u] w fun x w' => x = .returned (.int .i64 q) ∧ w.grownBy w' none) :
    Calls Try.prog 3 #[sp A B, .int .i64 u, qv k n c] w fun e w' => e = .returned (.bool true) ∧ w.grownBy w' none := by
  go_enter Try.func3, Try.ntmps3
  go_wp2_with fail
  obtain ⟨W, hW, X, Y, g0⟩ := spanAsk w A B k n c
  rw [hW]
  clear hW
  have x0 := X.at0
  have x1 := X.at1
  have y0 := Y.at0
  have y1 := Y.at1
  have y2 := Y.at2
  refine (H1 _).mono ?_
  rintro _ w1 ⟨rfl, rfl⟩
  go_wp2_with fail
  refine (H2 _).mono ?_
  rintro _ w2 ⟨rfl, rfl⟩
  go_wp2_with fail
  refine (H3 _).mono ?_
  rintro _ w3 ⟨v3, rfl, L3, g3⟩
  have L3 := hideIt L3
  have X3 := X.kept g3
  have Y3 := Y.kept g3
  clear x0 x1 y0 y1 y2
  have x0 := X3.at0
  have x1 := X3.at1
  have y0 := Y3.at0
  have y1 := Y3.at1
  have y2 := Y3.at2
  go_wp2_with fail
  refine (H4 _).mono ?_
  rintro _ w4 ⟨v4, rfl, L4, g4⟩
  have L4 := hideIt L4
  obtain ⟨i0, i1⟩ := (X3.kept g4).all
  have HS : ∀ x : Gr w4, Calls Try.prog 12 #[v3, v4] x.w fun e w' => e = .returned (.bool true) ∧ x.w.grownBy w' none := fun x => same_lst _ _ _ v3 v4 L ((L3.out.kept g4).kept x.g) (L4.out.kept x.g)
  clear x0 x1 y0 y1 y2
  go_wp2
  refine wp_region_grown (by kernel_rfl) (by kernel_rfl) fun _ => ?_
  repeat (go_big_quiet_step ((first | (go_at_call 12; with_reducible exact callsGr (HS _)) | (go_at_call 13; with_reducible exact callsGr (H5 _)) | (go_at_call 14; with_reducible exact callsGr (H6 _)))))
  refine wpQuiet_nil ?_
  rintro w5 ⟨⟨_, g5⟩, rfl⟩
  go_wp2
  go_ret
  exact ⟨rfl, gbTrans g0 (gbTrans g3 (gbTrans g4 g5))⟩

theorem walk (A B u k n c : Int) (w : World) :
    Calls Try.prog 3 #[sp A B, .int .i64 u, qv k n c] w fun e w' => e = .returned (.bool true) ∧ Below w.heap.size w w' :=
  endWalk (core A B u k n c (M.bts k n).1 (M.bts k n).2 (M.pln A B u k n c).2.1 (M.pln A B u k n c).2.2 (M.lft A B u) (M.pln A B u k n c).1 w (bits_is k n _ _ rfl) (rbits_is k n _ _ rfl) (plan_is A B u k n c _ _ _ rfl) (rplan_is A B u k n c _ _ _ rfl) (left_is A B u _ rfl) (rleft_is A B u _ rfl))

set_option maxRecDepth 100000 in
theorem lifted (os : Os) (started : os.Started) (H : Type) (enc : TypeId × Value → H) :
    ReturnsInHanded {} Try.checked os 3 .any (Rows.untypedPlansSpec.pre6 enc Try.prog Try.f3 Rows.untypedPlansRow.domain false) (Rows.untypedPlansSpec.post enc Try.prog Try.f3 false true false false) := by
  refine returnsInHanded_of_change (C := Try.checked) own started (by kernel_rfl) Try.func3
    (ChangeSpec.witness6 (enc := enc) (C := Try.checked) false ⟨#[], #[.agg #[.int .i64 0, .int .i64 0], .int .i64 0, .agg #[.int .i64 0, .int .i64 0, .int .i64 0]], []⟩ 8 (by kernel_rfl) (by kernel_rfl) (by kernel_rfl) (by kernel_rfl)) ?_
  intro W base args ds gs before hval0 hW hcnd _
  have hval : ∀ (j : Nat) t v, Try.f3.params[j]? = some t → args[j]? = some v → Value.okWide Try.prog W .any base t v := hval0
  have hW' := hW
  obtain ⟨p, q, hA0, hV, rfl, hfz, hnd⟩ := hW
  have hA : DataW.TrodAll enc Try.prog W 0 (fun _ => true) true Try.f3.params.toList args.toList ds p := hA0
  rw [Try.params3] at hA hval
  obtain ⟨v0, vs0, d0, ds0, p0, q0, hargs, rfl, rfl, h0, r0⟩ := trodAll_cons hA
  obtain ⟨v1, vs1, d1, ds1, p1, q1, rfl, rfl, rfl, h1, r1⟩ := trodAll_cons r0
  obtain ⟨v2, vs2, d2, ds2, p2, q2, rfl, rfl, rfl, h2, r2⟩ := trodAll_cons r1
  obtain ⟨rfl, rfl, rfl⟩ := trodAll_nil r2
  obtain rfl : args = #[v0, v1, v2] := by cases args; simp_all
  obtain ⟨rfl, rfl⟩ := trodVars_none hV
  obtain ⟨A0, B0, rfl⟩ := spanArg (hval 0 23 v0 rfl rfl) h0
  have k0 := h0
  have lt0 : ∀ x ∈ p0, x.block < W.heap.size := by obtain ⟨m, hm⟩ := k0; exact DataW.trod_lt m _ _ _ hm
  obtain ⟨a1, rfl, rfl, rfl, w1⟩ := open_int Try.underlying3 (hval 1 3 v1 rfl rfl) h1
  obtain ⟨K2, N2, C2, rfl⟩ := askArg6 (hval 2 25 v2 rfl rfl) h2
  have k2 := h2
  have lt2 : ∀ x ∈ p2, x.block < W.heap.size := by obtain ⟨m, hm⟩ := k2; exact DataW.trod_lt m _ _ _ hm
  clear hA0 hval0
  refine (walk A0 B0 a1 K2 N2 C2 W).mono fun e W' ⟨he, bel⟩ => ?_
  subst he
  exact ⟨_, rfl, _, _, _, [], _, [], hW', trodAll_mk1 (shut_bool Try.underlying4 _), (trodAll_cons_mk (Below.trod laidOut (by kernel_rfl) (of_decide_eq_true (by kernel_rfl)) k0 bel lt0) (trodAll_cons_mk (shut_int Try.underlying3 w1) (trodAll_cons_mk (Below.trod laidOut (by kernel_rfl) (of_decide_eq_true (by kernel_rfl)) k2 bel lt2) trodAll_mk0))), rfl, bel.frame _, fun h => by cases h⟩

theorem over : Rows.untypedPlansRow.holds Try.pinned (OpenSpec.ofChange Rows.untypedPlansSpec) :=
  OpenClaim.holds_of_wide 3 Try.f3 rfl rfl rfl rfl rfl rfl rfl ⟨rfl, rfl, rfl, rfl, rfl⟩ rfl rfl rfl rfl rfl (by kernel_rfl) Try.func3 (by kernel_rfl)
    (of_decide_eq_true (by kernel_rfl)) (by unfold Func.isWrapper; first | (rw [if_pos (by decide +kernel)]; kernel_rfl) | (rw [if_neg (by decide +kernel)]; exact ⟨rfl, rfl⟩))
    (fun os started H enc _ => lifted os started H enc)

theorem proved : Rows.UntypedPlansSaid := over
end Go.Proofs.Ytadllapdhdjpbaa.untypedPlans
namespace Go.Proofs.Ytadllapdhdjpbaa
theorem untypedPlans_holds : Rows.UntypedPlansSaid := untypedPlans.proved
#print axioms untypedPlans_holds
end Go.Proofs.Ytadllapdhdjpbaa
