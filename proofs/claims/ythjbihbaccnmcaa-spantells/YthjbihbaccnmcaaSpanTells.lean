/- Of any two spans, any address and any number of words: Check, Has, In, Apart and Halves answer as the chapter says, as the given function SpanTells asks; no condition. -/
import Derived.Test.YthjbihbaccnmcaaRhalve
import Derived.Test.YthjbihbaccnmcaaArgs
import Derived.ProofKit
import Derived.OpenShut
import Derived.ShutString
import Derived.ChangeOld
import Derived.Below
import Derived.Deep.Slices
namespace Go.Proofs.Ythjbihbaccnmcaa.spanTells
open Go.ChangeShapes Go.WideShapes Go.ChangeAt Go.RowKit
set_option linter.unusedVariables false

theorem own : ownKnob Try.prog.godebug = none := by kernel_rfl
theorem laidOut : laidOutB Try.prog = true := by kernel_rfl

set_option maxRecDepth 10000 in
set_option maxHeartbeats 2000000 in
theorem core (A B C D x n c E P0 P1 Q0 Q1 : Int) (h i p : Bool) (w : World)
    (H1 : ∀ w, Calls Try.prog 9 #[sp A B] w fun e w' => e = .returned (.tuple #[sp P0 P1, sp Q0 Q1, .int .i64 E]) ∧ w.grownBy w' none)
    (H2 : ∀ w, Calls Try.prog 10 #[sp A B] w fun e w' => e = .returned (.tuple #[sp P0 P1, sp Q0 Q1, .int .i64 E]) ∧ w.grownBy w' none)
    (H3 : ∀ w, Calls Try.prog 11 #[sp A B, .int .i64 n] w fun e w' => e = .returned (.int .i64 c) ∧ w.grownBy w' none)
    (H4 : ∀ w, Calls Try.prog 12 #[sp A B, .int .i64 n] w fun e w' => e = .returned (.int .i64 c) ∧ w.grownBy w' none)
    (H5 : ∀ w, Calls Try.prog 13 #[sp A B, .int .i64 x] w fun e w' => e = .returned (.bool h) ∧ w.grownBy w' none)
    (H6 : ∀ w, Calls Try.prog 14 #[sp A B, .int .i64 x] w fun e w' => e = .returned (.bool h) ∧ w.grownBy w' none)
    (H7 : ∀ w, Calls Try.prog 15 #[sp A B, sp C D] w fun e w' => e = .returned (.bool i) ∧ w.grownBy w' none)
    (H8 : ∀ w, Calls Try.prog 16 #[sp A B, sp C D] w fun e w' => e = .returned (.bool i) ∧ w.grownBy w' none)
    (H9 : ∀ w, Calls Try.prog 17 #[sp A B, sp C D] w fun e w' => e = .returned (.bool p) ∧ w.grownBy w' none)
    (H10 : ∀ w, Calls Try.prog 18 #[sp A B, sp C D] w fun e w' => e = .returned (.bool p) ∧ w.grownBy w' none) :
    Calls Try.prog 3 #[sp A B, sp C D, .int .i64 x, .int .i64 n] w fun e w' => e = .returned (.bool true) ∧ w.grownBy w' none := by
  obtain ⟨X0, Y0⟩ := boxTwo w A B C D
  go_enter Try.func3, Try.ntmps3
  go_wp2_with fail
  refine (H1 _).mono ?_
  rintro e w1 ⟨rfl, g1⟩
  obtain ⟨P1x, Q1x⟩ := boxTwo w1 P0 P1 Q0 Q1
  have T1 := gbTwo w1 (.cells #[.int .i64 P0, .int .i64 P1] 23) (.cells #[.int .i64 Q0, .int .i64 Q1] 23) none
  have X1 := X0.kept g1
  have Y1 := Y0.kept g1
  have x0 := X1.at0
  have x1 := X1.at1
  have y0 := Y1.at0
  have y1 := Y1.at1
  have lx := X1.lt
  go_wp2_with fail
  refine (H2 _).mono ?_
  rintro e w2 ⟨rfl, g2⟩
  obtain ⟨P2x, Q2x⟩ := boxTwo w2 P0 P1 Q0 Q1
  have T2 := gbTwo w2 (.cells #[.int .i64 P0, .int .i64 P1] 23) (.cells #[.int .i64 Q0, .int .i64 Q1] 23) none
  have G2 := gbTrans g2 T2
  have G1 := gbTrans T1 G2
  obtain ⟨a0, a1⟩ := (X1.kept G1).all
  obtain ⟨b0, b1⟩ := (Y1.kept G1).all
  obtain ⟨c0, c1⟩ := (P1x.kept G2).all
  obtain ⟨d0, d1⟩ := (Q1x.kept G2).all
  obtain ⟨e0, e1⟩ := P2x.all
  obtain ⟨f0, f1⟩ := Q2x.all
  clear x0 x1 y0 y1
  go_wp2
  refine wp_region_grown (by kernel_rfl) (by kernel_rfl) fun _ => ?_
  repeat (go_big_quiet_step ((first | (go_at_call 11; with_reducible exact callsGr (H3 _)) | (go_at_call 12; with_reducible exact callsGr (H4 _)) | (go_at_call 13; with_reducible exact callsGr (H5 _)) | (go_at_call 14; with_reducible exact callsGr (H6 _)) | (go_at_call 15; with_reducible exact callsGr (H7 _)) | (go_at_call 16; with_reducible exact callsGr (H8 _)) | (go_at_call 17; with_reducible exact callsGr (H9 _)) | (go_at_call 18; with_reducible exact callsGr (H10 _)))))
  refine wpQuiet_nil ?_
  rintro _ ⟨⟨w3, g3⟩, rfl⟩
  go_wp2
  go_ret
  exact ⟨rfl, gbTrans (gbTwo _ _ _ _) (gbTrans g1 (gbTrans G1 g3))⟩

theorem walk (A B C D x n : Int) (w : World) :
    Calls Try.prog 3 #[sp A B, sp C D, .int .i64 x, .int .i64 n] w fun e w' => e = .returned (.bool true) ∧ Below w.heap.size w w' := by
  refine endWalk ?_
  by_cases h : M.rgt A B = true ∧ B ≠ 0
  · obtain ⟨h1, h2⟩ := h
    obtain ⟨a, k, m, rfl, rfl, hk, _⟩ := M.rgt_nat h1
    obtain ⟨b, hb⟩ : ∃ b, b + 1 = k := ⟨k - 1, by omega⟩
    exact core a k C D x n _ _ _ _ _ _ _ _ _ w (fun w => halves_yes a b _ k w hb hk rfl h1) (fun w => rhalves_yes a b _ k w hb hk rfl h1) (check_any _ _ _) (rcheck_any _ _ _) (has_any _ _ _) (rhas_any _ _ _) (in_any _ _ _ _) (rin_any _ _ _ _) (apart_any _ _ _ _) (rapart_any _ _ _ _)
  · exact core A B C D x n _ _ _ _ _ _ _ _ _ w (fun w => halves_no A B w h) (fun w => rhalves_no A B w h) (check_any _ _ _) (rcheck_any _ _ _) (has_any _ _ _) (rhas_any _ _ _) (in_any _ _ _ _) (rin_any _ _ _ _) (apart_any _ _ _ _) (rapart_any _ _ _ _)

set_option maxRecDepth 100000 in
theorem lifted (os : Os) (started : os.Started) (H : Type) (enc : TypeId × Value → H) :
    ReturnsInHanded {} Try.checked os 3 .any (Rows.spanTellsSpec.pre6 enc Try.prog Try.f3 Rows.spanTellsRow.domain false) (Rows.spanTellsSpec.post enc Try.prog Try.f3 false true false false) := by
  refine returnsInHanded_of_change (C := Try.checked) own started (by kernel_rfl) Try.func3
    (ChangeSpec.witness6 (enc := enc) (C := Try.checked) false ⟨#[], #[.agg #[.int .i64 0, .int .i64 0], .agg #[.int .i64 0, .int .i64 0], .int .i64 0, .int .i64 0], []⟩ 8 (by kernel_rfl) (by kernel_rfl) (by kernel_rfl) (by kernel_rfl)) ?_
  intro W base args ds gs before hval0 hW hcnd _
  have hval : ∀ (j : Nat) t v, Try.f3.params[j]? = some t → args[j]? = some v → Value.okWide Try.prog W .any base t v := hval0
  have hW' := hW
  obtain ⟨p, q, hA0, hV, rfl, hfz, hnd⟩ := hW
  have hA : DataW.TrodAll enc Try.prog W 0 (fun _ => true) true Try.f3.params.toList args.toList ds p := hA0
  rw [Try.params3] at hA hval
  obtain ⟨v0, vs0, d0, ds0, p0, q0, hargs, rfl, rfl, h0, r0⟩ := trodAll_cons hA
  obtain ⟨v1, vs1, d1, ds1, p1, q1, rfl, rfl, rfl, h1, r1⟩ := trodAll_cons r0
  obtain ⟨v2, vs2, d2, ds2, p2, q2, rfl, rfl, rfl, h2, r2⟩ := trodAll_cons r1
  obtain ⟨v3, vs3, d3, ds3, p3, q3, rfl, rfl, rfl, h3, r3⟩ := trodAll_cons r2
  obtain ⟨rfl, rfl, rfl⟩ := trodAll_nil r3
  obtain rfl : args = #[v0, v1, v2, v3] := by cases args; simp_all
  obtain ⟨rfl, rfl⟩ := trodVars_none hV
  obtain ⟨A0, B0, rfl⟩ := spanArg (hval 0 23 v0 rfl rfl) h0
  have k0 := h0
  have lt0 : ∀ x ∈ p0, x.block < W.heap.size := by obtain ⟨m, hm⟩ := k0; exact DataW.trod_lt m _ _ _ hm
  obtain ⟨A1, B1, rfl⟩ := spanArg (hval 1 23 v1 rfl rfl) h1
  have k1 := h1
  have lt1 : ∀ x ∈ p1, x.block < W.heap.size := by obtain ⟨m, hm⟩ := k1; exact DataW.trod_lt m _ _ _ hm
  obtain ⟨a2, rfl, rfl, rfl, w2⟩ := open_int Try.underlying3 (hval 2 3 v2 rfl rfl) h2
  obtain ⟨a3, rfl, rfl, rfl, w3⟩ := open_int Try.underlying3 (hval 3 3 v3 rfl rfl) h3
  clear hA0 hval0
  refine (walk A0 B0 A1 B1 a2 a3 W).mono fun e W' ⟨he, bel⟩ => ?_
  subst he
  exact ⟨_, rfl, _, _, _, [], _, [], hW', trodAll_mk1 (shut_bool Try.underlying4 _), (trodAll_cons_mk (Below.trod laidOut (by kernel_rfl) (of_decide_eq_true (by kernel_rfl)) k0 bel lt0) (trodAll_cons_mk (Below.trod laidOut (by kernel_rfl) (of_decide_eq_true (by kernel_rfl)) k1 bel lt1) (trodAll_cons_mk (shut_int Try.underlying3 w2) (trodAll_cons_mk (shut_int Try.underlying3 w3) trodAll_mk0)))), rfl, bel.frame _, fun h => by cases h⟩

theorem over : Rows.spanTellsRow.holds Try.pinned (OpenSpec.ofChange Rows.spanTellsSpec) :=
  OpenClaim.holds_of_wide 3 Try.f3 rfl rfl rfl rfl rfl rfl rfl ⟨rfl, rfl, rfl, rfl, rfl⟩ rfl rfl rfl rfl rfl (by kernel_rfl) Try.func3 (by kernel_rfl)
    (of_decide_eq_true (by kernel_rfl)) (by unfold Func.isWrapper; first | (rw [if_pos (by decide +kernel)]; kernel_rfl) | (rw [if_neg (by decide +kernel)]; exact ⟨rfl, rfl⟩))
    (fun os started H enc _ => lifted os started H enc)

theorem proved : Rows.SpanTellsSaid := over
end Go.Proofs.Ythjbihbaccnmcaa.spanTells
namespace Go.Proofs.Ythjbihbaccnmcaa
theorem spanTells_holds : Rows.SpanTellsSaid := spanTells.proved
#print axioms spanTells_holds
end Go.Proofs.Ythjbihbaccnmcaa
