/- Of two spans, whatever they are: if both are right, the one lies in the other or they are apart, not both, as the given function SpanNests asks; if one is not right, neither; no condition. -/
import Derived.Test.YthjbihbaccnmcaaWorks
import Derived.Test.YthjbihbaccnmcaaRef
import Derived.Test.YthjbihbaccnmcaaNest
import Derived.Test.YthjbihbaccnmcaaArgs
import Derived.ProofKit
import Derived.OpenShut
import Derived.ShutString
import Derived.ChangeOld
import Derived.Below
import Derived.Deep.Slices
namespace Go.Proofs.Ythjbihbaccnmcaa.spanNests
open Go.ChangeShapes Go.WideShapes Go.ChangeAt Go.RowKit
set_option linter.unusedVariables false

theorem own : ownKnob Try.prog.godebug = none := by kernel_rfl
theorem laidOut : laidOutB Try.prog = true := by kernel_rfl

set_option maxHeartbeats 1000000 in
theorem walk_no (A B C D : Int) (w : World) (h : (M.rgt A B && M.rgt C D) = false) :
    Calls Try.prog 5 #[sp A B, sp C D] w fun e w' => e = .returned (.bool true) ∧ w.grownBy w' none := by
  obtain ⟨X0, Y0⟩ := boxTwo w A B C D
  have HI := fun w => in_is A B C D false (M.inn_no h).1 w
  have HA := fun w => apart_is A B C D false (M.inn_no h).2 w
  cases h1 : M.rgt A B
  · have HR := fun w => rright_is A B false h1 w
    clear h h1
    go_enter Try.func5, Try.ntmps5
    go_wp2_with fail
    refine (works_any _).mono ?_
    rintro e w1 ⟨rfl, g1⟩
    have X1 := X0.kept g1
    have Y1 := Y0.kept g1
    have x0 := X1.at0
    have x1 := X1.at1
    have y0 := Y1.at0
    have y1 := Y1.at1
    go_wp2_with fail
    refine (HR _).mono ?_
    rintro e w2 ⟨rfl, g2⟩
    have X2 := X1.kept g2
    have Y2 := Y1.kept g2
    clear x0 x1 y0 y1
    have x0 := X2.at0
    have x1 := X2.at1
    have y0 := Y2.at0
    have y1 := Y2.at1
    go_wp2_with fail
    refine (HI _).mono ?_
    rintro e w3 ⟨rfl, g3⟩
    have X3 := X2.kept g3
    have Y3 := Y2.kept g3
    clear x0 x1 y0 y1
    have x0 := X3.at0
    have x1 := X3.at1
    have y0 := Y3.at0
    have y1 := Y3.at1
    go_wp2_with fail
    refine (HA _).mono ?_
    rintro e w4 ⟨rfl, g4⟩
    go_wp2
    go_ret
    exact ⟨rfl, gbTrans (gbTwo _ _ _ _) (gbTrans g1 (gbTrans g2 (gbTrans g3 g4)))⟩
  · have h2 : M.rgt C D = false := by rw [h1] at h; simpa using h
    have HR := fun w => rright_is A B true h1 w
    have HS := fun w => rright_is C D false h2 w
    clear h h1 h2
    go_enter Try.func5, Try.ntmps5
    go_wp2_with fail
    refine (works_any _).mono ?_
    rintro e w1 ⟨rfl, g1⟩
    have X1 := X0.kept g1
    have Y1 := Y0.kept g1
    have x0 := X1.at0
    have x1 := X1.at1
    have y0 := Y1.at0
    have y1 := Y1.at1
    go_wp2_with fail
    refine (HR _).mono ?_
    rintro e w2 ⟨rfl, g2⟩
    have X2 := X1.kept g2
    have Y2 := Y1.kept g2
    clear x0 x1 y0 y1
    have x0 := X2.at0
    have x1 := X2.at1
    have y0 := Y2.at0
    have y1 := Y2.at1
    go_wp2_with fail
    refine (HS _).mono ?_
    rintro e w5 ⟨rfl, g5⟩
    have X5 := X2.kept g5
    have Y5 := Y2.kept g5
    clear x0 x1 y0 y1
    have x0 := X5.at0
    have x1 := X5.at1
    have y0 := Y5.at0
    have y1 := Y5.at1
    go_wp2_with fail
    refine (HI _).mono ?_
    rintro e w3 ⟨rfl, g3⟩
    have X3 := X5.kept g3
    have Y3 := Y5.kept g3
    clear x0 x1 y0 y1
    have x0 := X3.at0
    have x1 := X3.at1
    have y0 := Y3.at0
    have y1 := Y3.at1
    go_wp2_with fail
    refine (HA _).mono ?_
    rintro e w4 ⟨rfl, g4⟩
    go_wp2
    go_ret
    exact ⟨rfl, gbTrans (gbTwo _ _ _ _) (gbTrans g1 (gbTrans g2 (gbTrans g5 (gbTrans g3 g4))))⟩

set_option maxHeartbeats 2000000 in
theorem walk_yes (A B C D : Int) (i1 i2 p : Bool) (w : World) (HR : ∀ w, Calls Try.prog 25 #[sp A B] w fun e w' => e = .returned (.bool true) ∧ w.grownBy w' none)
    (HS : ∀ w, Calls Try.prog 25 #[sp C D] w fun e w' => e = .returned (.bool true) ∧ w.grownBy w' none)
    (HI : ∀ w, Calls Try.prog 15 #[sp A B, sp C D] w fun e w' => e = .returned (.bool i1) ∧ w.grownBy w' none)
    (HJ : ∀ w, Calls Try.prog 15 #[sp C D, sp A B] w fun e w' => e = .returned (.bool i2) ∧ w.grownBy w' none)
    (HK : ∀ w, Calls Try.prog 15 #[sp A B, sp A B] w fun e w' => e = .returned (.bool true) ∧ w.grownBy w' none)
    (HA : ∀ w, Calls Try.prog 17 #[sp A B, sp C D] w fun e w' => e = .returned (.bool p) ∧ w.grownBy w' none)
    (HB : ∀ w, Calls Try.prog 17 #[sp C D, sp A B] w fun e w' => e = .returned (.bool p) ∧ w.grownBy w' none)
    (hp : (i1 || i2) = !p) (he : i1 = true → i2 = true → A = C ∧ B = D) :
    Calls Try.prog 5 #[sp A B, sp C D] w fun e w' => e = .returned (.bool true) ∧ w.grownBy w' none := by
  obtain ⟨X0, Y0⟩ := boxTwo w A B C D
  have HE : Hid (i1 = true → i2 = true → A = C ∧ B = D) := he
  clear he
  have hp' : p = !(i1 || i2) := by rw [hp]; simp
  subst hp'
  clear hp
  cases i1 <;> cases i2
  all_goals
    simp only [Bool.or_false, Bool.false_or, Bool.or_self, Bool.not_true, Bool.not_false] at HA HB
    go_enter Try.func5, Try.ntmps5
    go_wp2_with fail
    refine (works_any _).mono ?_
    rintro e w1 ⟨rfl, g1⟩
    have X1 := X0.kept g1
    have Y1 := Y0.kept g1
    have x0 := X1.at0
    have x1 := X1.at1
    have y0 := Y1.at0
    have y1 := Y1.at1
    go_wp2_with fail
    refine (HR _).mono ?_
    rintro e w2 ⟨rfl, g2⟩
    have X2 := X1.kept g2
    have Y2 := Y1.kept g2
    clear x0 x1 y0 y1
    have x0 := X2.at0
    have x1 := X2.at1
    have y0 := Y2.at0
    have y1 := Y2.at1
    go_wp2_with fail
    refine (HS _).mono ?_
    rintro e w3 ⟨rfl, g3⟩
    have X3 := X2.kept g3
    have Y3 := Y2.kept g3
    clear x0 x1 y0 y1
    have x0 := X3.at0
    have x1 := X3.at1
    have y0 := Y3.at0
    have y1 := Y3.at1
    go_wp2_with fail
    refine (HI _).mono ?_
    rintro e w4 ⟨rfl, g4⟩
    have X4 := X3.kept g4
    have Y4 := Y3.kept g4
    clear x0 x1 y0 y1
    have x0 := X4.at0
    have x1 := X4.at1
    have y0 := Y4.at0
    have y1 := Y4.at1
    have G4 := gbTrans (gbTwo w (.cells #[.int .i64 A, .int .i64 B] 23) (.cells #[.int .i64 C, .int .i64 D] 23) none) (gbTrans g1 (gbTrans g2 (gbTrans g3 g4)))
    clear X0 Y0 X1 Y1 X2 Y2 X3 Y3 g1 g2 g3 g4 HR HS
  · go_wp2_with fail
    refine (HJ _).mono ?_
    rintro e w5 ⟨rfl, g5⟩
    obtain ⟨c0, c1⟩ := (X4.kept g5).all
    obtain ⟨d0, d1⟩ := (Y4.kept g5).all
    clear x0 x1 y0 y1
    go_wp2
    refine wp_region_grown (by kernel_rfl) (by kernel_rfl) fun _ => ?_
    repeat (go_big_quiet_step ((first | (go_at_call 17; first | with_reducible exact callsGr (HA _) | with_reducible exact callsGr (HB _)) | (go_at_call 15; first | with_reducible exact callsGr (HI _) | with_reducible exact callsGr (HJ _) | with_reducible exact callsGr (HK _)))))
    refine wpQuiet_nil ?_
    rintro _ ⟨⟨w6, g6⟩, rfl⟩
    go_wp2
    go_ret
    exact ⟨rfl, gbTrans G4 (gbTrans g5 g6)⟩
  · go_wp2_with fail
    refine (HJ _).mono ?_
    rintro e w5 ⟨rfl, g5⟩
    obtain ⟨c0, c1⟩ := (X4.kept g5).all
    obtain ⟨d0, d1⟩ := (Y4.kept g5).all
    clear x0 x1 y0 y1
    go_wp2
    refine wp_region_grown (by kernel_rfl) (by kernel_rfl) fun _ => ?_
    repeat (go_big_quiet_step ((first | (go_at_call 17; first | with_reducible exact callsGr (HA _) | with_reducible exact callsGr (HB _)) | (go_at_call 15; first | with_reducible exact callsGr (HI _) | with_reducible exact callsGr (HJ _) | with_reducible exact callsGr (HK _)))))
    refine wpQuiet_nil ?_
    rintro _ ⟨⟨w6, g6⟩, rfl⟩
    go_wp2
    go_ret
    exact ⟨rfl, gbTrans G4 (gbTrans g5 g6)⟩
  · obtain ⟨c0, c1⟩ := X4.all
    obtain ⟨d0, d1⟩ := Y4.all
    clear x0 x1 y0 y1
    go_wp2
    refine wp_region_grown (by kernel_rfl) (by kernel_rfl) fun _ => ?_
    repeat (go_big_quiet_step ((first | (go_at_call 17; first | with_reducible exact callsGr (HA _) | with_reducible exact callsGr (HB _)) | (go_at_call 15; first | with_reducible exact callsGr (HI _) | with_reducible exact callsGr (HJ _) | with_reducible exact callsGr (HK _)))))
    refine wpQuiet_nil ?_
    rintro _ ⟨⟨w6, g6⟩, rfl⟩
    go_wp2
    go_ret
    exact ⟨rfl, gbTrans G4 g6⟩
  · obtain ⟨rfl, rfl⟩ : A = C ∧ B = D := by simpa using HE.out
    obtain ⟨c0, c1⟩ := X4.all
    obtain ⟨d0, d1⟩ := Y4.all
    clear x0 x1 y0 y1
    go_wp2
    refine wp_region_grown (by kernel_rfl) (by kernel_rfl) fun _ => ?_
    repeat (go_big_quiet_step ((first | (go_at_call 17; first | with_reducible exact callsGr (HA _) | with_reducible exact callsGr (HB _)) | (go_at_call 15; first | with_reducible exact callsGr (HI _) | with_reducible exact callsGr (HJ _) | with_reducible exact callsGr (HK _)))))
    refine wpQuiet_nil ?_
    rintro _ ⟨⟨w6, g6⟩, rfl⟩
    go_wp2
    go_ret
    exact ⟨rfl, gbTrans G4 g6⟩

theorem walk (A B C D : Int) (w : World) :
    Calls Try.prog 5 #[sp A B, sp C D] w fun e w' => e = .returned (.bool true) ∧ Below w.heap.size w w' := by
  refine endWalk ?_
  cases h : M.rgt A B && M.rgt C D
  · exact walk_no A B C D w h
  · obtain ⟨h1, h2⟩ := Bool.and_eq_true_iff.1 h
    exact walk_yes A B C D (M.inn A B C D) (M.inn C D A B) (M.apt A B C D) w (rright_is A B true h1) (rright_is C D true h2) (in_any A B C D) (in_any C D A B) (in_is A B A B true (M.inn_self h1)) (apart_any A B C D)
      (apart_is C D A B _ (M.apt_comm A B C D)) (M.nests h1 h2) M.inn_both

set_option maxRecDepth 100000 in
theorem lifted (os : Os) (started : os.Started) (H : Type) (enc : TypeId × Value → H) :
    ReturnsInHanded {} Try.checked os 5 .any (Rows.spanNestsSpec.pre6 enc Try.prog Try.f5 Rows.spanNestsRow.domain false) (Rows.spanNestsSpec.post enc Try.prog Try.f5 false true false false) := by
  refine returnsInHanded_of_change (C := Try.checked) own started (by kernel_rfl) Try.func5
    (ChangeSpec.witness6 (enc := enc) (C := Try.checked) false ⟨#[], #[.agg #[.int .i64 0, .int .i64 0], .agg #[.int .i64 0, .int .i64 0]], []⟩ 8 (by kernel_rfl) (by kernel_rfl) (by kernel_rfl) (by kernel_rfl)) ?_
  intro W base args ds gs before hval0 hW hcnd _
  have hval : ∀ (j : Nat) t v, Try.f5.params[j]? = some t → args[j]? = some v → Value.okWide Try.prog W .any base t v := hval0
  have hW' := hW
  obtain ⟨p, q, hA0, hV, rfl, hfz, hnd⟩ := hW
  have hA : DataW.TrodAll enc Try.prog W 0 (fun _ => true) true Try.f5.params.toList args.toList ds p := hA0
  rw [Try.params5] at hA hval
  obtain ⟨v0, vs0, d0, ds0, p0, q0, hargs, rfl, rfl, h0, r0⟩ := trodAll_cons hA
  obtain ⟨v1, vs1, d1, ds1, p1, q1, rfl, rfl, rfl, h1, r1⟩ := trodAll_cons r0
  obtain ⟨rfl, rfl, rfl⟩ := trodAll_nil r1
  obtain rfl : args = #[v0, v1] := by cases args; simp_all
  obtain ⟨rfl, rfl⟩ := trodVars_none hV
  obtain ⟨A0, B0, rfl⟩ := spanArg (hval 0 23 v0 rfl rfl) h0
  have k0 := h0
  have lt0 : ∀ x ∈ p0, x.block < W.heap.size := by obtain ⟨m, hm⟩ := k0; exact DataW.trod_lt m _ _ _ hm
  obtain ⟨A1, B1, rfl⟩ := spanArg (hval 1 23 v1 rfl rfl) h1
  have k1 := h1
  have lt1 : ∀ x ∈ p1, x.block < W.heap.size := by obtain ⟨m, hm⟩ := k1; exact DataW.trod_lt m _ _ _ hm
  clear hA0 hval0
  refine (walk A0 B0 A1 B1 W).mono fun e W' ⟨he, bel⟩ => ?_
  subst he
  exact ⟨_, rfl, _, _, _, [], _, [], hW', trodAll_mk1 (shut_bool Try.underlying4 _), (trodAll_cons_mk (Below.trod laidOut (by kernel_rfl) (of_decide_eq_true (by kernel_rfl)) k0 bel lt0) (trodAll_cons_mk (Below.trod laidOut (by kernel_rfl) (of_decide_eq_true (by kernel_rfl)) k1 bel lt1) trodAll_mk0)), rfl, bel.frame _, fun h => by cases h⟩

theorem over : Rows.spanNestsRow.holds Try.pinned (OpenSpec.ofChange Rows.spanNestsSpec) :=
  OpenClaim.holds_of_wide 5 Try.f5 rfl rfl rfl rfl rfl rfl rfl ⟨rfl, rfl, rfl, rfl, rfl⟩ rfl rfl rfl rfl rfl (by kernel_rfl) Try.func5 (by kernel_rfl)
    (of_decide_eq_true (by kernel_rfl)) (by unfold Func.isWrapper; first | (rw [if_pos (by decide +kernel)]; kernel_rfl) | (rw [if_neg (by decide +kernel)]; exact ⟨rfl, rfl⟩))
    (fun os started H enc _ => lifted os started H enc)

theorem proved : Rows.SpanNestsSaid := over
end Go.Proofs.Ythjbihbaccnmcaa.spanNests
namespace Go.Proofs.Ythjbihbaccnmcaa
theorem spanNests_holds : Rows.SpanNestsSaid := spanNests.proved
#print axioms spanNests_holds
end Go.Proofs.Ythjbihbaccnmcaa
