/- A span's halves are apart, lie in it, and have all its addresses together, and there are none of a span that is not right or of one word, as the given function SpanHalves asks; for whatever span and address; no condition. -/
import Derived.Test.YthjbihbaccnmcaaHalf
import Derived.Test.YthjbihbaccnmcaaRef
import Derived.Test.YthjbihbaccnmcaaArgs
import Derived.ProofKit
import Derived.OpenShut
import Derived.ShutString
import Derived.ChangeOld
import Derived.Below
import Derived.Deep.Slices
namespace Go.Proofs.Ythjbihbaccnmcaa.spanHalves
open Go.ChangeShapes Go.WideShapes Go.ChangeAt Go.RowKit
set_option linter.unusedVariables false

theorem own : ownKnob Try.prog.godebug = none := by kernel_rfl
theorem laidOut : laidOutB Try.prog = true := by kernel_rfl

set_option maxHeartbeats 1000000 in
theorem walk_no (A B x : Int) (w : World) (h : ¬ (M.rgt A B = true ∧ B ≠ 0)) :
    Calls Try.prog 7 #[sp A B, .int .i64 x] w fun e w' => e = .returned (.bool true) ∧ w.grownBy w' none := by
  have HH := fun w => halves_no A B w h
  have X0 := Box.made w A B
  obtain ⟨v, hv⟩ : ∃ v, M.rgt A B = v := ⟨_, rfl⟩
  have HR := fun w => rright_is A B v hv w
  have hv' : v = false ∨ v = true ∧ B = 0 := by
    rw [hv] at h
    cases v
    · exact .inl rfl
    · exact .inr ⟨rfl, Classical.byContradiction fun e => h ⟨rfl, e⟩⟩
  clear h hv
  rcases hv' with rfl | ⟨rfl, rfl⟩
  all_goals
    go_enter Try.func7, Try.ntmps7
    go_wp2_with fail
    refine (works_any _).mono ?_
    rintro e w1 ⟨rfl, g1⟩
    have X1 := X0.kept g1
    have x0 := X1.at0
    have x1 := X1.at1
    go_wp2_with fail
    refine (HH _).mono ?_
    rintro e w2 ⟨rfl, g2⟩
    have X2 := X1.kept g2
    clear x0 x1
    have x0 := X2.at0
    have x1 := X2.at1
    have l2 := X2.lt
    go_wp2_with fail
    refine (HR _).mono ?_
    rintro e w3 ⟨rfl, g3⟩
    have G3 := gbTrans (gbTwo w2 (.cells #[.int .i64 0, .int .i64 0] 23) (.cells #[.int .i64 0, .int .i64 0] 23) none) g3
    have X3 := X2.kept G3
    clear x0 x1
    have x0 := X3.at0
    have x1 := X3.at1
    go_wp2
    go_ret
    exact ⟨rfl, gbTrans (gbAlloc _ _ _) (gbTrans g1 (gbTrans g2 G3))⟩

set_option maxHeartbeats 2000000 in
theorem walk_yes (a b c n : Nat) (x : Int) (v1 v2 : Bool) (w : World) (hn : n ≠ 0)
    (HH : ∀ w, Calls Try.prog 9 #[sp a n] w fun e w' => e = .returned (.tuple #[sp a b, sp c b, .int .i64 0]) ∧ w.grownBy w' none)
    (HA : ∀ w, Calls Try.prog 17 #[sp a b, sp c b] w fun e w' => e = .returned (.bool true) ∧ w.grownBy w' none)
    (HI : ∀ w, Calls Try.prog 15 #[sp a b, sp a n] w fun e w' => e = .returned (.bool true) ∧ w.grownBy w' none)
    (HJ : ∀ w, Calls Try.prog 15 #[sp c b, sp a n] w fun e w' => e = .returned (.bool true) ∧ w.grownBy w' none)
    (HS : ∀ w, Calls Try.prog 13 #[sp a n, .int .i64 x] w fun e w' => e = .returned (.bool (v1 || v2)) ∧ w.grownBy w' none)
    (HP : ∀ w, Calls Try.prog 13 #[sp a b, .int .i64 x] w fun e w' => e = .returned (.bool v1) ∧ w.grownBy w' none)
    (HQ : ∀ w, Calls Try.prog 13 #[sp c b, .int .i64 x] w fun e w' => e = .returned (.bool v2) ∧ w.grownBy w' none) :
    Calls Try.prog 7 #[sp a n, .int .i64 x] w fun e w' => e = .returned (.bool true) ∧ w.grownBy w' none := by
  have X0 := Box.made w a n
  clear hn
  cases v1
  all_goals
    simp only [Bool.false_or, Bool.true_or] at HS
    go_enter Try.func7, Try.ntmps7
    go_wp2_with fail
    refine (works_any _).mono ?_
    rintro e w1 ⟨rfl, g1⟩
    have X1 := X0.kept g1
    have x0 := X1.at0
    have x1 := X1.at1
    go_wp2_with fail
    refine (HH _).mono ?_
    rintro e w2 ⟨rfl, g2⟩
    obtain ⟨P2, Q2⟩ := boxTwo w2 a b c b
    have X2 := (X1.kept g2).kept (gbTwo w2 (.cells #[.int .i64 a, .int .i64 b] 23) (.cells #[.int .i64 c, .int .i64 b] 23) none)
    clear x0 x1
    obtain ⟨c0, c1⟩ := X2.all
    obtain ⟨d0, d1⟩ := P2.all
    obtain ⟨e0, e1⟩ := Q2.all
    go_wp2
    refine wp_region_grown (by kernel_rfl) (by kernel_rfl) fun _ => ?_
    repeat (go_big_quiet_step ((first | (go_at_call 17; with_reducible exact callsGr (HA _)) | (go_at_call 15; first | with_reducible exact callsGr (HI _) | with_reducible exact callsGr (HJ _)) | (go_at_call 13; first | with_reducible exact callsGr (HS _) | with_reducible exact callsGr (HP _) | with_reducible exact callsGr (HQ _)))))
    refine wpQuiet_nil ?_
    rintro _ ⟨⟨w6, g6⟩, rfl⟩
    go_wp2
    go_ret
    exact ⟨ret_bool (by simp), gbTrans (gbAlloc _ _ _) (gbTrans g1 (gbTrans g2 (gbTrans (gbTwo _ _ _ _) g6)))⟩

theorem walk (A B x : Int) (w : World) :
    Calls Try.prog 7 #[sp A B, .int .i64 x] w fun e w' => e = .returned (.bool true) ∧ Below w.heap.size w w' := by
  refine endWalk ?_
  by_cases h : M.rgt A B = true ∧ B ≠ 0
  · obtain ⟨h1, h2⟩ := h
    obtain ⟨a, n, k, rfl, rfl, _⟩ := M.rgt_nat h1
    obtain ⟨b, hb⟩ : ∃ b, b + 1 = n := ⟨n - 1, by omega⟩
    obtain ⟨_, r1, r2, k1, k2, k3, k4, _⟩ := M.half_facts hb rfl rfl h1
    exact walk_yes a b _ n x _ _ w (by omega) (fun w => halves_is a b _ _ n w hb rfl rfl h1) (apart_is _ _ _ _ true k1) (in_is _ _ _ _ true k2) (in_is _ _ _ _ true k3) (has_is _ _ _ _ (k4 x)) (has_any _ _ _) (has_any _ _ _)
  · exact walk_no A B x w h

set_option maxRecDepth 100000 in
theorem lifted (os : Os) (started : os.Started) (H : Type) (enc : TypeId × Value → H) :
    ReturnsInHanded {} Try.checked os 7 .any (Rows.spanHalvesSpec.pre6 enc Try.prog Try.f7 Rows.spanHalvesRow.domain false) (Rows.spanHalvesSpec.post enc Try.prog Try.f7 false true false false) := by
  refine returnsInHanded_of_change (C := Try.checked) own started (by kernel_rfl) Try.func7
    (ChangeSpec.witness6 (enc := enc) (C := Try.checked) false ⟨#[], #[.agg #[.int .i64 0, .int .i64 0], .int .i64 0], []⟩ 8 (by kernel_rfl) (by kernel_rfl) (by kernel_rfl) (by kernel_rfl)) ?_
  intro W base args ds gs before hval0 hW hcnd _
  have hval : ∀ (j : Nat) t v, Try.f7.params[j]? = some t → args[j]? = some v → Value.okWide Try.prog W .any base t v := hval0
  have hW' := hW
  obtain ⟨p, q, hA0, hV, rfl, hfz, hnd⟩ := hW
  have hA : DataW.TrodAll enc Try.prog W 0 (fun _ => true) true Try.f7.params.toList args.toList ds p := hA0
  rw [Try.params7] at hA hval
  obtain ⟨v0, vs0, d0, ds0, p0, q0, hargs, rfl, rfl, h0, r0⟩ := trodAll_cons hA
  obtain ⟨v1, vs1, d1, ds1, p1, q1, rfl, rfl, rfl, h1, r1⟩ := trodAll_cons r0
  obtain ⟨rfl, rfl, rfl⟩ := trodAll_nil r1
  obtain rfl : args = #[v0, v1] := by cases args; simp_all
  obtain ⟨rfl, rfl⟩ := trodVars_none hV
  obtain ⟨A0, B0, rfl⟩ := spanArg (hval 0 23 v0 rfl rfl) h0
  have k0 := h0
  have lt0 : ∀ x ∈ p0, x.block < W.heap.size := by obtain ⟨m, hm⟩ := k0; exact DataW.trod_lt m _ _ _ hm
  obtain ⟨a1, rfl, rfl, rfl, w1⟩ := open_int Try.underlying3 (hval 1 3 v1 rfl rfl) h1
  clear hA0 hval0
  refine (walk A0 B0 a1 W).mono fun e W' ⟨he, bel⟩ => ?_
  subst he
  exact ⟨_, rfl, _, _, _, [], _, [], hW', trodAll_mk1 (shut_bool Try.underlying4 _), (trodAll_cons_mk (Below.trod laidOut (by kernel_rfl) (of_decide_eq_true (by kernel_rfl)) k0 bel lt0) (trodAll_cons_mk (shut_int Try.underlying3 w1) trodAll_mk0)), rfl, bel.frame _, fun h => by cases h⟩

theorem over : Rows.spanHalvesRow.holds Try.pinned (OpenSpec.ofChange Rows.spanHalvesSpec) :=
  OpenClaim.holds_of_wide 7 Try.f7 rfl rfl rfl rfl rfl rfl rfl ⟨rfl, rfl, rfl, rfl, rfl⟩ rfl rfl rfl rfl rfl (by kernel_rfl) Try.func7 (by kernel_rfl)
    (of_decide_eq_true (by kernel_rfl)) (by unfold Func.isWrapper; first | (rw [if_pos (by decide +kernel)]; kernel_rfl) | (rw [if_neg (by decide +kernel)]; exact ⟨rfl, rfl⟩))
    (fun os started H enc _ => lifted os started H enc)

theorem proved : Rows.SpanHalvesSaid := over
end Go.Proofs.Ythjbihbaccnmcaa.spanHalves
namespace Go.Proofs.Ythjbihbaccnmcaa
theorem spanHalves_holds : Rows.SpanHalvesSaid := spanHalves.proved
#print axioms spanHalves_holds
end Go.Proofs.Ythjbihbaccnmcaa
