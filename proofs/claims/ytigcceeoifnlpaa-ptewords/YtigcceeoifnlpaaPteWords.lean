/- PteWords (12.1): any entry in a word, any word as an entry, any address in its places: the program answers as the document does. For every input; no condition. -/
import Derived.Test.YtigcceeoifnlpaaRef
import Derived.Deep.Cut
import Derived.Test.YtigcceeoifnlpaaArgs
import Derived.ProofKit
import Derived.OpenShut
import Derived.ShutString
import Derived.ChangeOld
import Derived.Below
import Derived.Deep.Slices
namespace Go.Proofs.Ytigcceeoifnlpaa.pteWords
open Go.ChangeShapes Go.WideShapes Go.ChangeAt Go.RowKit
set_option linter.unusedVariables false

theorem own : ownKnob Try.prog.godebug = none := by kernel_rfl
theorem laidOut : laidOutB Try.prog = true := by kernel_rfl

set_option maxHeartbeats 400000 in
theorem from_any (v o : Bool) (a : Int) (w : World) : Calls Try.prog 13 #[ev ⟨v, o, a⟩] w fun e w' => e = .returned (ev ⟨v, o, a⟩) ∧ w.grownBy w' none := by
  have G0 := gbAlloc w (.cells #[.bool v, .bool o, .int .i64 a] 28) none
  have G1 := gbAllocN G0 (.cells #[.bool v, .bool o, .int .i64 a] 23)
  go_enter Try.func13, Try.ntmps13
  go_wp2
  exact bodyPost_ret (v := ev ⟨v, o, a⟩) (by simp [results, Try.results13, go_sem]) rfl ⟨rfl, G1⟩

set_option maxHeartbeats 2000000 in
theorem inner (v o : Bool) (a W A x f : Int) (d0 d1 : Bool) (d2 h p q r j : Int)
    (HT : ∀ w, Calls Try.prog 7 #[ev ⟨v, o, a⟩] w fun e w' => e = .returned (ev ⟨v, o, a⟩) ∧ w.grownBy w' none)
    (HP : ∀ w, Calls Try.prog 6 #[ev ⟨v, o, a⟩] w fun e w' => e = .returned (.tuple #[.int .u64 x, .int .i64 f]) ∧ w.grownBy w' none)
    (HQ : ∀ w, Calls Try.prog 8 #[ev ⟨v, o, a⟩] w fun e w' => e = .returned (.tuple #[.int .u64 x, .int .i64 f]) ∧ w.grownBy w' none)
    (HU : ∀ w, Calls Try.prog 9 #[.int .u64 W] w fun e w' => e = .returned (.tuple #[ev ⟨d0, d1, d2⟩, .int .i64 h]) ∧ w.grownBy w' none)
    (HV : ∀ w, Calls Try.prog 10 #[.int .u64 W] w fun e w' => e = .returned (.tuple #[ev ⟨d0, d1, d2⟩, .int .i64 h]) ∧ w.grownBy w' none)
    (HS : ∀ w, Calls Try.prog 11 #[.int .i64 A] w fun e w' => e = .returned (.tuple #[.int .i64 p, .int .i64 q, .int .i64 r, .int .i64 j]) ∧ w.grownBy w' none)
    (HR : ∀ w, Calls Try.prog 12 #[.int .i64 A] w fun e w' => e = .returned (.tuple #[.int .i64 p, .int .i64 q, .int .i64 r, .int .i64 j]) ∧ w.grownBy w' none)
    (HF : ∀ w, Calls Try.prog 13 #[ev ⟨d0, d1, d2⟩] w fun e w' => e = .returned (ev ⟨d0, d1, d2⟩) ∧ w.grownBy w' none) (w : World) :
    Calls Try.prog 3 #[ev ⟨v, o, a⟩, .int .u64 W, .int .i64 A] w fun e w' => e = .returned (.bool true) ∧ w.grownBy w' none := by
  have qe := eqGuard_r
  have qn := run_eql_r
  have he : M.eq ⟨d0, d1, d2⟩ ⟨d0, d1, d2⟩ = true := M.eq_refl _
  go_enter Try.func3, Try.ntmps3
  go_upto_region 1 with fail
  obtain ⟨W0, hW0, X, G0⟩ := boxNew w ⟨v, o, a⟩ 23
  simp only at hW0
  rw [hW0]
  clear hW0
  obtain ⟨a0, a1, a2, _, _⟩ := id X
  go_wp2_with fail
  refine (HT _).mono ?_
  rintro e w0 ⟨rfl, g0⟩
  go_wp2_with fail
  refine (HP _).mono ?_
  rintro e w1 ⟨rfl, g1⟩
  clear a0 a1 a2
  replace X := (X.kept g0).kept g1
  have G1 := gbTrans (gbTrans G0 g0) g1
  clear G0 g0 g1
  obtain ⟨a0, a1, a2, _, _⟩ := id X
  go_wp2_with fail
  refine (HQ _).mono ?_
  rintro e w2 ⟨rfl, g2⟩
  clear a0 a1 a2
  have G2 := gbTrans G1 g2
  clear G1 g2 X
  go_wp2_with fail
  refine (HU _).mono ?_
  rintro e w3 ⟨rfl, g3⟩
  go_upto_region 4 with fail
  obtain ⟨W3, hW3, Y, h3⟩ := boxNew w3 ⟨d0, d1, d2⟩ 28
  simp only at hW3
  rw [hW3]
  clear hW3
  have G3 := gbTrans (gbTrans G2 g3) h3
  clear G2 g3 h3
  go_wp2_with fail
  refine (HV _).mono ?_
  rintro e w4 ⟨rfl, g4⟩
  go_upto_region 5 with fail
  obtain ⟨W4, hW4, Z, h4⟩ := boxNew w4 ⟨d0, d1, d2⟩ 23
  simp only at hW4
  rw [hW4]
  clear hW4
  replace Y := (Y.kept g4).kept h4
  have G4 := gbTrans (gbTrans G3 g4) h4
  clear G3 g4 h4
  go_wp2_with fail
  refine (HS _).mono ?_
  rintro e w5 ⟨rfl, g5⟩
  go_wp2_with fail
  refine (HR _).mono ?_
  rintro e w6 ⟨rfl, g6⟩
  replace Y := (Y.kept g5).kept g6
  replace Z := (Z.kept g5).kept g6
  have G6 := gbTrans (gbTrans G4 g5) g6
  clear G4 g5 g6
  go_upto_region 7 with fail
  obtain ⟨y0, y1, y2⟩ := Y.all
  obtain ⟨z0, z1, z2⟩ := Z.all
  simp only at y0 y1 y2 z0 z1 z2
  clear Y Z
  refine wp_region_grown (by kernel_rfl) (by kernel_rfl) fun _ => ?_
  repeat (go_big_quiet_step ((go_at_call 13; with_reducible exact callsGr (HF _))))
  refine wpQuiet_nil ?_
  rintro _ ⟨⟨w7, g7⟩, rfl⟩
  go_wp2
  go_ret
  exact ⟨rfl, gbTrans G6 g7⟩

theorem walk (v o : Bool) (a : Int) (a1 : Int) (w1 : (Lit.int .u64 a1).wf = true) (a2 : Int) (w : World) :
    Calls Try.prog 3 #[ev ⟨v, o, a⟩, .int .u64 a1, .int .i64 a2] w fun e w' => e = .returned (.bool true) ∧ Below w.heap.size w w' := by
  refine endWalk ?_
  have u1 := u64_wf w1
  obtain ⟨W, rfl⟩ : ∃ A : Nat, a1 = A := ⟨a1.toNat, by have := u1.1; omega⟩
  have hW : W < 18446744073709551616 := by have := u1.2; omega
  obtain ⟨⟨x, f⟩, hp⟩ : ∃ p, M.pk ⟨v, o, a⟩ = p := ⟨_, rfl⟩
  obtain ⟨⟨⟨d0, d1, d2⟩, h⟩, hu⟩ : ∃ p, M.up W = p := ⟨_, rfl⟩
  obtain ⟨⟨p, q, r, j⟩, hs⟩ : ∃ p, M.sp a2 = p := ⟨_, rfl⟩
  exact inner v o a W a2 x f d0 d1 d2 h p q r j (fun w => to_any v o a w) (fun w => pack_is v o a x f hp w) (fun w => rpack_is v o a x f hp w)
    (fun w => unpack_is W _ h hW hu w) (fun w => runpack_is W _ h hW hu w) (fun w => split_is a2 p q r j hs w) (fun w => rsplit_is a2 p q r j hs w) (fun w => from_any d0 d1 d2 w) w

set_option maxRecDepth 100000 in
theorem lifted (os : Os) (started : os.Started) (H : Type) (enc : TypeId × Value → H) :
    ReturnsInHanded {} Try.checked os 3 .any (Rows.pteWordsSpec.pre6 enc Try.prog Try.f3 Rows.pteWordsRow.domain false) (Rows.pteWordsSpec.post enc Try.prog Try.f3 false true false false) := by
  refine returnsInHanded_of_change (C := Try.checked) own started (by kernel_rfl) Try.func3
    (ChangeSpec.witness6 (enc := enc) (C := Try.checked) false ⟨#[], #[.agg #[.bool false, .bool false, .int .i64 0], .int .u64 0, .int .i64 0], []⟩ 8 (by kernel_rfl) (by kernel_rfl) (by kernel_rfl) (by kernel_rfl)) ?_
  intro W base args ds gs before hval0 hW hcnd _
  have hval : ∀ (j : Nat) t v, Try.f3.params[j]? = some t → args[j]? = some v → Value.okWide Try.prog W .any base t v := hval0
  have hW' := hW
  obtain ⟨p, q, hA0, hV, rfl, hfz, hnd⟩ := hW
  have hA : DataW.TrodAll enc Try.prog W 0 (fun _ => true) true Try.f3.params.toList args.toList ds p := hA0
  rw [Try.params3] at hA hval
  obtain ⟨v0, vs0, d0, ds0, p0, q0, hargs, rfl, rfl, h0, r0⟩ := trodAll_cons hA
  obtain ⟨v1, vs1, d1, ds1, p1, q1, rfl, rfl, rfl, h1, r1⟩ := trodAll_cons r0
  obtain ⟨v2, vs2, d2, ds2, p2, q2, rfl, rfl, rfl, h2, r2⟩ := trodAll_cons r1
  obtain ⟨rfl, rfl, rfl⟩ := trodAll_nil r2
  obtain rfl : args = #[v0, v1, v2] := by cases args; simp_all
  obtain ⟨rfl, rfl⟩ := trodVars_none hV
  obtain ⟨V0, O0, A0, rfl⟩ := entryArg (hval 0 23 v0 rfl rfl) h0
  have k0 := h0
  have lt0 : ∀ x ∈ p0, x.block < W.heap.size := by obtain ⟨m, hm⟩ := k0; exact DataW.trod_lt m _ _ _ hm
  obtain ⟨a1, rfl, rfl, rfl, w1⟩ := open_int Try.underlying24 (hval 1 24 v1 rfl rfl) h1
  obtain ⟨a2, rfl, rfl, rfl, w2⟩ := open_int Try.underlying3 (hval 2 3 v2 rfl rfl) h2
  clear hA0 hval0
  refine (walk V0 O0 A0 a1 w1 a2 W).mono fun e W' ⟨he, bel⟩ => ?_
  subst he
  exact ⟨_, rfl, _, _, _, [], _, [], hW', trodAll_mk1 (shut_bool Try.underlying4 _), (trodAll_cons_mk (Below.trod laidOut (by kernel_rfl) (of_decide_eq_true (by kernel_rfl)) k0 bel lt0) (trodAll_cons_mk (shut_int Try.underlying24 w1) (trodAll_cons_mk (shut_int Try.underlying3 w2) trodAll_mk0))), rfl, bel.frame _, fun h => by cases h⟩

theorem over : Rows.pteWordsRow.holds Try.pinned (OpenSpec.ofChange Rows.pteWordsSpec) :=
  OpenClaim.holds_of_wide 3 Try.f3 rfl rfl rfl rfl rfl rfl rfl ⟨rfl, rfl, rfl, rfl, rfl⟩ rfl rfl rfl rfl rfl (by kernel_rfl) Try.func3 (by kernel_rfl)
    (of_decide_eq_true (by kernel_rfl)) (by unfold Func.isWrapper; first | (rw [if_pos (by decide +kernel)]; kernel_rfl) | (rw [if_neg (by decide +kernel)]; exact ⟨rfl, rfl⟩))
    (fun os started H enc _ => lifted os started H enc)

theorem proved : Rows.PteWordsSaid := over
end Go.Proofs.Ytigcceeoifnlpaa.pteWords
namespace Go.Proofs.Ytigcceeoifnlpaa
theorem pteWords_holds : Rows.PteWordsSaid := pteWords.proved
#print axioms pteWords_holds
end Go.Proofs.Ytigcceeoifnlpaa
