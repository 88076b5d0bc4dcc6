/- CapWords (5.1): for every capability and every two words, Check, Words and Of answer as the document's own definition does. No condition. -/
import Derived.Test.YtkgjcolimceogaaBoxes
import Derived.Test.YtkgjcolimceogaaRwds
import Derived.Test.YtkgjcolimceogaaArgs
import Derived.ProofKit
import Derived.OpenShut
import Derived.ShutString
import Derived.ChangeOld
import Derived.Below
import Derived.Deep.Slices
namespace Go.Proofs.Ytkgjcolimceogaa.capWords
open Go.ChangeShapes Go.WideShapes Go.ChangeAt Go.RowKit
set_option linter.unusedVariables false

theorem own : ownKnob Try.prog.godebug = none := by kernel_rfl
theorem laidOut : laidOutB Try.prog = true := by kernel_rfl

set_option maxHeartbeats 2000000 in
theorem inner (k o r b g n A B x y f d0 d1 d2 d3 d4 d5 h v : Int)
    (HW : ∀ w, Calls Try.prog 9 #[cv ⟨k, o, r, b, g, n⟩] w fun e w' => e = .returned (.tuple #[.int .u64 x, .int .u64 y, .int .i64 f]) ∧ w.grownBy w' none)
    (HV : ∀ w, Calls Try.prog 10 #[cv ⟨k, o, r, b, g, n⟩] w fun e w' => e = .returned (.tuple #[.int .u64 x, .int .u64 y, .int .i64 f]) ∧ w.grownBy w' none)
    (HO : ∀ w, Calls Try.prog 11 #[.int .u64 A, .int .u64 B] w fun e w' => e = .returned (.tuple #[cv ⟨d0, d1, d2, d3, d4, d5⟩, .int .i64 h]) ∧ w.grownBy w' none)
    (HP : ∀ w, Calls Try.prog 12 #[.int .u64 A, .int .u64 B] w fun e w' => e = .returned (.tuple #[cv ⟨d0, d1, d2, d3, d4, d5⟩, .int .i64 h]) ∧ w.grownBy w' none)
    (HC : ∀ w, Calls Try.prog 13 #[cv ⟨k, o, r, b, g, n⟩] w fun e w' => e = .returned (.int .i64 v) ∧ w.grownBy w' none)
    (HD : ∀ w, Calls Try.prog 14 #[cv ⟨k, o, r, b, g, n⟩] w fun e w' => e = .returned (.int .i64 v) ∧ w.grownBy w' none) (w : World) :
    Calls Try.prog 3 #[cv ⟨k, o, r, b, g, n⟩, .int .u64 A, .int .u64 B] w fun e w' => e = .returned (.bool true) ∧ w.grownBy w' none := by
  have qe := eqGuardCap
  have qn := run_eql_cap
  have he : M.eq ⟨d0, d1, d2, d3, d4, d5⟩ ⟨d0, d1, d2, d3, d4, d5⟩ = true := M.eq_refl _
  go_enter Try.func3, Try.ntmps3
  go_upto_region 1 with fail
  obtain ⟨W0, hW0, X, G0⟩ := boxNew w ⟨k, o, r, b, g, n⟩
  simp only at hW0
  rw [hW0]
  clear hW0
  obtain ⟨a0, a1, a2, a3, a4, a5, _, _⟩ := id X
  go_wp2_with fail
  refine (HW _).mono ?_
  rintro e w1 ⟨rfl, g1⟩
  clear a0 a1 a2 a3 a4 a5
  replace X := X.kept g1
  have G1 := gbTrans G0 g1
  clear G0 g1
  obtain ⟨a0, a1, a2, a3, a4, a5, _, _⟩ := id X
  go_wp2_with fail
  refine (HV _).mono ?_
  rintro e w2 ⟨rfl, g2⟩
  clear a0 a1 a2 a3 a4 a5
  replace X := X.kept g2
  have G2 := gbTrans G1 g2
  clear G1 g2
  go_wp2_with fail
  refine (HO _).mono ?_
  rintro e w3 ⟨rfl, g3⟩
  go_upto_region 4 with fail
  obtain ⟨W3, hW3, Y, h3⟩ := boxNew w3 ⟨d0, d1, d2, d3, d4, d5⟩
  simp only at hW3
  rw [hW3]
  clear hW3
  replace X := (X.kept g3).kept h3
  have G3 := gbTrans (gbTrans G2 g3) h3
  clear G2 g3 h3
  go_wp2_with fail
  refine (HP _).mono ?_
  rintro e w4 ⟨rfl, g4⟩
  go_upto_region 5 with fail
  obtain ⟨W4, hW4, Z, h4⟩ := boxNew w4 ⟨d0, d1, d2, d3, d4, d5⟩
  simp only at hW4
  rw [hW4]
  clear hW4
  replace X := (X.kept g4).kept h4
  replace Y := (Y.kept g4).kept h4
  have G4 := gbTrans (gbTrans G3 g4) h4
  clear G3 g4 h4
  obtain ⟨a0, a1, a2, a3, a4, a5⟩ := X.all
  obtain ⟨y0, y1, y2, y3, y4, y5⟩ := Y.all
  obtain ⟨z0, z1, z2, z3, z4, z5⟩ := Z.all
  simp only at a0 a1 a2 a3 a4 a5 y0 y1 y2 y3 y4 y5 z0 z1 z2 z3 z4 z5
  clear X Y Z
  refine wp_region_grown (by kernel_rfl) (by kernel_rfl) fun _ => ?_
  repeat (go_big_quiet_step ((first | (go_at_call 13; with_reducible exact callsGr (HC _)) | (go_at_call 14; with_reducible exact callsGr (HD _)))))
  refine wpQuiet_nil ?_
  rintro _ ⟨⟨w5, g5⟩, rfl⟩
  go_wp2
  go_ret
  exact ⟨rfl, gbTrans G4 g5⟩

theorem walk (k o r b g n : Int) (ub : U64 b) (ug : U64 g) (a1 : Int) (w1 : (Lit.int .u64 a1).wf = true) (a2 : Int) (w2 : (Lit.int .u64 a2).wf = true) (w : World) :
    Calls Try.prog 3 #[cv ⟨k, o, r, b, g, n⟩, .int .u64 a1, .int .u64 a2] w fun e w' => e = .returned (.bool true) ∧ Below w.heap.size w w' := by
  refine endWalk ?_
  have u1 := u64_wf w1
  have u2 := u64_wf w2
  obtain ⟨A, rfl⟩ : ∃ A : Nat, a1 = A := ⟨a1.toNat, by have := u1.1; omega⟩
  obtain ⟨B, rfl⟩ : ∃ B : Nat, a2 = B := ⟨a2.toNat, by have := u2.1; omega⟩
  have hA : A < 18446744073709551616 := by have := u1.2; omega
  have hB : B < 18446744073709551616 := by have := u2.2; omega
  obtain ⟨⟨x, y, f⟩, hw⟩ : ∃ p, M.wds ⟨k, o, r, b, g, n⟩ = p := ⟨_, rfl⟩
  obtain ⟨⟨⟨d0, d1, d2, d3, d4, d5⟩, h⟩, ho⟩ : ∃ p, M.off A B = p := ⟨_, rfl⟩
  exact inner k o r b g n A B x y f d0 d1 d2 d3 d4 d5 h _ (fun w => words_is k o r b g n x y f ub.1 ug.1 hw w) (fun w => rwords_is k o r b g n x y f ub.1 ug.1 hw w)
    (fun w => of_is A B _ h hA hB ho w) (fun w => rof_is A B _ h hA hB ho w) (fun w => check_any k o r b g n ub.1 ug.1 w) (fun w => rchk_is k o r b g n _ rfl w) w

set_option maxRecDepth 100000 in
theorem lifted (os : Os) (started : os.Started) (H : Type) (enc : TypeId × Value → H) :
    ReturnsInHanded {} Try.checked os 3 .any (Rows.capWordsSpec.pre6 enc Try.prog Try.f3 Rows.capWordsRow.domain false) (Rows.capWordsSpec.post enc Try.prog Try.f3 false true false false) := by
  refine returnsInHanded_of_change (C := Try.checked) own started (by kernel_rfl) Try.func3
    (ChangeSpec.witness6 (enc := enc) (C := Try.checked) false ⟨#[], #[.agg #[.int .i64 0, .int .i64 0, .int .i64 0, .int .u64 0, .int .u64 0, .int .i64 0], .int .u64 0, .int .u64 0], []⟩ 8 (by kernel_rfl) (by kernel_rfl) (by kernel_rfl) (by kernel_rfl)) ?_
  intro W base args ds gs before hval0 hW hcnd _
  have hval : ∀ (j : Nat) t v, Try.f3.params[j]? = some t → args[j]? = some v → Value.okWide Try.prog W .any base t v := hval0
  have hW' := hW
  obtain ⟨p, q, hA0, hV, rfl, hfz, hnd⟩ := hW
  have hA : DataW.TrodAll enc Try.prog W 0 (fun _ => true) true Try.f3.params.toList args.toList ds p := hA0
  rw [Try.params3] at hA hval
  obtain ⟨v0, vs0, d0, ds0, p0, q0, hargs, rfl, rfl, h0, r0⟩ := trodAll_cons hA
  obtain ⟨v1, vs1, d1, ds1, p1, q1, rfl, rfl, rfl, h1, r1⟩ := trodAll_cons r0
  obtain ⟨v2, vs2, d2, ds2, p2, q2, rfl, rfl, rfl, h2, r2⟩ := trodAll_cons r1
  obtain ⟨rfl, rfl, rfl⟩ := trodAll_nil r2
  obtain rfl : args = #[v0, v1, v2] := by cases args; simp_all
  obtain ⟨rfl, rfl⟩ := trodVars_none hV
  obtain ⟨K0, O0, R0, B0, G0, N0, rfl, ub0, ug0⟩ := capArg (hval 0 24 v0 rfl rfl) h0
  have k0 := h0
  have lt0 : ∀ x ∈ p0, x.block < W.heap.size := by obtain ⟨m, hm⟩ := k0; exact DataW.trod_lt m _ _ _ hm
  obtain ⟨a1, rfl, rfl, rfl, w1⟩ := open_int Try.underlying22 (hval 1 22 v1 rfl rfl) h1
  obtain ⟨a2, rfl, rfl, rfl, w2⟩ := open_int Try.underlying22 (hval 2 22 v2 rfl rfl) h2
  clear hA0 hval0
  refine (walk K0 O0 R0 B0 G0 N0 ub0 ug0 a1 w1 a2 w2 W).mono fun e W' ⟨he, bel⟩ => ?_
  subst he
  exact ⟨_, rfl, _, _, _, [], _, [], hW', trodAll_mk1 (shut_bool Try.underlying4 _), (trodAll_cons_mk (Below.trod laidOut (by kernel_rfl) (of_decide_eq_true (by kernel_rfl)) k0 bel lt0) (trodAll_cons_mk (shut_int Try.underlying22 w1) (trodAll_cons_mk (shut_int Try.underlying22 w2) trodAll_mk0))), rfl, bel.frame _, fun h => by cases h⟩

theorem over : Rows.capWordsRow.holds Try.pinned (OpenSpec.ofChange Rows.capWordsSpec) :=
  OpenClaim.holds_of_wide 3 Try.f3 rfl rfl rfl rfl rfl rfl rfl ⟨rfl, rfl, rfl, rfl, rfl⟩ rfl rfl rfl rfl rfl (by kernel_rfl) Try.func3 (by kernel_rfl)
    (of_decide_eq_true (by kernel_rfl)) (by unfold Func.isWrapper; first | (rw [if_pos (by decide +kernel)]; kernel_rfl) | (rw [if_neg (by decide +kernel)]; exact ⟨rfl, rfl⟩))
    (fun os started H enc _ => lifted os started H enc)

theorem proved : Rows.CapWordsSaid := over
end Go.Proofs.Ytkgjcolimceogaa.capWords
namespace Go.Proofs.Ytkgjcolimceogaa
theorem capWords_holds : Rows.CapWordsSaid := capWords.proved
#print axioms capWords_holds
end Go.Proofs.Ytkgjcolimceogaa
