/- ANY INSTRUCTION IN A WORD, ANY WORD AS AN INSTRUCTION, OR REFUSED: program and document give the same answers and errors, at any instruction and any word (no condition). -/
import Derived.Test.YteekgfdffofnaaaWds
import Derived.Test.YteekgfdffofnaaaArgs
import Derived.Deep.Cut
import Derived.Deep.RegionHeld3
import Derived.Test.YteekgfdffofnaaaArgs
import Derived.ProofKit
import Derived.OpenShut
import Derived.ShutString
import Derived.ChangeOld
import Derived.Below
import Derived.Deep.Slices
namespace Go.Proofs.Yteekgfdffofnaaa.codeWords
open Go.ChangeShapes Go.WideShapes Go.ChangeAt Go.RowKit
set_option linter.unusedVariables false

theorem own : ownKnob Try.prog.godebug = none := by kernel_rfl
theorem laidOut : laidOutB Try.prog = true := by kernel_rfl

set_option maxHeartbeats 2000000 in
theorem core (i d : I) (W : Nat) (x e g : Int) (w : World)
    (H1 : ∀ w, Calls Try.prog 9 #[iv i] w fun r w' => r = .returned (.tuple #[.int .u64 x, .int .i64 e]) ∧ w.grownBy w' none)
    (H2 : ∀ w, Calls Try.prog 11 #[iv i] w fun r w' => r = .returned (.tuple #[.int .u64 x, .int .i64 e]) ∧ w.grownBy w' none)
    (H3 : ∀ w, Calls Try.prog 12 #[.int .u64 W] w fun r w' => r = .returned (.tuple #[iv d, .int .i64 g]) ∧ w.grownBy w' none)
    (H4 : ∀ w, Calls Try.prog 13 #[.int .u64 W] w fun r w' => r = .returned (.tuple #[iv d, .int .i64 g]) ∧ w.grownBy w' none) :
    Calls Try.prog 3 #[iv i, .int .u64 W] w fun r w' => r = .returned (.bool true) ∧ w.grownBy w' none := by
  go_enter Try.func3, Try.ntmps3
  go_upto_region 1 with (refine wpList_boxW rfl _ rfl rfl ?_; intro W1 b B G l1)
  go_wp2_with (refine wpList_loadW rfl _ rfl rfl B tkJ rfl ?_)
  refine (to_is i _).mono ?_
  rintro r w1 ⟨rfl, g1⟩
  go_wp2_with fail
  refine (H1 _).mono ?_
  rintro r w2 ⟨rfl, g2⟩
  replace B := (B.kept g1).kept g2
  replace G := gbTrans (gbTrans G g1) g2
  clear g1 g2 H1
  go_wp2_with (refine wpList_loadW rfl _ rfl rfl B tkJ rfl ?_)
  refine (H2 _).mono ?_
  rintro r w3 ⟨rfl, g3⟩
  replace G := gbTrans G g3
  clear g3 B H2
  go_wp2_with fail
  refine (H3 _).mono ?_
  rintro r w4 ⟨rfl, g4⟩
  replace G := gbTrans G g4
  clear g4 H3
  go_upto_region 4 with (first | (refine wpList_allocW rfl rfl zI ?_; intro V1 x1 X1 k1 l1) | (refine wpList_storeW rfl _ _ rfl rfl rfl X1 tkI rfl rfl (ic_one _) ?_; intro W5 C h1))
  replace G := gbMade G k1 l1 h1
  clear k1 l1 h1 X1
  go_wp2_with fail
  refine (H4 _).mono ?_
  rintro r w6 ⟨rfl, g6⟩
  replace C := C.kept g6
  replace G := gbTrans G g6
  clear g6 H4
  go_upto_region 5 with (first | (refine wpList_allocW rfl rfl zJ ?_; intro V2 x2 X2 k2 l2) | (refine wpList_storeW rfl _ _ rfl rfl rfl X2 tkJ rfl rfl (ic_one _) ?_; intro W7 D h2))
  replace C := C.past k2 l2 h2
  replace G := gbMade G k2 l2 h2
  clear k2 l2 h2 X2
  have gd : W7.grownBy W7.drew none := gbDrew (gbRefl _ _)
  have T0 := hideIt (And.intro C.four D.four)
  have T1 := hideIt (And.intro (C.kept gd).four (D.kept gd).four)
  have q1 := fun w => run_eql_I w d
  have q2 := eqGuardI
  go_region_held3 (fun w' => w'.cell? ⟨x1, 0, none⟩ = some (.int .i64 d.o) ∧ w'.cell? ⟨x1, 1, none⟩ = some (.int .i64 d.a) ∧ w'.cell? ⟨x1, 2, none⟩ = some (.int .i64 d.b) ∧ w'.cell? ⟨x1, 3, none⟩ = some (.int .i64 d.m) ∧ w'.cell? ⟨x2, 0, none⟩ = some (.int .i64 d.o) ∧ w'.cell? ⟨x2, 1, none⟩ = some (.int .i64 d.a) ∧ w'.cell? ⟨x2, 2, none⟩ = some (.int .i64 d.b) ∧ w'.cell? ⟨x2, 3, none⟩ = some (.int .i64 d.m))
    (first | with_reducible exact ⟨T0.out.1.at0, T0.out.1.at1, T0.out.1.at2, T0.out.1.at3, T0.out.2.at0, T0.out.2.at1, T0.out.2.at2, T0.out.2.at3⟩ | with_reducible exact ⟨T1.out.1.at0, T1.out.1.at1, T1.out.1.at2, T1.out.1.at3, T1.out.2.at0, T1.out.2.at1, T1.out.2.at2, T1.out.2.at3⟩ | with_reducible exact ⟨T7.out.1.at0, T7.out.1.at1, T7.out.1.at2, T7.out.1.at3, T7.out.2.at0, T7.out.2.at1, T7.out.2.at2, T7.out.2.at3⟩ | fail)
    ((go_at_call 10; refine (to_is d _).mono ?_; rintro e7 w8 ⟨rfl, g7⟩; have T7 := hideIt (And.intro ((C.kept gd).kept g7).four ((D.kept gd).kept g7).four)))
  all_goals
    rename_i hold
    clear hold
    go_wp2
    go_ret
    exact ⟨rfl, gbTrans (gbTrans G gd) g7⟩

theorem walk (i0 : I) (a1 : Int) (w1 : (Lit.int .u64 a1).wf = true) (w : World) :
    Calls Try.prog 3 #[iv i0, .int .u64 a1] w fun e w' => e = .returned (.bool true) ∧ Below w.heap.size w w' := by
  refine endWalk ?_
  obtain ⟨A, rfl, hA⟩ := natOf w1
  obtain ⟨⟨x, e⟩, h1⟩ : ∃ p, M.pk i0 = p := ⟨_, rfl⟩
  obtain ⟨⟨d, g⟩, h2⟩ : ∃ p, M.up A = p := ⟨_, rfl⟩
  exact core i0 d A x e g w (pack_is i0 x e h1) (rpack_is i0 x e h1) (unpack_is A d g hA h2) (runpack_is A d g h2)

set_option maxRecDepth 100000 in
theorem lifted (os : Os) (started : os.Started) (H : Type) (enc : TypeId × Value → H) :
    ReturnsInHanded {} Try.checked os 3 .any (Rows.codeWordsSpec.pre6 enc Try.prog Try.f3 Rows.codeWordsRow.domain false) (Rows.codeWordsSpec.post enc Try.prog Try.f3 false true false false) := by
  refine returnsInHanded_of_change (C := Try.checked) own started (by kernel_rfl) Try.func3
    (ChangeSpec.witness6 (enc := enc) (C := Try.checked) false ⟨#[], #[.agg #[.int .i64 0, .int .i64 0, .int .i64 0, .int .i64 0], .int .u64 0], []⟩ 8 (by kernel_rfl) (by kernel_rfl) (by kernel_rfl) (by kernel_rfl)) ?_
  intro W base args ds gs before hval0 hW hcnd _
  have hval : ∀ (j : Nat) t v, Try.f3.params[j]? = some t → args[j]? = some v → Value.okWide Try.prog W .any base t v := hval0
  have hW' := hW
  obtain ⟨p, q, hA0, hV, rfl, hfz, hnd⟩ := hW
  have hA : DataW.TrodAll enc Try.prog W 0 (fun _ => true) true Try.f3.params.toList args.toList ds p := hA0
  rw [Try.params3] at hA hval
  obtain ⟨v0, vs0, d0, ds0, p0, q0, hargs, rfl, rfl, h0, r0⟩ := trodAll_cons hA
  obtain ⟨v1, vs1, d1, ds1, p1, q1, rfl, rfl, rfl, h1, r1⟩ := trodAll_cons r0
  obtain ⟨rfl, rfl, rfl⟩ := trodAll_nil r1
  obtain rfl : args = #[v0, v1] := by cases args; simp_all
  obtain ⟨rfl, rfl⟩ := trodVars_none hV
  obtain ⟨i0, rfl⟩ := insArg (hval 0 23 v0 rfl rfl) h0
  have k0 := h0
  have lt0 : ∀ x ∈ p0, x.block < W.heap.size := by obtain ⟨m, hm⟩ := k0; exact DataW.trod_lt m _ _ _ hm
  obtain ⟨a1, rfl, rfl, rfl, w1⟩ := open_int Try.underlying24 (hval 1 24 v1 rfl rfl) h1
  clear hA0 hval0
  refine (walk i0 a1 w1 W).mono fun e W' ⟨he, bel⟩ => ?_
  subst he
  exact ⟨_, rfl, _, _, _, [], _, [], hW', trodAll_mk1 (shut_bool Try.underlying4 _), (trodAll_cons_mk (Below.trod laidOut (by kernel_rfl) (of_decide_eq_true (by kernel_rfl)) k0 bel lt0) (trodAll_cons_mk (shut_int Try.underlying24 w1) trodAll_mk0)), rfl, bel.frame _, fun h => by cases h⟩

theorem over : Rows.codeWordsRow.holds Try.pinned (OpenSpec.ofChange Rows.codeWordsSpec) :=
  OpenClaim.holds_of_wide 3 Try.f3 rfl rfl rfl rfl rfl rfl rfl ⟨rfl, rfl, rfl, rfl, rfl⟩ rfl rfl rfl rfl rfl (by kernel_rfl) Try.func3 (by kernel_rfl)
    (of_decide_eq_true (by kernel_rfl)) (by unfold Func.isWrapper; first | (rw [if_pos (by decide +kernel)]; kernel_rfl) | (rw [if_neg (by decide +kernel)]; exact ⟨rfl, rfl⟩))
    (fun os started H enc _ => lifted os started H enc)

theorem proved : Rows.CodeWordsSaid := over
end Go.Proofs.Yteekgfdffofnaaa.codeWords
namespace Go.Proofs.Yteekgfdffofnaaa
theorem codeWords_holds : Rows.CodeWordsSaid := codeWords.proved
#print axioms codeWords_holds
end Go.Proofs.Yteekgfdffofnaaa
