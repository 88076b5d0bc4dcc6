/- MsgInfos (16.1): any info in a word, any word as an info, or refused: the program answers as the document does. For every input; no condition. -/
import Derived.Test.YtgimgbbiojkfgaaRca
import Derived.Test.YtgimgbbiojkfgaaArgs
import Derived.ProofKit
import Derived.OpenShut
import Derived.ShutString
import Derived.ChangeOld
import Derived.Below
import Derived.Deep.Slices
namespace Go.Proofs.Ytgimgbbiojkfgaa.msgInfos
open Go.ChangeShapes Go.WideShapes Go.ChangeAt Go.RowKit
set_option linter.unusedVariables false

theorem own : ownKnob Try.prog.godebug = none := by kernel_rfl
theorem laidOut : laidOutB Try.prog = true := by kernel_rfl

set_option maxHeartbeats 2000000 in
set_option maxRecDepth 10000 in
theorem inner (l n : Int) (c : Bool) (W x f : Int) (d0 d1 : Int) (d2 : Bool) (h : Int)
    (HP : ∀ w, Calls Try.prog 9 #[iv ⟨l, n, c⟩] w fun e w' => e = .returned (.tuple #[.int .u64 x, .int .i64 f]) ∧ w.grownBy w' none)
    (HQ : ∀ w, Calls Try.prog 10 #[iv ⟨l, n, c⟩] w fun e w' => e = .returned (.tuple #[.int .u64 x, .int .i64 f]) ∧ w.grownBy w' none)
    (HU : ∀ w, Calls Try.prog 11 #[.int .u64 W] w fun e w' => e = .returned (.tuple #[iv ⟨d0, d1, d2⟩, .int .i64 h]) ∧ w.grownBy w' none)
    (HV : ∀ w, Calls Try.prog 12 #[.int .u64 W] w fun e w' => e = .returned (.tuple #[iv ⟨d0, d1, d2⟩, .int .i64 h]) ∧ w.grownBy w' none) (w : World) :
    Calls Try.prog 3 #[iv ⟨l, n, c⟩, .int .u64 W] w fun e w' => e = .returned (.bool true) ∧ w.grownBy w' none := by
  go_enter Try.func3, Try.ntmps3
  go_upto_region 1 with fail
  obtain ⟨W0, hW0, X, G0⟩ := boxNew w ⟨l, n, c⟩ 24
  simp only at hW0
  rw [hW0]
  clear hW0
  generalize w.heap.size = x0 at X
  obtain ⟨a0, a1, a2, _, _⟩ := id X
  go_wp2_with fail
  refine (HP _).mono ?_
  rintro e w1 ⟨rfl, g1⟩
  clear a0 a1 a2
  replace X := X.kept g1
  have G1 := gbTrans G0 g1
  clear G0 g1
  obtain ⟨a0, a1, a2, _, _⟩ := id X
  go_wp2_with fail
  refine (HQ _).mono ?_
  rintro e w2 ⟨rfl, g2⟩
  clear a0 a1 a2 X
  have G2 := gbTrans G1 g2
  clear G1 g2
  go_wp2_with fail
  refine (HU _).mono ?_
  rintro e w3 ⟨rfl, g3⟩
  go_upto_region 4 with fail
  obtain ⟨W3, hW3, Y, h3⟩ := boxNew w3 ⟨d0, d1, d2⟩ 28
  simp only at hW3
  rw [hW3]
  clear hW3
  generalize w3.heap.size = x3 at Y
  have G3 := gbTrans (gbTrans G2 g3) h3
  clear G2 g3 h3
  go_wp2_with fail
  refine (HV _).mono ?_
  rintro e w4 ⟨rfl, g4⟩
  go_upto_region 5 with fail
  obtain ⟨W4, hW4, Z, h4⟩ := boxNew w4 ⟨d0, d1, d2⟩ 24
  simp only at hW4
  rw [hW4]
  clear hW4
  generalize w4.heap.size = x4 at Z
  replace Y := (Y.kept g4).kept h4
  have G4 := gbTrans (gbTrans G3 g4) h4
  clear G3 g4 h4
  obtain ⟨y0, y1, y2, _, _⟩ := Y
  obtain ⟨z0, z1, z2, _, _⟩ := Z
  simp only at y0 y1 y2 z0 z1 z2
  go_wp2
  go_ret
  exact ⟨rfl, G4⟩

theorem walk (l n : Int) (c : Bool) (ul : U64 l) (a1 : Int) (w1 : (Lit.int .u64 a1).wf = true) (w : World) :
    Calls Try.prog 3 #[iv ⟨l, n, c⟩, .int .u64 a1] w fun e w' => e = .returned (.bool true) ∧ Below w.heap.size w w' := by
  refine endWalk ?_
  have u1 := u64_wf w1
  obtain ⟨W, rfl⟩ : ∃ A : Nat, a1 = A := ⟨a1.toNat, by have := u1.1; omega⟩
  have hW : W < 18446744073709551616 := by have := u1.2; omega
  obtain ⟨⟨x, f⟩, hp⟩ : ∃ p, M.pk ⟨l, n, c⟩ = p := ⟨_, rfl⟩
  obtain ⟨⟨⟨d0, d1, d2⟩, h⟩, hu⟩ : ∃ p, M.up W = p := ⟨_, rfl⟩
  exact inner l n c W x f d0 d1 d2 h (fun w => pack_is l n c x f ul.1 hp w) (fun w => rpack_is l n c x f ul.1 hp w)
    (fun w => unpack_is W _ h hW hu w) (fun w => runpack_is W _ h hu w) w

set_option maxRecDepth 100000 in
theorem lifted (os : Os) (started : os.Started) (H : Type) (enc : TypeId × Value → H) :
    ReturnsInHanded {} Try.checked os 3 .any (Rows.msgInfosSpec.pre6 enc Try.prog Try.f3 Rows.msgInfosRow.domain false) (Rows.msgInfosSpec.post enc Try.prog Try.f3 false true false false) := by
  refine returnsInHanded_of_change (C := Try.checked) own started (by kernel_rfl) Try.func3
    (ChangeSpec.witness6 (enc := enc) (C := Try.checked) false ⟨#[], #[.agg #[.int .u64 0, .int .i64 0, .bool false], .int .u64 0], []⟩ 8 (by kernel_rfl) (by kernel_rfl) (by kernel_rfl) (by kernel_rfl)) ?_
  intro W base args ds gs before hval0 hW hcnd _
  have hval : ∀ (j : Nat) t v, Try.f3.params[j]? = some t → args[j]? = some v → Value.okWide Try.prog W .any base t v := hval0
  have hW' := hW
  obtain ⟨p, q, hA0, hV, rfl, hfz, hnd⟩ := hW
  have hA : DataW.TrodAll enc Try.prog W 0 (fun _ => true) true Try.f3.params.toList args.toList ds p := hA0
  rw [Try.params3] at hA hval
  obtain ⟨v0, vs0, d0, ds0, p0, q0, hargs, rfl, rfl, h0, r0⟩ := trodAll_cons hA
  obtain ⟨v1, vs1, d1, ds1, p1, q1, rfl, rfl, rfl, h1, r1⟩ := trodAll_cons r0
  obtain ⟨rfl, rfl, rfl⟩ := trodAll_nil r1
  obtain rfl : args = #[v0, v1] := by cases args; simp_all
  obtain ⟨rfl, rfl⟩ := trodVars_none hV
  obtain ⟨L0, N0, C0, rfl, ul0⟩ := infoArg (hval 0 24 v0 rfl rfl) h0
  have k0 := h0
  have lt0 : ∀ x ∈ p0, x.block < W.heap.size := by obtain ⟨m, hm⟩ := k0; exact DataW.trod_lt m _ _ _ hm
  obtain ⟨a1, rfl, rfl, rfl, w1⟩ := open_int Try.underlying22 (hval 1 22 v1 rfl rfl) h1
  clear hA0 hval0
  refine (walk L0 N0 C0 ul0 a1 w1 W).mono fun e W' ⟨he, bel⟩ => ?_
  subst he
  exact ⟨_, rfl, _, _, _, [], _, [], hW', trodAll_mk1 (shut_bool Try.underlying4 _), (trodAll_cons_mk (Below.trod laidOut (by kernel_rfl) (of_decide_eq_true (by kernel_rfl)) k0 bel lt0) (trodAll_cons_mk (shut_int Try.underlying22 w1) trodAll_mk0)), rfl, bel.frame _, fun h => by cases h⟩

theorem over : Rows.msgInfosRow.holds Try.pinned (OpenSpec.ofChange Rows.msgInfosSpec) :=
  OpenClaim.holds_of_wide 3 Try.f3 rfl rfl rfl rfl rfl rfl rfl ⟨rfl, rfl, rfl, rfl, rfl⟩ rfl rfl rfl rfl rfl (by kernel_rfl) Try.func3 (by kernel_rfl)
    (of_decide_eq_true (by kernel_rfl)) (by unfold Func.isWrapper; first | (rw [if_pos (by decide +kernel)]; kernel_rfl) | (rw [if_neg (by decide +kernel)]; exact ⟨rfl, rfl⟩))
    (fun os started H enc _ => lifted os started H enc)

theorem proved : Rows.MsgInfosSaid := over
end Go.Proofs.Ytgimgbbiojkfgaa.msgInfos
namespace Go.Proofs.Ytgimgbbiojkfgaa
theorem msgInfos_holds : Rows.MsgInfosSaid := msgInfos.proved
#print axioms msgInfos_holds
end Go.Proofs.Ytgimgbbiojkfgaa
