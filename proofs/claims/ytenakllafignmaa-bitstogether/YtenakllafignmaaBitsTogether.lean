/- For every two words, the ones of both together and of what both have are as many as the ones of each, and the ones of what only one has are the difference: the law BitsTogether returns true for every input. No condition. -/
import Derived.Test.YtenakllafignmaaRows
import Derived.WalkKit
import Derived.ProofKit
import Derived.OpenShut
import Derived.Test.YtenakllafignmaaWorks
namespace Go.Proofs.Ytenakllafignmaa.bitsTogether
open Go.ChangeShapes Go.WideShapes Go.ChangeAt Go.RowKit
set_option linter.unusedVariables false

theorem own : ownKnob Try.prog.godebug = none := by kernel_rfl

/-! ### STEP 1: THE WALK: the Go text returns true. 'Grown w w'': the world has at most new blocks (Derived/RowKit3.lean). Part the cases AHEAD of 'go_enter' where a test parts the walk; take each callee by a contract of your own. -/
theorem walk (a0 : Int) (a1 : Int) (w0 : (Lit.int .u64 a0).wf = true) (w1 : (Lit.int .u64 a1).wf = true) (w : World) :
    Calls Try.prog 8 #[.int .u64 a0, .int .u64 a1] w fun e w' => e = .returned (.bool true) ∧ Grown w w' := by
  obtain ⟨b0, c0⟩ := bounds_u64 w0
  obtain ⟨b1, c1⟩ := bounds_u64 w1
  obtain ⟨A, rfl⟩ := Int.eq_ofNat_of_zero_le b0
  obtain ⟨B, rfl⟩ := Int.eq_ofNat_of_zero_le b1
  have hA : A < 18446744073709551616 := by omega
  have hB : B < 18446744073709551616 := by omega
  have hor : A ||| B < 18446744073709551616 := by
    have := Nat.or_lt_two_pow (n := 64) (x := A) (y := B) (by simpa using hA) (by simpa using hB)
    simpa using this
  have hand : A &&& B < 18446744073709551616 := Nat.lt_of_le_of_lt Nat.and_le_left hA
  have hxor : A ^^^ B < 18446744073709551616 := by
    have := Nat.xor_lt_two_pow (n := 64) (x := A) (y := B) (by simpa using hA) (by simpa using hB)
    simpa using this
  have e1 := u64_or_nat A B hA hB
  have e2 := u64_and_nat A B hA hB
  have e3 := u64_xor_nat A B hA hB
  have l1 := M.cntN_le A 64
  have l2 := M.cntN_le B 64
  have l3 := M.cntN_le (A ||| B) 64
  have l4 := M.cntN_le (A &&& B) 64
  have l5 := M.cntN_le (A ^^^ B) 64
  have s1 := M.cnt_or_and A B 64
  have s2 := M.cnt_xor A B 64
  have t1 : ((M.cntN A 64 : Int) + (M.cntN B 64 : Int) == (M.cntN (A ||| B) 64 : Int) + (M.cntN (A &&& B) 64 : Int)) = true := by simp only [beq_iff_eq]; omega
  have t2 : ((M.cntN (A ^^^ B) 64 : Int) == (M.cntN (A ||| B) 64 : Int) - (M.cntN (A &&& B) 64 : Int)) = true := by simp only [beq_iff_eq]; omega
  clear s1 s2 w0 w1 b0 b1 c0 c1
  go_enter Try.func8, Try.ntmps8
  go_wp2_with fail
  refine (works_any _).mono ?_
  rintro e w1 ⟨rfl, q, rfl⟩
  go_wp2_with (go_at_call 13; refine (ones_any _ _ (by assumption)).mono ?_; rintro e w' ⟨rfl, rfl⟩)
  go_ret
  exact ⟨rfl, Grown.refl _⟩

/-! ### THE ROW's STEP: WRITTEN OUT: LEAVE IT -/
set_option maxRecDepth 100000 in
theorem lifted (os : Os) (started : os.Started) (H : Type) (enc : TypeId × Value → H) :
    ReturnsInHanded {} Try.checked os 8 .any (Rows.bitsTogetherSpec.pre6 enc Try.prog Try.f8 Rows.bitsTogetherRow.domain false) (Rows.bitsTogetherSpec.post enc Try.prog Try.f8 false true false false) := by
  refine returnsInHanded_of_change (C := Try.checked) own started (by kernel_rfl) Try.func8
    (ChangeSpec.witness6 (enc := enc) (C := Try.checked) false ⟨#[], #[.int .u64 0, .int .u64 0], []⟩ 8 (by kernel_rfl) (by kernel_rfl) (by kernel_rfl) (by kernel_rfl)) ?_
  intro W base args ds gs before hval0 hW hcnd _
  have hval : ∀ (j : Nat) t v, Try.f8.params[j]? = some t → args[j]? = some v → Value.okWide Try.prog W .any base t v := hval0
  have hW' := hW
  obtain ⟨p, q, hA0, hV, rfl, hfz, hnd⟩ := hW
  have hA : DataW.TrodAll enc Try.prog W 0 (fun _ => true) true Try.f8.params.toList args.toList ds p := hA0
  rw [Try.params8] at hA hval
  obtain ⟨v0, vs0, d0, ds0, p0, q0, hargs, rfl, rfl, h0, r0⟩ := trodAll_cons hA
  obtain ⟨v1, vs1, d1, ds1, p1, q1, rfl, rfl, rfl, h1, r1⟩ := trodAll_cons r0
  obtain ⟨rfl, rfl, rfl⟩ := trodAll_nil r1
  obtain rfl : args = #[v0, v1] := by cases args; simp_all
  obtain ⟨rfl, rfl⟩ := trodVars_none hV
  obtain ⟨a0, rfl, rfl, rfl, w0⟩ := open_int Try.underlying22 (hval 0 22 v0 rfl rfl) h0
  obtain ⟨a1, rfl, rfl, rfl, w1⟩ := open_int Try.underlying22 (hval 1 22 v1 rfl rfl) h1
  clear hA0 hval0
  simp only [List.append_nil] at hW'
  refine (walk a0 a1 w0 w1 W).mono fun e W' ⟨he, hg⟩ => ?_
  subst he
  exact ⟨_, rfl, post_of_same (pa := []) (pv := []) hW' (fun _ _ _ => (trodAll_cons_mk (shut_bool Try.underlying4 _) trodAll_mk0)) (fun sp _ => (trodAll_cons_mk (shut_int Try.underlying22 w0) (trodAll_cons_mk (shut_int Try.underlying22 w1) trodAll_mk0))) (fun _ _ => rfl) rfl
    (hg.frame _) hg.2.1 (ok_one (by kernel_rfl) rfl (okWide_bool_mk Try.underlying4 _))⟩

theorem over : Rows.bitsTogetherRow.holds Try.pinned (OpenSpec.ofChange Rows.bitsTogetherSpec) :=
  OpenClaim.holds_of_wide 8 Try.f8 rfl rfl rfl rfl rfl rfl rfl ⟨rfl, rfl, rfl, rfl, rfl⟩ rfl rfl rfl rfl rfl (by kernel_rfl) Try.func8 (by kernel_rfl)
    (of_decide_eq_true (by kernel_rfl)) (by unfold Func.isWrapper; first | (rw [if_pos (by decide +kernel)]; kernel_rfl) | (rw [if_neg (by decide +kernel)]; exact ⟨rfl, rfl⟩))
    (fun os started H enc _ => lifted os started H enc)

theorem proved : Rows.BitsTogetherSaid :=
  over
end Go.Proofs.Ytenakllafignmaa.bitsTogether
namespace Go.Proofs.Ytenakllafignmaa
theorem bitsTogether_holds : Rows.BitsTogetherSaid := bitsTogether.proved
#print axioms bitsTogether_holds
end Go.Proofs.Ytenakllafignmaa
