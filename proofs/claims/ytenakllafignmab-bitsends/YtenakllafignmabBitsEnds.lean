/- Every word lies between its lowest one and the next place above its highest one, and both are 1; of the word 0 there is neither: the law BitsEnds returns true for every input. No condition. -/
import Derived.Test.YtenakllafignmabRows
import Derived.WalkKit
import Derived.ProofKit
import Derived.OpenShut
import Derived.Test.YtenakllafignmabWorks
namespace Go.Proofs.Ytenakllafignmab.bitsEnds
open Go.ChangeShapes Go.WideShapes Go.ChangeAt Go.RowKit
set_option linter.unusedVariables false

theorem own : ownKnob Try.prog.godebug = none := by kernel_rfl

theorem get_one (W k : Nat) (w : World) (hW : W < 18446744073709551616) (hk : k < 64) (h : M.getN W k 1 = 1) :
    Calls Try.prog 8 #[.int .u64 W, .int .i64 k, .int .i64 1] w fun e w' => e = .returned (.tuple #[.int .u64 1, .int .i64 0]) ∧ ∃ q, w' = w.drewN q := by
  have x := get_yes W k 1 w hW (by omega) (by omega)
  rw [h] at x
  exact x

set_option maxHeartbeats 400000 in
theorem core_zero (w : World)
    (c1 : ∀ w, Calls Try.prog 6 #[.int .u64 0] w fun e w' => e = .returned (.int .i64 (-1)) ∧ w' = w)
    (c2 : ∀ w, Calls Try.prog 7 #[.int .u64 0] w fun e w' => e = .returned (.int .i64 (-1)) ∧ w' = w) :
    Calls Try.prog 3 #[.int .u64 0] w fun e w' => e = .returned (.bool true) ∧ Grown w w' := by
  have C1 : Hid (∀ w, Calls Try.prog 6 #[.int .u64 0] w fun e w' => e = .returned (.int .i64 (-1)) ∧ w' = w) := c1
  have C2 : Hid (∀ w, Calls Try.prog 7 #[.int .u64 0] w fun e w' => e = .returned (.int .i64 (-1)) ∧ w' = w) := c2
  clear c1 c2
  go_enter Try.func3, Try.ntmps3
  go_wp2_with fail
  refine (works_any _).mono ?_
  rintro e w1 ⟨rfl, q, rfl⟩
  go_wp2_with fail
  refine (C1.out _).mono ?_
  rintro e w1 ⟨rfl, rfl⟩
  go_wp2_with fail
  refine (C2.out _).mono ?_
  rintro e w1 ⟨rfl, rfl⟩
  go_wp2
  go_ret
  exact ⟨rfl, Grown.refl w⟩

set_option maxHeartbeats 400000 in
theorem core (W h l : Nat) (w : World) (h0 : ((W : Int) == 0) = false) (hh : h ≤ 63) (hl : l ≤ h)
    (s1 : (W : Int) / 2 ^ h = 1) (s2 : (IntKind.u64.wrap ((W : Int) * 2 ^ (63 - l)) == 9223372036854775808) = true)
    (c1 : ∀ w, Calls Try.prog 6 #[.int .u64 W] w fun e w' => e = .returned (.int .i64 h) ∧ w' = w)
    (c2 : ∀ w, Calls Try.prog 7 #[.int .u64 W] w fun e w' => e = .returned (.int .i64 l) ∧ w' = w)
    (c3 : ∀ w, Calls Try.prog 8 #[.int .u64 W, .int .i64 h, .int .i64 1] w fun e w' => e = .returned (.tuple #[.int .u64 1, .int .i64 0]) ∧ ∃ q, w' = w.drewN q)
    (c4 : ∀ w, Calls Try.prog 8 #[.int .u64 W, .int .i64 l, .int .i64 1] w fun e w' => e = .returned (.tuple #[.int .u64 1, .int .i64 0]) ∧ ∃ q, w' = w.drewN q) :
    Calls Try.prog 3 #[.int .u64 W] w fun e w' => e = .returned (.bool true) ∧ Grown w w' := by
  have C1 : Hid (∀ w, Calls Try.prog 6 #[.int .u64 W] w fun e w' => e = .returned (.int .i64 h) ∧ w' = w) := c1
  have C2 : Hid (∀ w, Calls Try.prog 7 #[.int .u64 W] w fun e w' => e = .returned (.int .i64 l) ∧ w' = w) := c2
  have C3 : Hid (∀ w, Calls Try.prog 8 #[.int .u64 W, .int .i64 h, .int .i64 1] w fun e w' => e = .returned (.tuple #[.int .u64 1, .int .i64 0]) ∧ ∃ q, w' = w.drewN q) := c3
  have C4 : Hid (∀ w, Calls Try.prog 8 #[.int .u64 W, .int .i64 l, .int .i64 1] w fun e w' => e = .returned (.tuple #[.int .u64 1, .int .i64 0]) ∧ ∃ q, w' = w.drewN q) := c4
  clear c1 c2 c3 c4
  go_enter Try.func3, Try.ntmps3
  go_wp2_with fail
  refine (works_any _).mono ?_
  rintro e w1 ⟨rfl, q, rfl⟩
  go_wp2_with fail
  refine (C1.out _).mono ?_
  rintro e w1 ⟨rfl, rfl⟩
  go_wp2_with fail
  refine (C2.out _).mono ?_
  rintro e w1 ⟨rfl, rfl⟩
  go_wp2_with fail
  refine (C3.out _).mono ?_
  rintro e w1 ⟨rfl, q1, rfl⟩
  go_wp2_with fail
  refine (C4.out _).mono ?_
  rintro e w1 ⟨rfl, q2, rfl⟩
  go_wp2
  go_ret
  exact ⟨rfl, Grown.refl w⟩

/-! ### STEP 1: THE WALK: the Go text returns true. 'Grown w w'': the world has at most new blocks (Derived/RowKit3.lean). Part the cases AHEAD of 'go_enter' where a test parts the walk; take each callee by a contract of your own. -/
theorem walk (a0 : Int) (w0 : (Lit.int .u64 a0).wf = true) (w : World) :
    Calls Try.prog 3 #[.int .u64 a0] w fun e w' => e = .returned (.bool true) ∧ Grown w w' := by
  obtain ⟨b0, c0⟩ := bounds_u64 w0
  obtain ⟨W, rfl⟩ := Int.eq_ofNat_of_zero_le b0
  have hW : W < 18446744073709551616 := by omega
  clear w0 b0 c0
  by_cases hz : W = 0
  · subst hz
    refine core_zero w wk8 (fun w => ?_)
    have x := low_any 0 w (by decide)
    rw [show M.lowN 0 64 0 = -1 by decide] at x
    exact x
  · obtain ⟨h, l, e1, e2, e3, e4, e5, e6, e7, e8⟩ := M.ends W hW hz
    refine core W h l w ?_ e3 e4 e7 (by rw [e8]; rfl) (fun w => ?_) (fun w => ?_) (fun w => get_one W h w hW (by omega) e5) (fun w => get_one W l w hW (by omega) e6)
    · rw [beq_eq_false_iff_ne]
      omega
    · have x := high_any W w hW
      rw [e1] at x
      exact x
    · have x := low_any W w hW
      rw [e2] at x
      exact x

/-! ### THE ROW's STEP: WRITTEN OUT: LEAVE IT -/
set_option maxRecDepth 100000 in
theorem lifted (os : Os) (started : os.Started) (H : Type) (enc : TypeId × Value → H) :
    ReturnsInHanded {} Try.checked os 3 .any (Rows.bitsEndsSpec.pre6 enc Try.prog Try.f3 Rows.bitsEndsRow.domain false) (Rows.bitsEndsSpec.post enc Try.prog Try.f3 false true false false) := by
  refine returnsInHanded_of_change (C := Try.checked) own started (by kernel_rfl) Try.func3
    (ChangeSpec.witness6 (enc := enc) (C := Try.checked) false ⟨#[], #[.int .u64 0], []⟩ 8 (by kernel_rfl) (by kernel_rfl) (by kernel_rfl) (by kernel_rfl)) ?_
  intro W base args ds gs before hval0 hW hcnd _
  have hval : ∀ (j : Nat) t v, Try.f3.params[j]? = some t → args[j]? = some v → Value.okWide Try.prog W .any base t v := hval0
  have hW' := hW
  obtain ⟨p, q, hA0, hV, rfl, hfz, hnd⟩ := hW
  have hA : DataW.TrodAll enc Try.prog W 0 (fun _ => true) true Try.f3.params.toList args.toList ds p := hA0
  rw [Try.params3] at hA hval
  obtain ⟨v0, vs0, d0, ds0, p0, q0, hargs, rfl, rfl, h0, r0⟩ := trodAll_cons hA
  obtain ⟨rfl, rfl, rfl⟩ := trodAll_nil r0
  obtain rfl : args = #[v0] := by cases args; simp_all
  obtain ⟨rfl, rfl⟩ := trodVars_none hV
  obtain ⟨a0, rfl, rfl, rfl, w0⟩ := open_int Try.underlying22 (hval 0 22 v0 rfl rfl) h0
  clear hA0 hval0
  simp only [List.append_nil] at hW'
  refine (walk a0 w0 W).mono fun e W' ⟨he, hg⟩ => ?_
  subst he
  exact ⟨_, rfl, post_of_same (pa := []) (pv := []) hW' (fun _ _ _ => (trodAll_cons_mk (shut_bool Try.underlying4 _) trodAll_mk0)) (fun sp _ => (trodAll_cons_mk (shut_int Try.underlying22 w0) trodAll_mk0)) (fun _ _ => rfl) rfl
    (hg.frame _) hg.2.1 (ok_one (by kernel_rfl) rfl (okWide_bool_mk Try.underlying4 _))⟩

theorem over : Rows.bitsEndsRow.holds Try.pinned (OpenSpec.ofChange Rows.bitsEndsSpec) :=
  OpenClaim.holds_of_wide 3 Try.f3 rfl rfl rfl rfl rfl rfl rfl ⟨rfl, rfl, rfl, rfl, rfl⟩ rfl rfl rfl rfl rfl (by kernel_rfl) Try.func3 (by kernel_rfl)
    (of_decide_eq_true (by kernel_rfl)) (by unfold Func.isWrapper; first | (rw [if_pos (by decide +kernel)]; kernel_rfl) | (rw [if_neg (by decide +kernel)]; exact ⟨rfl, rfl⟩))
    (fun os started H enc _ => lifted os started H enc)

theorem proved : Rows.BitsEndsSaid :=
  over
end Go.Proofs.Ytenakllafignmab.bitsEnds
namespace Go.Proofs.Ytenakllafignmab
theorem bitsEnds_holds : Rows.BitsEndsSaid := bitsEnds.proved
#print axioms bitsEnds_holds
end Go.Proofs.Ytenakllafignmab
