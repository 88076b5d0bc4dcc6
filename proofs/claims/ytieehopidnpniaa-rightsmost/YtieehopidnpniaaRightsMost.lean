/- What is masked is within both, and whatever is within both is within it; the order and brackets do not matter. No condition. -/
import Derived.Test.YtieehopidnpniaaWorks
import Derived.ProofKit
import Derived.OpenShut
import Derived.ShutString
import Derived.ChangeOld
import Derived.Below
import Derived.Deep.Slices
namespace Go.Proofs.Ytieehopidnpniaa.rightsMost
open Go.ChangeShapes Go.WideShapes Go.ChangeAt Go.RowKit
set_option linter.unusedVariables false

theorem own : ownKnob Try.prog.godebug = none := by kernel_rfl
theorem laidOut : laidOutB Try.prog = true := by kernel_rfl

theorem arg (a : Int) : ∃ U n : Nat, IntKind.u64.wrap a = (U : Int) ∧ (U : Int) % 8 = (n : Int) ∧ n < 8 := by
  have h : 0 ≤ IntKind.u64.wrap a := by rw [IntKind.wrap_u64]; omega
  obtain ⟨U, hU⟩ := Int.eq_ofNat_of_zero_le h
  exact ⟨U, U % 8, hU, by omega, by omega⟩

theorem plain {A B C : Nat} (hA : A < 8) (hB : B < 8) (hC : C < 8) : ∃ m x y z : Nat, m < 8 ∧ M.msk A B = m ∧ M.msk B A = m ∧ M.msk B C = x ∧ M.msk m C = y ∧ M.msk A x = y ∧ M.msk A A = A ∧ z = 0
    ∧ M.wth m A = true ∧ M.wth m B = true ∧ M.wth C m = (M.wth C A && M.wth C B) := by
  have k : ∀ a : Fin 8, ∀ b : Fin 8, ∀ c : Fin 8, M.msk a.val b.val = ((a.val &&& b.val : Nat) : Int) ∧ M.msk b.val a.val = ((a.val &&& b.val : Nat) : Int) ∧ M.msk b.val c.val = ((b.val &&& c.val : Nat) : Int) ∧ M.msk ((a.val &&& b.val : Nat) : Int) c.val = ((a.val &&& b.val &&& c.val : Nat) : Int)
      ∧ M.msk a.val ((b.val &&& c.val : Nat) : Int) = ((a.val &&& b.val &&& c.val : Nat) : Int) ∧ M.msk a.val a.val = a.val ∧ M.wth ((a.val &&& b.val : Nat) : Int) a.val = true ∧ M.wth ((a.val &&& b.val : Nat) : Int) b.val = true
      ∧ M.wth c.val ((a.val &&& b.val : Nat) : Int) = (M.wth c.val a.val && M.wth c.val b.val) := by decide +kernel
  obtain ⟨k1, k2, k3, k4, k5, k6, k7, k8, k9⟩ := k ⟨A, hA⟩ ⟨B, hB⟩ ⟨C, hC⟩
  exact ⟨A &&& B, B &&& C, A &&& B &&& C, 0, Nat.lt_of_le_of_lt Nat.and_le_left hA, k1, k2, k3, k4, k5, k6, rfl, k7, k8, k9⟩

theorem beq_self (s : Int) : (s == s) = true := by simp
theorem beq_selfB (s : Bool) : (s == s) = true := by simp

set_option maxHeartbeats 2000000 in
theorem core (a b c : Int) (U V W A B C m x y : Nat) (p q : Bool) (w : World) (hU : IntKind.u64.wrap a = (U : Int)) (hA : (U : Int) % 8 = (A : Int)) (hV : IntKind.u64.wrap b = (V : Int)) (hB : (V : Int) % 8 = (B : Int))
    (hW : IntKind.u64.wrap c = (W : Int)) (hC : (W : Int) % 8 = (C : Int)) (lA : A < 8) (lB : B < 8) (lC : C < 8) (k1 : M.msk A B = m) (k2 : M.msk B A = m) (k3 : M.msk B C = x) (k4 : M.msk m C = y) (k5 : M.msk A x = y) (k6 : M.msk A A = A)
    (k7 : M.wth m A = true) (k8 : M.wth m B = true) (k9 : M.wth C m = (p && q)) (k10 : M.wth C A = p) (k11 : M.wth C B = q) :
    Calls Try.prog 5 #[.int .i64 a, .int .i64 b, .int .i64 c] w fun e w' => e = .returned (.bool true) ∧ Below w.heap.size w w' := by
  have k1 := hideIt k1
  have k2 := hideIt k2
  have k3 := hideIt k3
  have k4 := hideIt k4
  have k5 := hideIt k5
  have k6 := hideIt k6
  have k7 := hideIt k7
  have k8 := hideIt k8
  have k9 := hideIt k9
  have k10 := hideIt k10
  have k11 := hideIt k11
  cases p
  all_goals
    go_enter Try.func5, Try.ntmps5
    go_wp2_with fail
    refine (works_any _).mono ?_
    rintro e w1 ⟨rfl, g1⟩
    go_wp2_with fail
    clear hU hA hV hB hW hC
    refine (mask_is A B m k1.out _).mono ?_
    rintro e w' ⟨rfl, rfl⟩
    go_wp2_with fail
    refine (within_is m A true k7.out _).mono ?_
    rintro e w' ⟨rfl, rfl⟩
    go_wp2_with fail
    refine (within_is m B true k8.out _).mono ?_
    rintro e w' ⟨rfl, rfl⟩
    go_wp2_with fail
    refine (within_is C m _ k9.out _).mono ?_
    rintro e w' ⟨rfl, rfl⟩
    go_wp2_with fail
    refine (within_is C A _ k10.out _).mono ?_
    rintro e w' ⟨rfl, rfl⟩
  · go_wp2_with fail
    refine (mask_is B A m k2.out _).mono ?_
    rintro e w' ⟨rfl, rfl⟩
    go_wp2_with fail
    refine (mask_is m C y k4.out _).mono ?_
    rintro e w' ⟨rfl, rfl⟩
    go_wp2_with fail
    refine (mask_is B C x k3.out _).mono ?_
    rintro e w' ⟨rfl, rfl⟩
    go_wp2_with fail
    refine (mask_is A x y k5.out _).mono ?_
    rintro e w' ⟨rfl, rfl⟩
    go_wp2_with fail
    refine (mask_is A A A k6.out _).mono ?_
    rintro e w' ⟨rfl, rfl⟩
    go_wp2
    go_ret
    exact ⟨rfl, gbEnd g1⟩
  · go_wp2_with fail
    refine (within_is C B _ k11.out _).mono ?_
    rintro e w' ⟨rfl, rfl⟩
    have T := beq_selfB q
    go_wp2_with fail
    refine (mask_is B A m k2.out _).mono ?_
    rintro e w' ⟨rfl, rfl⟩
    go_wp2_with fail
    refine (mask_is m C y k4.out _).mono ?_
    rintro e w' ⟨rfl, rfl⟩
    go_wp2_with fail
    refine (mask_is B C x k3.out _).mono ?_
    rintro e w' ⟨rfl, rfl⟩
    go_wp2_with fail
    refine (mask_is A x y k5.out _).mono ?_
    rintro e w' ⟨rfl, rfl⟩
    go_wp2_with fail
    refine (mask_is A A A k6.out _).mono ?_
    rintro e w' ⟨rfl, rfl⟩
    go_wp2
    go_ret
    exact ⟨rfl, gbEnd g1⟩

theorem walk (a b c : Int) (w : World) :
    Calls Try.prog 5 #[.int .i64 a, .int .i64 b, .int .i64 c] w fun e w' => e = .returned (.bool true) ∧ Below w.heap.size w w' := by
  obtain ⟨U, A, hU, hA, lA⟩ := arg a
  obtain ⟨V, B, hV, hB, lB⟩ := arg b
  obtain ⟨W, C, hW, hC, lC⟩ := arg c
  obtain ⟨m, x, y, _, _, k1, k2, k3, k4, k5, k6, _, k7, k8, k9⟩ := plain lA lB lC
  exact core a b c U V W A B C m x y _ _ w hU hA hV hB hW hC lA lB lC k1 k2 k3 k4 k5 k6 k7 k8 k9 rfl rfl

set_option maxRecDepth 100000 in
theorem lifted (os : Os) (started : os.Started) (H : Type) (enc : TypeId × Value → H) :
    ReturnsInHanded {} Try.checked os 5 .any (Rows.rightsMostSpec.pre6 enc Try.prog Try.f5 Rows.rightsMostRow.domain false) (Rows.rightsMostSpec.post enc Try.prog Try.f5 false true false false) := by
  refine returnsInHanded_of_change (C := Try.checked) own started (by kernel_rfl) Try.func5
    (ChangeSpec.witness6 (enc := enc) (C := Try.checked) false ⟨#[], #[.int .i64 0, .int .i64 0, .int .i64 0], []⟩ 8 (by kernel_rfl) (by kernel_rfl) (by kernel_rfl) (by kernel_rfl)) ?_
  intro W base args ds gs before hval0 hW hcnd _
  have hval : ∀ (j : Nat) t v, Try.f5.params[j]? = some t → args[j]? = some v → Value.okWide Try.prog W .any base t v := hval0
  have hW' := hW
  obtain ⟨p, q, hA0, hV, rfl, hfz, hnd⟩ := hW
  have hA : DataW.TrodAll enc Try.prog W 0 (fun _ => true) true Try.f5.params.toList args.toList ds p := hA0
  rw [Try.params5] at hA hval
  obtain ⟨v0, vs0, d0, ds0, p0, q0, hargs, rfl, rfl, h0, r0⟩ := trodAll_cons hA
  obtain ⟨v1, vs1, d1, ds1, p1, q1, rfl, rfl, rfl, h1, r1⟩ := trodAll_cons r0
  obtain ⟨v2, vs2, d2, ds2, p2, q2, rfl, rfl, rfl, h2, r2⟩ := trodAll_cons r1
  obtain ⟨rfl, rfl, rfl⟩ := trodAll_nil r2
  obtain rfl : args = #[v0, v1, v2] := by cases args; simp_all
  obtain ⟨rfl, rfl⟩ := trodVars_none hV
  obtain ⟨a0, rfl, rfl, rfl, w0⟩ := open_int Try.underlying3 (hval 0 3 v0 rfl rfl) h0
  obtain ⟨a1, rfl, rfl, rfl, w1⟩ := open_int Try.underlying3 (hval 1 3 v1 rfl rfl) h1
  obtain ⟨a2, rfl, rfl, rfl, w2⟩ := open_int Try.underlying3 (hval 2 3 v2 rfl rfl) h2
  clear hA0 hval0
  refine (walk a0 a1 a2 W).mono fun e W' ⟨he, bel⟩ => ?_
  subst he
  exact ⟨_, rfl, _, _, _, [], _, [], hW', trodAll_mk1 (shut_bool Try.underlying4 _), (trodAll_cons_mk (shut_int Try.underlying3 w0) (trodAll_cons_mk (shut_int Try.underlying3 w1) (trodAll_cons_mk (shut_int Try.underlying3 w2) trodAll_mk0))), rfl, bel.frame _, fun h => by cases h⟩

theorem over : Rows.rightsMostRow.holds Try.pinned (OpenSpec.ofChange Rows.rightsMostSpec) :=
  OpenClaim.holds_of_wide 5 Try.f5 rfl rfl rfl rfl rfl rfl rfl ⟨rfl, rfl, rfl, rfl, rfl⟩ rfl rfl rfl rfl rfl (by kernel_rfl) Try.func5 (by kernel_rfl)
    (of_decide_eq_true (by kernel_rfl)) (by unfold Func.isWrapper; first | (rw [if_pos (by decide +kernel)]; kernel_rfl) | (rw [if_neg (by decide +kernel)]; exact ⟨rfl, rfl⟩))
    (fun os started H enc _ => lifted os started H enc)

theorem proved : Rows.RightsMostSaid := over
end Go.Proofs.Ytieehopidnpniaa.rightsMost
namespace Go.Proofs.Ytieehopidnpniaa
theorem rightsMost_holds : Rows.RightsMostSaid := rightsMost.proved
#print axioms rightsMost_holds
end Go.Proofs.Ytieehopidnpniaa
