/- To be within is an order: each is within itself; what is within something within is within; who are within one another are the same. No condition. -/
import Derived.Test.YtieehopidnpniaaWorks
import Derived.ProofKit
import Derived.OpenShut
import Derived.ShutString
import Derived.ChangeOld
import Derived.Below
import Derived.Deep.Slices
namespace Go.Proofs.Ytieehopidnpniaa.rightsOrder
open Go.ChangeShapes Go.WideShapes Go.ChangeAt Go.RowKit
set_option linter.unusedVariables false

theorem own : ownKnob Try.prog.godebug = none := by kernel_rfl
theorem laidOut : laidOutB Try.prog = true := by kernel_rfl

theorem arg (a : Int) : ∃ U n : Nat, IntKind.u64.wrap a = (U : Int) ∧ (U : Int) % 9 = (n : Int) ∧ n < 9 := by
  have h : 0 ≤ IntKind.u64.wrap a := by rw [IntKind.wrap_u64]; omega
  obtain ⟨U, hU⟩ := Int.eq_ofNat_of_zero_le h
  exact ⟨U, U % 9, hU, by omega, by omega⟩

theorem plain {A B C : Nat} (hA : A < 9) (hB : B < 9) (hC : C < 9) : M.wth A A = M.ck A ∧ (M.wth A B = true → M.wth B C = true → M.wth A C = true) ∧ (M.wth A B = true → M.wth B A = true → ((A : Int) == (B : Int)) = true) := by
  have k : ∀ a : Fin 9, ∀ b : Fin 9, ∀ c : Fin 9, M.wth a.val a.val = M.ck a.val ∧ (M.wth a.val b.val = true → M.wth b.val c.val = true → M.wth a.val c.val = true) ∧ (M.wth a.val b.val = true → M.wth b.val a.val = true → ((a.val : Int) == (b.val : Int)) = true) := by decide +kernel
  exact k ⟨A, hA⟩ ⟨B, hB⟩ ⟨C, hC⟩

theorem beq_selfB (s : Bool) : (s == s) = true := by simp

set_option maxHeartbeats 2000000 in
theorem core (a b c : Int) (U V W A B C : Nat) (x p q r : Bool) (w : World) (hU : IntKind.u64.wrap a = (U : Int)) (hA : (U : Int) % 9 = (A : Int)) (hV : IntKind.u64.wrap b = (V : Int)) (hB : (V : Int) % 9 = (B : Int))
    (hW : IntKind.u64.wrap c = (W : Int)) (hC : (W : Int) % 9 = (C : Int)) (lA : A < 9) (lB : B < 9) (lC : C < 9) (k1 : M.wth A A = x) (k2 : M.ck A = x) (k3 : M.wth A B = p) (k4 : M.wth B C = q) (k5 : M.wth B A = r)
    (k6 : p = true → q = true → M.wth A C = true) (k7 : p = true → r = true → ((A : Int) == (B : Int)) = true) :
    Calls Try.prog 7 #[.int .i64 a, .int .i64 b, .int .i64 c] w fun e w' => e = .returned (.bool true) ∧ Below w.heap.size w w' := by
  have k1 := hideIt k1
  have k2 := hideIt k2
  have k3 := hideIt k3
  have k4 := hideIt k4
  have k5 := hideIt k5
  have k6 := hideIt k6
  have k7 := hideIt k7
  have T := beq_selfB x
  cases p
  · go_enter Try.func7, Try.ntmps7
    go_wp2_with fail
    refine (works_any _).mono ?_
    rintro e w1 ⟨rfl, g1⟩
    go_wp2_with fail
    clear hU hA hV hB hW hC
    refine (within_is A A x k1.out _).mono ?_
    rintro e w' ⟨rfl, rfl⟩
    go_wp2_with fail
    refine (check_is A x k2.out _).mono ?_
    rintro e w' ⟨rfl, rfl⟩
    go_wp2_with fail
    refine (within_is A B _ k3.out _).mono ?_
    rintro e w' ⟨rfl, rfl⟩
    go_wp2_with fail
    refine (within_is A B _ k3.out _).mono ?_
    rintro e w' ⟨rfl, rfl⟩
    go_wp2
    go_ret
    exact ⟨rfl, gbEnd g1⟩
  · cases q
    · cases r
      · go_enter Try.func7, Try.ntmps7
        go_wp2_with fail
        refine (works_any _).mono ?_
        rintro e w1 ⟨rfl, g1⟩
        go_wp2_with fail
        clear hU hA hV hB hW hC
        refine (within_is A A x k1.out _).mono ?_
        rintro e w' ⟨rfl, rfl⟩
        go_wp2_with fail
        refine (check_is A x k2.out _).mono ?_
        rintro e w' ⟨rfl, rfl⟩
        go_wp2_with fail
        refine (within_is A B _ k3.out _).mono ?_
        rintro e w' ⟨rfl, rfl⟩
        go_wp2_with fail
        refine (within_is B C _ k4.out _).mono ?_
        rintro e w' ⟨rfl, rfl⟩
        go_wp2_with fail
        refine (within_is A B _ k3.out _).mono ?_
        rintro e w' ⟨rfl, rfl⟩
        go_wp2_with fail
        refine (within_is B A _ k5.out _).mono ?_
        rintro e w' ⟨rfl, rfl⟩
        go_wp2
        go_ret
        exact ⟨rfl, gbEnd g1⟩
      · have E := k7.out rfl rfl
        go_enter Try.func7, Try.ntmps7
        go_wp2_with fail
        refine (works_any _).mono ?_
        rintro e w1 ⟨rfl, g1⟩
        go_wp2_with fail
        clear hU hA hV hB hW hC
        refine (within_is A A x k1.out _).mono ?_
        rintro e w' ⟨rfl, rfl⟩
        go_wp2_with fail
        refine (check_is A x k2.out _).mono ?_
        rintro e w' ⟨rfl, rfl⟩
        go_wp2_with fail
        refine (within_is A B _ k3.out _).mono ?_
        rintro e w' ⟨rfl, rfl⟩
        go_wp2_with fail
        refine (within_is B C _ k4.out _).mono ?_
        rintro e w' ⟨rfl, rfl⟩
        go_wp2_with fail
        refine (within_is A B _ k3.out _).mono ?_
        rintro e w' ⟨rfl, rfl⟩
        go_wp2_with fail
        refine (within_is B A _ k5.out _).mono ?_
        rintro e w' ⟨rfl, rfl⟩
        go_wp2
        go_ret
        exact ⟨rfl, gbEnd g1⟩
    · have F := hideIt (k6.out rfl rfl)
      cases r
      · go_enter Try.func7, Try.ntmps7
        go_wp2_with fail
        refine (works_any _).mono ?_
        rintro e w1 ⟨rfl, g1⟩
        go_wp2_with fail
        clear hU hA hV hB hW hC
        refine (within_is A A x k1.out _).mono ?_
        rintro e w' ⟨rfl, rfl⟩
        go_wp2_with fail
        refine (check_is A x k2.out _).mono ?_
        rintro e w' ⟨rfl, rfl⟩
        go_wp2_with fail
        refine (within_is A B _ k3.out _).mono ?_
        rintro e w' ⟨rfl, rfl⟩
        go_wp2_with fail
        refine (within_is B C _ k4.out _).mono ?_
        rintro e w' ⟨rfl, rfl⟩
        go_wp2_with fail
        refine (within_is A C _ F.out _).mono ?_
        rintro e w' ⟨rfl, rfl⟩
        go_wp2_with fail
        refine (within_is A B _ k3.out _).mono ?_
        rintro e w' ⟨rfl, rfl⟩
        go_wp2_with fail
        refine (within_is B A _ k5.out _).mono ?_
        rintro e w' ⟨rfl, rfl⟩
        go_wp2
        go_ret
        exact ⟨rfl, gbEnd g1⟩
      · have E := k7.out rfl rfl
        go_enter Try.func7, Try.ntmps7
        go_wp2_with fail
        refine (works_any _).mono ?_
        rintro e w1 ⟨rfl, g1⟩
        go_wp2_with fail
        clear hU hA hV hB hW hC
        refine (within_is A A x k1.out _).mono ?_
        rintro e w' ⟨rfl, rfl⟩
        go_wp2_with fail
        refine (check_is A x k2.out _).mono ?_
        rintro e w' ⟨rfl, rfl⟩
        go_wp2_with fail
        refine (within_is A B _ k3.out _).mono ?_
        rintro e w' ⟨rfl, rfl⟩
        go_wp2_with fail
        refine (within_is B C _ k4.out _).mono ?_
        rintro e w' ⟨rfl, rfl⟩
        go_wp2_with fail
        refine (within_is A C _ F.out _).mono ?_
        rintro e w' ⟨rfl, rfl⟩
        go_wp2_with fail
        refine (within_is A B _ k3.out _).mono ?_
        rintro e w' ⟨rfl, rfl⟩
        go_wp2_with fail
        refine (within_is B A _ k5.out _).mono ?_
        rintro e w' ⟨rfl, rfl⟩
        go_wp2
        go_ret
        exact ⟨rfl, gbEnd g1⟩

theorem walk (a b c : Int) (w : World) :
    Calls Try.prog 7 #[.int .i64 a, .int .i64 b, .int .i64 c] w fun e w' => e = .returned (.bool true) ∧ Below w.heap.size w w' := by
  obtain ⟨U, A, hU, hA, lA⟩ := arg a
  obtain ⟨V, B, hV, hB, lB⟩ := arg b
  obtain ⟨W, C, hW, hC, lC⟩ := arg c
  obtain ⟨k1, k2, k3⟩ := plain lA lB lC
  exact core a b c U V W A B C _ _ _ _ w hU hA hV hB hW hC lA lB lC rfl k1.symm rfl rfl rfl k2 k3

set_option maxRecDepth 100000 in
theorem lifted (os : Os) (started : os.Started) (H : Type) (enc : TypeId × Value → H) :
    ReturnsInHanded {} Try.checked os 7 .any (Rows.rightsOrderSpec.pre6 enc Try.prog Try.f7 Rows.rightsOrderRow.domain false) (Rows.rightsOrderSpec.post enc Try.prog Try.f7 false true false false) := by
  refine returnsInHanded_of_change (C := Try.checked) own started (by kernel_rfl) Try.func7
    (ChangeSpec.witness6 (enc := enc) (C := Try.checked) false ⟨#[], #[.int .i64 0, .int .i64 0, .int .i64 0], []⟩ 8 (by kernel_rfl) (by kernel_rfl) (by kernel_rfl) (by kernel_rfl)) ?_
  intro W base args ds gs before hval0 hW hcnd _
  have hval : ∀ (j : Nat) t v, Try.f7.params[j]? = some t → args[j]? = some v → Value.okWide Try.prog W .any base t v := hval0
  have hW' := hW
  obtain ⟨p, q, hA0, hV, rfl, hfz, hnd⟩ := hW
  have hA : DataW.TrodAll enc Try.prog W 0 (fun _ => true) true Try.f7.params.toList args.toList ds p := hA0
  rw [Try.params7] at hA hval
  obtain ⟨v0, vs0, d0, ds0, p0, q0, hargs, rfl, rfl, h0, r0⟩ := trodAll_cons hA
  obtain ⟨v1, vs1, d1, ds1, p1, q1, rfl, rfl, rfl, h1, r1⟩ := trodAll_cons r0
  obtain ⟨v2, vs2, d2, ds2, p2, q2, rfl, rfl, rfl, h2, r2⟩ := trodAll_cons r1
  obtain ⟨rfl, rfl, rfl⟩ := trodAll_nil r2
  obtain rfl : args = #[v0, v1, v2] := by cases args; simp_all
  obtain ⟨rfl, rfl⟩ := trodVars_none hV
  obtain ⟨a0, rfl, rfl, rfl, w0⟩ := open_int Try.underlying3 (hval 0 3 v0 rfl rfl) h0
  obtain ⟨a1, rfl, rfl, rfl, w1⟩ := open_int Try.underlying3 (hval 1 3 v1 rfl rfl) h1
  obtain ⟨a2, rfl, rfl, rfl, w2⟩ := open_int Try.underlying3 (hval 2 3 v2 rfl rfl) h2
  clear hA0 hval0
  refine (walk a0 a1 a2 W).mono fun e W' ⟨he, bel⟩ => ?_
  subst he
  exact ⟨_, rfl, _, _, _, [], _, [], hW', trodAll_mk1 (shut_bool Try.underlying4 _), (trodAll_cons_mk (shut_int Try.underlying3 w0) (trodAll_cons_mk (shut_int Try.underlying3 w1) (trodAll_cons_mk (shut_int Try.underlying3 w2) trodAll_mk0))), rfl, bel.frame _, fun h => by cases h⟩

theorem over : Rows.rightsOrderRow.holds Try.pinned (OpenSpec.ofChange Rows.rightsOrderSpec) :=
  OpenClaim.holds_of_wide 7 Try.f7 rfl rfl rfl rfl rfl rfl rfl ⟨rfl, rfl, rfl, rfl, rfl⟩ rfl rfl rfl rfl rfl (by kernel_rfl) Try.func7 (by kernel_rfl)
    (of_decide_eq_true (by kernel_rfl)) (by unfold Func.isWrapper; first | (rw [if_pos (by decide +kernel)]; kernel_rfl) | (rw [if_neg (by decide +kernel)]; exact ⟨rfl, rfl⟩))
    (fun os started H enc _ => lifted os started H enc)

theorem proved : Rows.RightsOrderSaid := over
end Go.Proofs.Ytieehopidnpniaa.rightsOrder
namespace Go.Proofs.Ytieehopidnpniaa
theorem rightsOrder_holds : Rows.RightsOrderSaid := rightsOrder.proved
#print axioms rightsOrder_holds
end Go.Proofs.Ytieehopidnpniaa
