/- UntypedFills: as many objects as there is room for are made of a span, one by one, if none is longer than it, and they all are as long; no condition. -/
import Derived.Test.YtadllapdhdjpbaaWorks
import Derived.Test.YtadllapdhdjpbaaFill
import Derived.Test.YtadllapdhdjpbaaArgs
import Derived.ProofKit
import Derived.OpenShut
import Derived.ShutString
import Derived.ChangeOld
import Derived.Below
import Derived.Deep.Slices
namespace Go.Proofs.Ytadllapdhdjpbaa.untypedFills
open Go.ChangeShapes Go.WideShapes Go.ChangeAt Go.RowKit
set_option linter.unusedVariables false

theorem own : ownKnob Try.prog.godebug = none := by kernel_rfl
theorem laidOut : laidOutB Try.prog = true := by kernel_rfl

set_option maxRecDepth 10000 in
set_option maxHeartbeats 2000000 in
theorem core (a0 a1 : Int) (U0 U1 n k p m : Nat) (w : World) (h0 : IntKind.u64.wrap a0 = (U0 : Int)) (h1 : (U0 : Int) % 9 = (n : Int)) (h2 : IntKind.u64.wrap a1 = (U1 : Int)) (h3 : (U1 : Int) % 9 = (k : Int)) (hn : n ≤ 8) (hk : k ≤ 8)
    (HF : Hid (∀ j U : Nat, j * m = U → U ≤ p → j ≤ 256 ∧ ((∃ V : Nat, (j + 1) * m = V ∧ V ≤ p ∧ M.pln 512 (n : Int) (U : Int) 1 (k : Int) 1 = ([(((512 + U : Nat) : Int), (k : Int))], (V : Int), 0)) ∨
      (M.pln 512 (n : Int) (U : Int) 1 (k : Int) 1 = ([], 0, 7) ∧ ((n < k ∧ j = 0) ∨ (k ≤ n ∧ (∃ i : Nat, (n : Int) - (k : Int) = (i : Int) ∧ i ≤ 16 ∧ wrap64 (2 ^ i) = (j : Int)) ∧ M.lft 512 (n : Int) (U : Int) = 0)))))) :
    Calls Try.prog 5 #[.int .i64 a0, .int .i64 a1] w fun e w' => e = .returned (.bool true) ∧ w.grownBy w' none := by
  go_enter Try.func5, Try.ntmps5
  go_wp2_with fail
  refine (works_any _).mono ?_
  rintro _ w1 ⟨rfl, g1⟩
  go_wp2
  obtain ⟨W, hW, X, gX⟩ := boxNew w1 512 n
  rw [hW]
  clear hW
  clear h0 h1 h2 h3
  have G0 := gbTrans g1 gX
  go_loopg [6, 7, 8, 9, 10, 11] 600 (fun g used made i _ _ _ wr => ∃ j U : Nat, j + g = 600 ∧ i = .int .i64 j ∧ made = .int .i64 j ∧ used = .int .i64 U ∧ Hid (j * m = U) ∧ Hid (U ≤ p) ∧ Box wr w1.heap.size 512 n ∧ w.grownBy wr none)
  case atStart => exact ⟨0, 0, by omega, rfl, rfl, rfl, hideIt (by simp), hideIt (Nat.zero_le _), X, G0⟩
  case round =>
    obtain ⟨j, U, hj, rfl, rfl, rfl, HU, HP, Y, gw⟩ := hrel
    clear X G0
    have y0 := Y.at0
    have y1 := Y.at1
    obtain ⟨hj2, hh⟩ := HF.out j U HU.out HP.out
    have hlt : (j : Int) < 600 := by omega
    rcases hh with ⟨V, hV, hVp, q⟩ | ⟨q, hh⟩
    · have HV := hideIt hV
      have HVp := hideIt hVp
      have HC := fun w => plan_is 512 n U 1 k 1 V 0 _ q w
      clear q hV hVp
      go_wp2_with fail
      refine (HC _).mono ?_
      rintro _ w2 ⟨v2, rfl, _, g2⟩
      go_wp2
      go_roundg (gk - 1)
      case rel => exact ⟨j + 1, V, by omega, by go_num, by go_num, rfl, HV, HVp, Y.kept g2, gbTrans gw g2⟩
      case measure => omega
    · have HC := fun w => plan_is 512 n U 1 k 1 0 7 _ q w
      clear q
      rcases hh with ⟨hnk, rfl⟩ | ⟨hkn, ⟨i, hi, hi16, hsh⟩, hl⟩
      · have hnk' : (n : Int) < (k : Int) := by omega
        go_wp2_with fail
        refine (HC _).mono ?_
        rintro _ w2 ⟨v2, rfl, _, g2⟩
        go_wp2
        go_ret
        exact ⟨rfl, gbTrans gw g2⟩
      · have hkn' : ¬ (n : Int) < (k : Int) := by omega
        have HL := fun w => left_is 512 n U 0 hl w
        clear hl
        go_wp2_with fail
        refine (HC _).mono ?_
        rintro _ w2 ⟨v2, rfl, _, g2⟩
        have Y2 := Y.kept g2
        clear y0 y1
        have y0 := Y2.at0
        have y1 := Y2.at1
        go_wp2_with fail
        refine (HL _).mono ?_
        rintro _ w3 ⟨rfl, g3⟩
        go_wp2
        go_ret
        exact ⟨rfl, gbTrans gw (gbTrans g2 g3)⟩

theorem walk (a0 a1 : Int) (w : World) :
    Calls Try.prog 5 #[.int .i64 a0, .int .i64 a1] w fun e w' => e = .returned (.bool true) ∧ Below w.heap.size w w' := by
  obtain ⟨U0, n, h0, h1, hn⟩ := M.mod9 a0
  obtain ⟨U1, k, h2, h3, hk⟩ := M.mod9 a1
  exact endWalk (core a0 a1 U0 U1 n k _ _ w h0 h1 h2 h3 hn hk (hideIt fun j U hU h => M.fill_round n k _ _ j U hn hk rfl rfl hU h))

set_option maxRecDepth 100000 in
theorem lifted (os : Os) (started : os.Started) (H : Type) (enc : TypeId × Value → H) :
    ReturnsInHanded {} Try.checked os 5 .any (Rows.untypedFillsSpec.pre6 enc Try.prog Try.f5 Rows.untypedFillsRow.domain false) (Rows.untypedFillsSpec.post enc Try.prog Try.f5 false true false false) := by
  refine returnsInHanded_of_change (C := Try.checked) own started (by kernel_rfl) Try.func5
    (ChangeSpec.witness6 (enc := enc) (C := Try.checked) false ⟨#[], #[.int .i64 0, .int .i64 0], []⟩ 8 (by kernel_rfl) (by kernel_rfl) (by kernel_rfl) (by kernel_rfl)) ?_
  intro W base args ds gs before hval0 hW hcnd _
  have hval : ∀ (j : Nat) t v, Try.f5.params[j]? = some t → args[j]? = some v → Value.okWide Try.prog W .any base t v := hval0
  have hW' := hW
  obtain ⟨p, q, hA0, hV, rfl, hfz, hnd⟩ := hW
  have hA : DataW.TrodAll enc Try.prog W 0 (fun _ => true) true Try.f5.params.toList args.toList ds p := hA0
  rw [Try.params5] at hA hval
  obtain ⟨v0, vs0, d0, ds0, p0, q0, hargs, rfl, rfl, h0, r0⟩ := trodAll_cons hA
  obtain ⟨v1, vs1, d1, ds1, p1, q1, rfl, rfl, rfl, h1, r1⟩ := trodAll_cons r0
  obtain ⟨rfl, rfl, rfl⟩ := trodAll_nil r1
  obtain rfl : args = #[v0, v1] := by cases args; simp_all
  obtain ⟨rfl, rfl⟩ := trodVars_none hV
  obtain ⟨a0, rfl, rfl, rfl, w0⟩ := open_int Try.underlying3 (hval 0 3 v0 rfl rfl) h0
  obtain ⟨a1, rfl, rfl, rfl, w1⟩ := open_int Try.underlying3 (hval 1 3 v1 rfl rfl) h1
  clear hA0 hval0
  refine (walk a0 a1 W).mono fun e W' ⟨he, bel⟩ => ?_
  subst he
  exact ⟨_, rfl, _, _, _, [], _, [], hW', trodAll_mk1 (shut_bool Try.underlying4 _), (trodAll_cons_mk (shut_int Try.underlying3 w0) (trodAll_cons_mk (shut_int Try.underlying3 w1) trodAll_mk0)), rfl, bel.frame _, fun h => by cases h⟩

theorem over : Rows.untypedFillsRow.holds Try.pinned (OpenSpec.ofChange Rows.untypedFillsSpec) :=
  OpenClaim.holds_of_wide 5 Try.f5 rfl rfl rfl rfl rfl rfl rfl ⟨rfl, rfl, rfl, rfl, rfl⟩ rfl rfl rfl rfl rfl (by kernel_rfl) Try.func5 (by kernel_rfl)
    (of_decide_eq_true (by kernel_rfl)) (by unfold Func.isWrapper; first | (rw [if_pos (by decide +kernel)]; kernel_rfl) | (rw [if_neg (by decide +kernel)]; exact ⟨rfl, rfl⟩))
    (fun os started H enc _ => lifted os started H enc)

theorem proved : Rows.UntypedFillsSaid := over
end Go.Proofs.Ytadllapdhdjpbaa.untypedFills
namespace Go.Proofs.Ytadllapdhdjpbaa
theorem untypedFills_holds : Rows.UntypedFillsSaid := untypedFills.proved
#print axioms untypedFills_holds
end Go.Proofs.Ytadllapdhdjpbaa
