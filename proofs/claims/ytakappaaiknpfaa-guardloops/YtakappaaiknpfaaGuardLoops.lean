/- GuardLoops: with a node that has itself in each of its slots, an address of as many bits as the radix goes into leads to the slot that its lowest bits number, and every other one leads nowhere: it ends. For every radix, address and depth; no condition. -/
import Derived.Test.YtakappaaiknpfaaWrk
import Derived.Test.YtakappaaiknpfaaMany
import Derived.ProofKit
import Derived.OpenShut
import Derived.ShutString
import Derived.ChangeOld
import Derived.Below
import Derived.Deep.Slices
namespace Go.Proofs.Ytakappaaiknpfaa.guardLoops
open Go.ChangeShapes Go.WideShapes Go.ChangeAt Go.RowKit
set_option linter.unusedVariables false

theorem own : ownKnob Try.prog.godebug = none := by kernel_rfl
theorem laidOut : laidOutB Try.prog = true := by kernel_rfl

theorem args (a0 a1 a2 : Int) (h0 : 0 ≤ a1) (h1 : a1 < 18446744073709551616) : ∃ U V r d q p m z x : Nat, IntKind.u64.wrap a0 = (U : Int) ∧ IntKind.u64.wrap a2 = (V : Int) ∧ 1 + (U : Int) % 4 = (r : Int) ∧ 1 + (V : Int) % 16 = (d : Int) ∧
    IntKind.u64.wrap (2 ^ d) = (q : Int) ∧ a1.tmod (q : Int) = (p : Int) ∧ 1 ≤ q ∧ wrap64 (2 ^ r) = (m : Int) ∧ IntKind.u64.wrap (2 ^ r) = (m : Int) ∧ (p : Int).tmod (m : Int) = (z : Int) ∧ (d : Int).tmod (r : Int) = (x : Int) ∧
    1 ≤ r ∧ r ≤ 4 ∧ 1 ≤ d ∧ d ≤ 16 ∧ p < 2 ^ d ∧ m = 2 ^ r ∧ 1 ≤ m ∧ m ≤ 16 ∧ z = p % 2 ^ r ∧ z < 16 ∧ x = d % r := by
  obtain ⟨U, hU, _⟩ := M.wrap_nat a0
  obtain ⟨V, hV, _⟩ := M.wrap_nat a2
  obtain ⟨P, rfl⟩ : ∃ P : Nat, a1 = (P : Int) := ⟨a1.toNat, by omega⟩
  have hr : 1 + U % 4 ≤ 4 := by omega
  have hd : 1 + V % 16 ≤ 16 := by omega
  obtain ⟨e1, e2⟩ := M.pow_small (1 + V % 16) hd
  have hm : 2 ^ (1 + U % 4) ≤ 16 := by have : 2 ^ (1 + U % 4) ≤ 2 ^ 4 := Nat.pow_le_pow_right (by omega) hr; simpa using this
  have hm1 : 1 ≤ 2 ^ (1 + U % 4) := Nat.one_le_two_pow
  have hz : P % 2 ^ (1 + V % 16) % 2 ^ (1 + U % 4) < 2 ^ (1 + U % 4) := Nat.mod_lt _ (by omega)
  refine ⟨U, V, 1 + U % 4, 1 + V % 16, 2 ^ (1 + V % 16), P % 2 ^ (1 + V % 16), 2 ^ (1 + U % 4), P % 2 ^ (1 + V % 16) % 2 ^ (1 + U % 4), (1 + V % 16) % (1 + U % 4), hU, hV, by omega, by omega, ?_, ?_, e2, ?_, ?_, ?_, ?_, by omega, hr, by omega, hd, Nat.mod_lt _ (by omega), rfl, hm1, hm, rfl, by omega, rfl⟩
  · rw [IntKind.wrap_u64, show ((2 : Int) ^ (1 + V % 16)) = ((2 ^ (1 + V % 16) : Nat) : Int) by simp]
    generalize 2 ^ (1 + V % 16) = Q at e1 e2
    omega
  · exact (Int.ofNat_tmod _ _).symm
  · rw [show ((2 : Int) ^ (1 + U % 4)) = ((2 ^ (1 + U % 4) : Nat) : Int) by simp]
    generalize 2 ^ (1 + U % 4) = Q at hm
    unfold wrap64
    omega
  · rw [IntKind.wrap_u64, show ((2 : Int) ^ (1 + U % 4)) = ((2 ^ (1 + U % 4) : Nat) : Int) by simp]
    generalize 2 ^ (1 + U % 4) = Q at hm
    omega
  · exact (Int.ofNat_tmod _ _).symm
  · exact (Int.ofNat_tmod _ _).symm

set_option maxRecDepth 10000 in
set_option maxHeartbeats 4000000 in
theorem core (a0 a1 a2 : Int) (U V r d q p m z x : Nat) (w : World) (hU : IntKind.u64.wrap a0 = (U : Int)) (hV : IntKind.u64.wrap a2 = (V : Int)) (hr : 1 + (U : Int) % 4 = (r : Int)) (hd : 1 + (V : Int) % 16 = (d : Int))
    (hq : IntKind.u64.wrap (2 ^ d) = (q : Int)) (hp : a1.tmod (q : Int) = (p : Int)) (hq1 : 1 ≤ q) (hm : wrap64 (2 ^ r) = (m : Int)) (hm' : IntKind.u64.wrap (2 ^ r) = (m : Int)) (hz : (p : Int).tmod (m : Int) = (z : Int)) (hx : (d : Int).tmod (r : Int) = (x : Int))
    (r1 : 1 ≤ r) (r4 : r ≤ 4) (d1 : 1 ≤ d) (d16 : d ≤ 16) (HM : Hid (m = 2 ^ r)) (m1 : 1 ≤ m) (m16 : m ≤ 16) (z16 : z < 16) (HX : Hid (x = d % r)) (HZ : Hid (z = p % 2 ^ r)) (HPD : Hid (p < 2 ^ d)) :
    Calls Try.prog 5 #[.int .i64 a0, .int .u64 a1, .int .i64 a2] w fun e w' => e = .returned (.bool true) ∧ Below w.heap.size w w' := by
  have HF := hideIt (M.lst_fd r p d r1 d1 d16 HPD.out)
  have HA := hideIt (M.one_add 1 r (by omega) (by omega) r1 r4)
  have hp64 : Hid (p < 18446744073709551616) := hideIt (by have := (M.pow_small d d16).1; have := HPD.out; omega)
  have qe := eqGuardSlots
  have qn := run_eql_slots
  go_enter Try.func5, Try.ntmps5
  go_wp2_with fail
  refine (works_is _).mono ?_
  rintro _ w1 ⟨rfl, g1⟩
  go_wp2_with fail
  clear hU hV hr hd
  refine (new_own g1).mono ?_
  rintro _ w2 ⟨s, O, rfl, B2⟩
  have HB2 := hideIt B2
  clear B2 g1
  go_wp2_with fail
  refine (add_own HB2.out 1 r 0 W.i1 (by omega) HA.out.1).mono ?_
  rintro _ w3 ⟨rfl, O2, B3, _⟩
  rw [HA.out.2, ← M.lst_zero] at B3
  have HB3 := hideIt B3
  clear B3 HB2
  go_upto_region 9 with fail
  obtain ⟨W4, hW4, X4, g4⟩ := boxNew w3 M.me
  simp only at hW4
  rw [hW4]
  have HB4 := hideIt (HB3.out.kept g4)
  have HX4 := hideIt X4
  have HN := hideIt (HB3.out.past w3.heap.size (Nat.le_refl _))
  clear hW4 X4 HB3
  obtain ⟨X, hX⟩ : ∃ X, X = w3.heap.size := ⟨_, rfl⟩
  rw [← hX] at HX4 HN ⊢
  clear hX g4
  go_wp2_with fail
  go_loopg [9] m (fun y i wr => ∃ j : Nat, j + y = m ∧ i = .int .i64 j ∧ Hid (Own w wr O2 s 1 (M.lst r j)) ∧ Hid (Box wr X M.me))
  case atStart => exact ⟨0, by omega, rfl, HB4, HX4⟩
  case round =>
    clear HB4 HX4
    obtain ⟨j, hj, rfl, HB, HX'⟩ := hrel
    by_cases hlt : j < m
    · have hlt' : (j : Int) < (m : Int) := by omega
      have hput := hideIt (M.lst_put r j (by rw [← HM.out]; exact hlt))
      have HP := hideIt (put_own HB.out 1 j 2 1 0 0 0 0 0 W.i1 (by decide) (by decide) hput.out.1)
      obtain ⟨x0, x1, x2, x3, x4, x5, _, _⟩ := HX'.out
      simp only at x0 x1 x2 x3 x4 x5
      go_wp2_with fail
      refine HP.out.mono ?_
      rintro _ w5 ⟨rfl, B5, F5⟩
      rw [hput.out.2] at B5
      have HX5 := hideIt (F5.box HX'.out HN.out)
      have HB5 := hideIt B5
      clear B5 F5 x0 x1 x2 x3 x4 x5 HP
      go_wp2
      go_roundg (gk - 1)
      case rel => exact ⟨j + 1, by omega, by go_num, HB5, HX5⟩
      case measure => omega
    · have hlt' : ¬ (j : Int) < (m : Int) := by omega
      obtain rfl : j = m := by omega
      obtain ⟨x0, x1, x2, x3, x4, x5, _, _⟩ := HX'.out
      simp only at x0 x1 x2 x3 x4 x5
      have hB := HB.out
      rw [HM.out] at hB
      by_cases hz0 : d % r = 0
      · have e := HF.out
        rw [if_pos hz0, ← HZ.out] at e
        have HP := hideIt (find_is hB.sat hB.good p 2 1 0 0 0 0 d 1 z 0 W.i1 hp64.out e)
        obtain rfl : x = 0 := by rw [HX.out, hz0]
        clear e
        go_wp2_with fail
        refine HP.out.mono ?_
        rintro _ w6 ⟨rfl, g6⟩
        clear HP x0 x1 x2 x3 x4 x5
        go_upto_region 15 with fail
        obtain ⟨W7, hW7, Y7, g7⟩ := sboxNew w6 1 z
        rw [hW7]
        have HG := hideIt (hB.kept (gbTrans g6 g7)).gr
        obtain ⟨y0, y1, _⟩ := id Y7
        have he := M.seq_refl 1 z
        clear hW7 hB
        go_wp2
        go_quiet (fail)
        go_wp2
        go_ret
        exact ⟨rfl, gbEnd (gbTrans HG.out (gbDrewN _ _ _))⟩
      · have e := HF.out
        rw [if_neg hz0] at e
        have HP := hideIt (find_is hB.sat hB.good p 2 1 0 0 0 0 d 0 0 6 W.i1 hp64.out e)
        have hx0 : ((x : Int) != 0) = true := by have := HX.out; simp; omega
        clear e
        go_wp2_with fail
        refine HP.out.mono ?_
        rintro _ w6 ⟨rfl, g6⟩
        clear HP x0 x1 x2 x3 x4 x5
        go_upto_region 15 with fail
        obtain ⟨W7, hW7, Y7, g7⟩ := sboxNew w6 0 0
        rw [hW7]
        have HG := hideIt (hB.kept (gbTrans g6 g7)).gr
        clear hW7 hB
        go_wp2
        go_ret
        exact ⟨rfl, gbEnd HG.out⟩

theorem walk (a0 a1 : Int) (w1 : (Lit.int .u64 a1).wf = true) (a2 : Int) (w : World) :
    Calls Try.prog 5 #[.int .i64 a0, .int .u64 a1, .int .i64 a2] w fun e w' => e = .returned (.bool true) ∧ Below w.heap.size w w' := by
  have hb := u64_wf w1
  obtain ⟨U, V, r, d, q, p, m, z, x, hU, hV, hr, hd, hq, hp, hq1, hm, hm', hz, hx, r1, r4, d1, d16, hpd, hM, m1, m16, hZ, z16, hX⟩ := args a0 a1 a2 hb.1 hb.2
  exact core a0 a1 a2 U V r d q p m z x w hU hV hr hd hq hp hq1 hm hm' hz hx r1 r4 d1 d16 hM m1 m16 z16 hX hZ hpd

set_option maxRecDepth 100000 in
theorem lifted (os : Os) (started : os.Started) (H : Type) (enc : TypeId × Value → H) :
    ReturnsInHanded {} Try.checked os 5 .any (Rows.guardLoopsSpec.pre6 enc Try.prog Try.f5 Rows.guardLoopsRow.domain false) (Rows.guardLoopsSpec.post enc Try.prog Try.f5 false true false false) := by
  refine returnsInHanded_of_change (C := Try.checked) own started (by kernel_rfl) Try.func5
    (ChangeSpec.witness6 (enc := enc) (C := Try.checked) false ⟨#[], #[.int .i64 0, .int .u64 0, .int .i64 0], []⟩ 8 (by kernel_rfl) (by kernel_rfl) (by kernel_rfl) (by kernel_rfl)) ?_
  intro W base args ds gs before hval0 hW hcnd _
  have hval : ∀ (j : Nat) t v, Try.f5.params[j]? = some t → args[j]? = some v → Value.okWide Try.prog W .any base t v := hval0
  have hW' := hW
  obtain ⟨p, q, hA0, hV, rfl, hfz, hnd⟩ := hW
  have hA : DataW.TrodAll enc Try.prog W 0 (fun _ => true) true Try.f5.params.toList args.toList ds p := hA0
  rw [Try.params5] at hA hval
  obtain ⟨v0, vs0, d0, ds0, p0, q0, hargs, rfl, rfl, h0, r0⟩ := trodAll_cons hA
  obtain ⟨v1, vs1, d1, ds1, p1, q1, rfl, rfl, rfl, h1, r1⟩ := trodAll_cons r0
  obtain ⟨v2, vs2, d2, ds2, p2, q2, rfl, rfl, rfl, h2, r2⟩ := trodAll_cons r1
  obtain ⟨rfl, rfl, rfl⟩ := trodAll_nil r2
  obtain rfl : args = #[v0, v1, v2] := by cases args; simp_all
  obtain ⟨rfl, rfl⟩ := trodVars_none hV
  obtain ⟨a0, rfl, rfl, rfl, w0⟩ := open_int Try.underlying3 (hval 0 3 v0 rfl rfl) h0
  obtain ⟨a1, rfl, rfl, rfl, w1⟩ := open_int Try.underlying24 (hval 1 24 v1 rfl rfl) h1
  obtain ⟨a2, rfl, rfl, rfl, w2⟩ := open_int Try.underlying3 (hval 2 3 v2 rfl rfl) h2
  clear hA0 hval0
  refine (walk a0 a1 w1 a2 W).mono fun e W' ⟨he, bel⟩ => ?_
  subst he
  exact ⟨_, rfl, _, _, _, [], _, [], hW', trodAll_mk1 (shut_bool Try.underlying4 _), (trodAll_cons_mk (shut_int Try.underlying3 w0) (trodAll_cons_mk (shut_int Try.underlying24 w1) (trodAll_cons_mk (shut_int Try.underlying3 w2) trodAll_mk0))), rfl, bel.frame _, fun h => by cases h⟩

theorem over : Rows.guardLoopsRow.holds Try.pinned (OpenSpec.ofChange Rows.guardLoopsSpec) :=
  OpenClaim.holds_of_wide 5 Try.f5 rfl rfl rfl rfl rfl rfl rfl ⟨rfl, rfl, rfl, rfl, rfl⟩ rfl rfl rfl rfl rfl (by kernel_rfl) Try.func5 (by kernel_rfl)
    (of_decide_eq_true (by kernel_rfl)) (by unfold Func.isWrapper; first | (rw [if_pos (by decide +kernel)]; kernel_rfl) | (rw [if_neg (by decide +kernel)]; exact ⟨rfl, rfl⟩))
    (fun os started H enc _ => lifted os started H enc)

theorem proved : Rows.GuardLoopsSaid := over
end Go.Proofs.Ytakappaaiknpfaa.guardLoops
namespace Go.Proofs.Ytakappaaiknpfaa
theorem guardLoops_holds : Rows.GuardLoopsSaid := guardLoops.proved
#print axioms guardLoops_holds
end Go.Proofs.Ytakappaaiknpfaa
