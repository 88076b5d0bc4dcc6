/- MsgRest (16.3): registers that a message does not have are as they were, those that it has are as who sends has them. For every input; no condition. -/
import Derived.Test.YtgimgbbiojkfgaaRca
import Derived.Test.YtgimgbbiojkfgaaArgs
import Derived.ProofKit
import Derived.OpenShut
import Derived.ShutString
import Derived.ChangeOld
import Derived.Below
import Derived.Deep.Slices
namespace Go.Proofs.Ytgimgbbiojkfgaa.msgRest
open Go.ChangeShapes Go.WideShapes Go.ChangeAt Go.RowKit
set_option linter.unusedVariables false

theorem own : ownKnob Try.prog.godebug = none := by kernel_rfl
theorem laidOut : laidOutB Try.prog = true := by kernel_rfl

set_option maxHeartbeats 2000000 in
set_option maxRecDepth 10000 in
theorem core (A0 l : Nat) (a1 : Int) (U N : Nat) (x2 : Option Addr) (len2 cap2 : Nat) (x3 : Option Addr) (len3 cap3 : Nat) (b X : Nat) (F g h : Nat → Nat) (w : World)
    (q0 : (A0 : Int) % 65536 = (l : Int)) (q1 : IntKind.u64.wrap a1 = (U : Int)) (q2 : (U : Int) % 5 = (N : Int)) (N4 : N ≤ 4)
    (HP : ∀ w, Calls Try.prog 9 #[iv ⟨l, N, false⟩] w fun e w' => e = .returned (.tuple #[.int .u64 (X : Int), .int .i64 0]) ∧ w.grownBy w' none)
    (HF : ∀ w', w.grownBy w' none → Calls Try.prog 13 #[.slice x2 len2 cap2] w' fun r w'' => r = .returned (rv F) ∧ w'.grownBy w'' none)
    (HG : ∀ w', w.grownBy w' none → Calls Try.prog 13 #[.slice x3 len3 cap3] w' fun r w'' => r = .returned (rv g) ∧ w'.grownBy w'' none)
    (HC : ∀ w, Calls Try.prog 14 #[rv (upd F 0 X), rv g, .int .u64 (b : Int)] w fun r w' => r = .returned (.tuple #[rv h, .int .i64 0]) ∧ w.grownBy w' none)
    (h0 : h 0 = X) (h5 : h 5 = b) (h6 : h 6 = g 6) (h7 : h 7 = g 7)
    (hl : ∀ j, 1 ≤ j → j ≤ N → h j = upd F 0 X j) (hr : ∀ j, N < j → j ≤ 4 → h j = g j) :
    Calls Try.prog 6 #[.int .u64 (A0 : Int), .int .i64 a1, .slice x2 len2 cap2, .slice x3 len3 cap3, .int .u64 (b : Int)] w fun e w' => e = .returned (.bool true) ∧ w.grownBy w' none := by
  replace h0 := hideIt h0
  replace h5 := hideIt h5
  replace h6 := hideIt h6
  replace h7 := hideIt h7
  replace hl := hideIt hl
  replace hr := hideIt hr
  go_enter Try.func6, Try.ntmps6
  go_wp2_with fail
  refine (works_any _).mono ?_
  rintro e w1 ⟨rfl, G⟩
  go_wp2_with fail
  refine (HP _).mono ?_
  rintro e w2 ⟨rfl, g2⟩
  replace G := gbTrans G g2
  clear g2 q0 q1 q2
  go_wp2_with fail
  refine (HF _ G).mono ?_
  rintro e w3 ⟨rfl, g3⟩
  go_upto_region 6 with fail
  obtain ⟨W3, hW3, A, k3, s3⟩ := arrNew w3 F 38
  rw [hW3]
  clear hW3 s3
  have lx : w.heap.size ≤ w3.heap.size := (gbTrans G g3).size
  replace G := gbTrans (gbTrans G g3) k3
  generalize w3.heap.size = x at A lx
  clear g3 k3
  have a0 := A.eight.at0
  have af := A.fr 0
  go_upto_region 7 with fail
  obtain ⟨W4, e4, A4, g4⟩ : ∃ W, W3.setCell ⟨x, 0, none⟩ (.int .u64 (X : Int)) = W ∧ RA W x 38 (upd F 0 X) ∧ W3.grownBy W (some x) := ⟨_, rfl, A.set 0 X, gbSetCell _ _ _ _⟩
  rw [e4]
  clear e4 a0 af A
  replace G := gbNew (gbTrans (gbAny G _) g4) lx
  clear g4 lx
  obtain ⟨f, ef⟩ : ∃ f, f = upd F 0 X := ⟨_, rfl⟩
  rw [← ef] at A4 HC hl
  clear ef
  go_wp2_with fail
  refine (HG _ G).mono ?_
  rintro e w5 ⟨rfl, g5⟩
  go_upto_region 8 with fail
  obtain ⟨W5, hW5, B, k5, s5⟩ := arrNew w5 g 38
  rw [hW5]
  clear hW5 s5
  generalize w5.heap.size = y at B
  replace A4 := (A4.kept g5).kept k5
  replace G := gbTrans (gbTrans G g5) k5
  clear g5 k5
  obtain ⟨a0, a1, a2, a3, a4, a5, a6, a7⟩ := A4.eight
  obtain ⟨b0, b1, b2, b3, b4, b5, b6, b7⟩ := B.eight
  go_wp2_with fail
  refine (HC _).mono ?_
  rintro e w6 ⟨rfl, g6⟩
  go_upto_region 9 with fail
  obtain ⟨W6, hW6, C, k6, s6⟩ := arrNew w6 h 38
  rw [hW6]
  clear hW6 s6 a0 a1 a2 a3 a4 a5 a6 a7 b0 b1 b2 b3 b4 b5 b6 b7
  generalize w6.heap.size = z at C
  replace A4 := hideIt ((A4.kept g6).kept k6)
  replace B := hideIt ((B.kept g6).kept k6)
  replace G := gbTrans (gbTrans G g6) k6
  clear g6 k6
  have b6 := B.out.eight.at6
  have b7 := B.out.eight.at7
  have c0 := C.eight.at0
  have c5 := C.eight.at5
  have c6 := C.eight.at6
  have c7 := C.eight.at7
  rw [h0.out] at c0
  rw [h5.out] at c5
  rw [h6.out] at c6
  rw [h7.out] at c7
  replace C := hideIt C
  go_wp2_with fail
  clear b6 b7 c0 c5 c6 c7
  go_loopg [17] 4 (fun gk i wr => ∃ j : Nat, j + gk = 5 ∧ 1 ≤ j ∧ i = .int .i64 j ∧ W6.grownBy wr none)
  case atStart => exact ⟨1, rfl, Nat.le_refl _, rfl, gbRefl _ _⟩
  case round =>
    obtain ⟨j, hj, j1, rfl, gw⟩ := hrel
    have GW := gbTrans G gw
    by_cases c1 : j ≤ 4
    · have j8 : j < 8 := by omega
      have ka := fun y : Gr wr => ((A4.out.kept gw).kept y.g).cell j8
      have kb := fun y : Gr wr => ((B.out.kept gw).kept y.g).cell j8
      have kc := fun y : Gr wr => ((C.out.kept gw).kept y.g).cell j8
      by_cases c2 : j ≤ N
      · rw [hl.out j j1 c2] at kc
        have d1 : decide ((j : Int) ≤ (N : Int)) = true := decide_eq_true (by omega)
        have d2 : decide ((N : Int) < (j : Int)) = false := decide_eq_false (by omega)
        have d3 : decide (N < j) = false := decide_eq_false (by omega)
        go_upto_region 14 with fail
        refine wp_region_grown (by kernel_rfl) (by kernel_rfl) fun _ => ?_
        repeat (go_big_quiet_step (fail))
        refine wpQuiet_nil ?_
        rintro w7 ⟨⟨_, g7⟩, rfl⟩
        go_wp2
        go_roundg (gk - 1)
        case rel => exact ⟨j + 1, by omega, by omega, by go_num, gbTrans gw g7⟩
        case measure => omega
      · rw [hr.out j (by omega) c1] at kc
        have d1 : decide ((j : Int) ≤ (N : Int)) = false := decide_eq_false (by omega)
        have d2 : decide ((N : Int) < (j : Int)) = true := decide_eq_true (by omega)
        have d3 : decide (N < j) = true := decide_eq_true (by omega)
        go_upto_region 14 with fail
        refine wp_region_grown (by kernel_rfl) (by kernel_rfl) fun _ => ?_
        repeat (go_big_quiet_step (fail))
        refine wpQuiet_nil ?_
        rintro w7 ⟨⟨_, g7⟩, rfl⟩
        go_wp2
        go_roundg (gk - 1)
        case rel => exact ⟨j + 1, by omega, by omega, by go_num, gbTrans gw g7⟩
        case measure => omega
    · go_wp2
      go_ret
      exact ⟨rfl, GW⟩

theorem walk (a0 : Int) (w0 : (Lit.int .u64 a0).wf = true) (a1 : Int) (x2 : Option Addr) (len2 cap2 : Nat) (x3 : Option Addr) (len3 cap3 : Nat) (a4 : Int) (w4 : (Lit.int .u64 a4).wf = true) (w : World)
    (hx2 : ∀ i, i < len2 → ∃ (y : Addr) (z : Nat), x2 = some y ∧ w.cell? (y.add i) = some (.int .u64 (z : Int)) ∧ z < 18446744073709551616)
    (hx3 : ∀ i, i < len3 → ∃ (y : Addr) (z : Nat), x3 = some y ∧ w.cell? (y.add i) = some (.int .u64 (z : Int)) ∧ z < 18446744073709551616) :
    Calls Try.prog 6 #[.int .u64 a0, .int .i64 a1, .slice x2 len2 cap2, .slice x3 len3 cap3, .int .u64 a4] w fun e w' => e = .returned (.bool true) ∧ Below w.heap.size w w' := by
  refine endWalk ?_
  obtain ⟨A0, rfl, _⟩ := natOf w0
  obtain ⟨b, rfl, _⟩ := natOf w4
  obtain ⟨V, L2⟩ := Wl.of hx2
  obtain ⟨T, L3⟩ := Wl.of hx3
  obtain ⟨l, N, U, q0, q1, q2, l1, N4⟩ := numsOf A0 a1
  obtain ⟨X, hX, hP, hU⟩ := M.whole l N l1 N4
  exact core A0 l a1 U N x2 len2 cap2 x3 len3 cap3 b X (rg V len2) (rg T len3) (upd (cp (upd (rg T len3) 0 X) (fun j => upd (rg V len2) 0 X (j + 1)) N) 5 b) w q0 q1 q2 N4 (fun w => pack_is l N false X 0 (by omega) hP w)
    (fun w' g => regs_is V x2 len2 cap2 w' (L2.kept g)) (fun w' g => regs_is T x3 len3 cap3 w' (L3.kept g))
    (fun w => carry_is (upd (rg V len2) 0 X) (rg T len3) _ b 0 hX (M.cry_of _ b rfl hU) w)
    (cry_nul _ _ X b N) (cry_bdg _ _ X b N) (cry_out _ _ X b N 6 (by omega) (by decide)) (cry_out _ _ X b N 7 (by omega) (by decide))
    (fun j h1 h2 => cry_in _ _ X b N j h1 h2 N4) (fun j h1 h2 => cry_out _ _ X b N j h1 (by omega))

set_option maxRecDepth 100000 in
theorem lifted (os : Os) (started : os.Started) (H : Type) (enc : TypeId × Value → H) :
    ReturnsInHanded {} Try.checked os 6 .any (Rows.msgRestSpec.pre6 enc Try.prog Try.f6 Rows.msgRestRow.domain false) (Rows.msgRestSpec.post enc Try.prog Try.f6 false true false false) := by
  refine returnsInHanded_of_change (C := Try.checked) own started (by kernel_rfl) Try.func6
    (ChangeSpec.witness6 (enc := enc) (C := Try.checked) false ⟨#[], #[.int .u64 0, .int .i64 0, .slice none 0 0, .slice none 0 0, .int .u64 0], []⟩ 8 (by kernel_rfl) (by kernel_rfl) (by kernel_rfl) (by kernel_rfl)) ?_
  intro W base args ds gs before hval0 hW hcnd _
  have hval : ∀ (j : Nat) t v, Try.f6.params[j]? = some t → args[j]? = some v → Value.okWide Try.prog W .any base t v := hval0
  have hW' := hW
  obtain ⟨p, q, hA0, hV, rfl, hfz, hnd⟩ := hW
  have hA : DataW.TrodAll enc Try.prog W 0 (fun _ => true) true Try.f6.params.toList args.toList ds p := hA0
  rw [Try.params6] at hA hval
  obtain ⟨v0, vs0, d0, ds0, p0, q0, hargs, rfl, rfl, h0, r0⟩ := trodAll_cons hA
  obtain ⟨v1, vs1, d1, ds1, p1, q1, rfl, rfl, rfl, h1, r1⟩ := trodAll_cons r0
  obtain ⟨v2, vs2, d2, ds2, p2, q2, rfl, rfl, rfl, h2, r2⟩ := trodAll_cons r1
  obtain ⟨v3, vs3, d3, ds3, p3, q3, rfl, rfl, rfl, h3, r3⟩ := trodAll_cons r2
  obtain ⟨v4, vs4, d4, ds4, p4, q4, rfl, rfl, rfl, h4, r4⟩ := trodAll_cons r3
  obtain ⟨rfl, rfl, rfl⟩ := trodAll_nil r4
  obtain rfl : args = #[v0, v1, v2, v3, v4] := by cases args; simp_all
  obtain ⟨rfl, rfl⟩ := trodVars_none hV
  obtain ⟨a0, rfl, rfl, rfl, w0⟩ := open_int Try.underlying22 (hval 0 22 v0 rfl rfl) h0
  obtain ⟨a1, rfl, rfl, rfl, w1⟩ := open_int Try.underlying3 (hval 1 3 v1 rfl rfl) h1
  obtain ⟨x2, len2, cap2, rfl⟩ := okWide_slice Try.underlying35 (hval 2 35 v2 rfl rfl)
  have hx2 := wordsArg h2
  have k2 := h2
  have lt2 : ∀ x ∈ p2, x.block < W.heap.size := by obtain ⟨m, hm⟩ := k2; exact DataW.trod_lt m _ _ _ hm
  obtain ⟨x3, len3, cap3, rfl⟩ := okWide_slice Try.underlying35 (hval 3 35 v3 rfl rfl)
  have hx3 := wordsArg h3
  have k3 := h3
  have lt3 : ∀ x ∈ p3, x.block < W.heap.size := by obtain ⟨m, hm⟩ := k3; exact DataW.trod_lt m _ _ _ hm
  obtain ⟨a4, rfl, rfl, rfl, w4⟩ := open_int Try.underlying22 (hval 4 22 v4 rfl rfl) h4
  clear hA0 hval0
  refine (walk a0 w0 a1 x2 len2 cap2 x3 len3 cap3 a4 w4 W hx2 hx3).mono fun e W' ⟨he, bel⟩ => ?_
  subst he
  exact ⟨_, rfl, _, _, _, [], _, [], hW', trodAll_mk1 (shut_bool Try.underlying4 _), (trodAll_cons_mk (shut_int Try.underlying22 w0) (trodAll_cons_mk (shut_int Try.underlying3 w1) (trodAll_cons_mk (Below.trod laidOut (by kernel_rfl) (of_decide_eq_true (by kernel_rfl)) k2 bel lt2) (trodAll_cons_mk (Below.trod laidOut (by kernel_rfl) (of_decide_eq_true (by kernel_rfl)) k3 bel lt3) (trodAll_cons_mk (shut_int Try.underlying22 w4) trodAll_mk0))))), rfl, bel.frame _, fun h => by cases h⟩

theorem over : Rows.msgRestRow.holds Try.pinned (OpenSpec.ofChange Rows.msgRestSpec) :=
  OpenClaim.holds_of_wide 6 Try.f6 rfl rfl rfl rfl rfl rfl rfl ⟨rfl, rfl, rfl, rfl, rfl⟩ rfl rfl rfl rfl rfl (by kernel_rfl) Try.func6 (by kernel_rfl)
    (of_decide_eq_true (by kernel_rfl)) (by unfold Func.isWrapper; first | (rw [if_pos (by decide +kernel)]; kernel_rfl) | (rw [if_neg (by decide +kernel)]; exact ⟨rfl, rfl⟩))
    (fun os started H enc _ => lifted os started H enc)

theorem proved : Rows.MsgRestSaid := over
end Go.Proofs.Ytgimgbbiojkfgaa.msgRest
namespace Go.Proofs.Ytgimgbbiojkfgaa
theorem msgRest_holds : Rows.MsgRestSaid := msgRest.proved
#print axioms msgRest_holds
end Go.Proofs.Ytgimgbbiojkfgaa
