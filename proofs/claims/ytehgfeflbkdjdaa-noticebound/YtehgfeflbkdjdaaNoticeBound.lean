/- NoticeBound: for every number, every list of words and either answer, and every fate of the machine, the call ends and answers true: the thread that is bound is woken where nobody waits, with all that was signalled; unbound, it is not. No condition beyond the statement's own. -/
import Derived.Test.YtehgfeflbkdjdaaRow
import Derived.Deep.Cut
import Derived.Deep.DeepCutAuto
import Derived.Deep.CutBlock
import Derived.Deep.RegionHeld3
import Derived.Test.YtehgfeflbkdjdaaArgs
import Derived.ProofKit
import Derived.OpenShut
import Derived.ShutString
import Derived.ChangeOld
import Derived.Below
import Derived.Deep.Slices
namespace Go.Proofs.Ytehgfeflbkdjdaa.noticeBound
open Go.ChangeShapes Go.WideShapes Go.ChangeAt Go.RowKit
set_option linter.unusedVariables false

theorem own : ownKnob Try.prog.godebug = none := by kernel_rfl
theorem laidOut : laidOutB Try.prog = true := by kernel_rfl

set_option maxHeartbeats 8000000 in
set_option maxRecDepth 100000 in
theorem core (a0 : Int) (x0 : Option Addr) (len0 cap0 : Nat) (b2 : Bool) (w : World) (hx0 : Wds w x0 len0) :
    Calls Try.prog 6 #[.int .i64 a0, .slice x0 len0 cap0, .bool b2] w fun e w' => e = .returned (.bool true) ∧ w.grownBy w' none := by
  have HX := hideIt hx0
  clear hx0
  obtain ⟨U, n, q1, q2, q3⟩ := modArg a0 64 (by decide)
  replace q2 : (U : Int) % 64 = (n : Int) := q2
  go_enter Try.func6, Try.ntmps6
  go_wp2_with fail
  refine (works_is w).mono ?_
  rintro e wa ⟨rfl, ga⟩
  replace ga := hideIt ga
  go_wp2_with fail
  clear q1 q2
  refine (nnew_is wa).mono ?_
  rintro e wb ⟨p, rfl, A1, g1⟩
  have H2 : Hid (On (fun w O => NA w O p 0 none []) w wb (fun i => wa.heap.size ≤ i ∧ i < wb.heap.size)) := hideIt ⟨A1, fun i hi => by have := ga.out.size; omega, gbTrans ga.out g1⟩
  clear A1 g1 ga
  go_wp2_with fail
  go_loopg [8, 9] 20 (fun gk v i wr => ∃ (j : Nat) (P : Nat → Prop) (W : Int), j + gk = 20 ∧ v = .int .u64 W ∧ i = .int .i64 j ∧ Hid (On (fun w O => NA w O p W none []) w wr P))
  case atStart => exact ⟨0, _, 0, rfl, rfl, rfl, H2⟩
  case round =>
    obtain ⟨j, P, W, hj, rfl, rfl, H⟩ := hrel
    clear H2
    by_cases hlt : j < len0 ∧ j < 20
    · obtain ⟨c1, c2⟩ := hlt
      obtain ⟨x, z, rfl, hE, hU⟩ := HX.out j c1
      have hdj : decide ((j : Int) < 20) = true := by simp; omega
      have r0 := H.out.gr.cell hE (by simp)
      replace hE := hideIt hE
      go_wp2_with fail
      refine (signal_is H.out.a (by decide) (by decide) z true 0 0 false rfl rfl rfl).mono ?_
      rintro e w6 ⟨rfl, Z6, F6⟩
      have H6 : Hid (On (fun w O => NA w O p (M.or W z) none []) w w6 (wide P wr w6)) := hideIt (oTurn H.out Z6 F6)
      replace r0 := H6.out.gr.cell hE.out (by simp)
      clear Z6 F6
      go_wp2
      go_roundg (gk - 1)
      case rel => exact ⟨j + 1, _, _, by omega, rfl, by go_num, H6⟩
      case measure => omega
    · go_upto_region 7 with fail
      go_cut [35] from 28 to 35 (fun s wc => s = .bool false ∧ wc = wr)
      case first =>
        by_cases k1 : (j : Int) < (len0 : Int)
        · have k2 : ¬ (j : Int) < 20 := by omega
          go_wp2
          go_meet
          exact ⟨rfl, rfl⟩
        · go_wp2
          go_meet
          exact ⟨rfl, rfl⟩
      case rest =>
      obtain ⟨rfl, rfl⟩ := hcut
      clear hlt HX
      have hn0 : 0 ≤ (n : Int) ∧ (n : Int) < 64 := by omega
      have m1 : Hid (M.be none (n : Int) = 0) := hideIt (by unfold M.be; rw [if_pos hn0]; rfl)
      have m2 : Hid (M.bb none (n : Int) = some (n : Int)) := hideIt (by unfold M.bb; rw [if_pos hn0]; rfl)
      have m3 : Hid (M.be (some (n : Int)) (n : Int) = 4) := hideIt (by unfold M.be; rw [if_pos hn0]; rfl)
      have m4 : Hid (M.bb (some (n : Int)) (n : Int) = some (n : Int)) := hideIt (by unfold M.bb; rw [if_pos hn0]; rfl)
      clear hn0
      go_wp2_with fail
      refine (bind_is H.out.a n 0 m1.out).mono ?_
      rintro e w3 ⟨rfl, Z3, F3⟩
      rw [m2.out] at Z3
      have H3 : Hid (On (fun w O => NA w O p W (some (n : Int)) []) w w3 (wide P wc w3)) := hideIt (oTurn H.out Z3 F3)
      clear Z3 F3 H
      go_wp2_with fail
      refine (bind_is H3.out.a n 4 m3.out).mono ?_
      rintro e w4 ⟨rfl, Z4, F4⟩
      rw [m4.out] at Z4
      have H4 := hideIt (oTurn H3.out Z4 F4)
      clear Z4 F4 H3 m1 m2 m3 m4
      cases b2 with
      | true =>
        obtain ⟨xo, hxo⟩ : ∃ v, M.wb W [] 9 = v := ⟨_, rfl⟩
        replace hxo := hideIt hxo
        go_wp2_with fail
        refine (wait_is H4.out.a (by decide) (by decide) 9 false W xo 0 rfl hxo.out rfl).mono ?_
        rintro e w5 ⟨rfl, Z5, F5⟩
        rw [show M.ww W [] 9 = 0 from rfl, show M.wl W [] 9 false = [] from if_neg (by simp)] at Z5
        have H5 := hideIt (oTurn H4.out Z5 F5)
        clear Z5 F5 H4
        go_wp2_with fail
        refine (wait_is H5.out.a (by decide) (by decide) 9 true 0 false 0 rfl (by decide) rfl).mono ?_
        rintro e w6 ⟨rfl, Z6, F6⟩
        rw [show M.ww 0 [] 9 = 0 from rfl, show M.wl 0 [] 9 true = [9] by decide] at Z6
        have H6 := hideIt (oTurn H5.out Z6 F6)
        clear Z6 F6 H5
        go_wp2_with fail
        refine (signal_is H6.out.a (by decide) (by decide) 4 true 9 4 true rfl rfl rfl).mono ?_
        rintro e w7 ⟨rfl, Z7, F7⟩
        have H7 := hideIt (oTurn H6.out Z7 F7)
        clear Z7 F7 H6
        go_wp2
        go_ret
        exact ⟨rfl, H7.out.gr⟩
      | false =>
        obtain ⟨X, hX⟩ : ∃ X, bits .or .u64 W 8 = X := ⟨_, rfl⟩
        have hXM : Hid (M.or W 8 = X) := hideIt hX
        go_wp2_with fail
        refine (signal_is H4.out.a (by decide) (by decide) 8 true n X true rfl hXM.out rfl).mono ?_
        rintro e w5 ⟨rfl, Z5, F5⟩
        have H5 : Hid (On (fun w O => NA w O p 0 (some (n : Int)) []) w w5 (wide _ w4 w5)) := hideIt (oTurn H4.out Z5 F5)
        clear Z5 F5 H4
        go_wp2_with fail
        refine (unbind_is H5.out.a n true rfl rfl).mono ?_
        rintro e w6 ⟨rfl, Z6, F6⟩
        have H6 := hideIt (oTurn H5.out Z6 F6)
        clear Z6 F6 H5
        go_wp2_with fail
        refine (signal_is H6.out.a (by decide) (by decide) 1 true 0 0 false rfl rfl rfl).mono ?_
        rintro e w7 ⟨rfl, Z7, F7⟩
        have H7 := hideIt (oTurn H6.out Z7 F7)
        clear Z7 F7 H6
        go_wp2
        go_ret
        exact ⟨rfl, H7.out.gr⟩

theorem walk (a0 : Int) (x0 : Option Addr) (len0 cap0 : Nat) (b2 : Bool) (w : World) (hx0 : Wds w x0 len0) :
    Calls Try.prog 6 #[.int .i64 a0, .slice x0 len0 cap0, .bool b2] w fun e w' => e = .returned (.bool true) ∧ Below w.heap.size w w' := endWalk (core a0 x0 len0 cap0 b2 w hx0)

set_option maxRecDepth 100000 in
theorem lifted (os : Os) (started : os.Started) (H : Type) (enc : TypeId × Value → H) :
    ReturnsInHanded {} Try.checked os 6 .any (Rows.noticeBoundSpec.pre6 enc Try.prog Try.f6 Rows.noticeBoundRow.domain false) (Rows.noticeBoundSpec.post enc Try.prog Try.f6 false true false false) := by
  refine returnsInHanded_of_change (C := Try.checked) own started (by kernel_rfl) Try.func6
    (ChangeSpec.witness6 (enc := enc) (C := Try.checked) false ⟨#[], #[.int .i64 0, .slice none 0 0, .bool false], []⟩ 8 (by kernel_rfl) (by kernel_rfl) (by kernel_rfl) (by kernel_rfl)) ?_
  intro W base args ds gs before hval0 hW hcnd _
  have hval : ∀ (j : Nat) t v, Try.f6.params[j]? = some t → args[j]? = some v → Value.okWide Try.prog W .any base t v := hval0
  have hW' := hW
  obtain ⟨p, q, hA0, hV, rfl, hfz, hnd⟩ := hW
  have hA : DataW.TrodAll enc Try.prog W 0 (fun _ => true) true Try.f6.params.toList args.toList ds p := hA0
  rw [Try.params6] at hA hval
  obtain ⟨v0, vs0, d0, ds0, p0, q0, hargs, rfl, rfl, h0, r0⟩ := trodAll_cons hA
  obtain ⟨v1, vs1, d1, ds1, p1, q1, rfl, rfl, rfl, h1, r1⟩ := trodAll_cons r0
  obtain ⟨v2, vs2, d2, ds2, p2, q2, rfl, rfl, rfl, h2, r2⟩ := trodAll_cons r1
  obtain ⟨rfl, rfl, rfl⟩ := trodAll_nil r2
  obtain rfl : args = #[v0, v1, v2] := by cases args; simp_all
  obtain ⟨rfl, rfl⟩ := trodVars_none hV
  obtain ⟨a0, rfl, rfl, rfl, w0⟩ := open_int Try.underlying3 (hval 0 3 v0 rfl rfl) h0
  obtain ⟨x1, len1, cap1, rfl⟩ := okWide_slice Try.underlying46 (hval 1 46 v1 rfl rfl)
  have hx1 := wordsArg h1
  have k1 := h1
  have lt1 : ∀ x ∈ p1, x.block < W.heap.size := by obtain ⟨m, hm⟩ := k1; exact DataW.trod_lt m _ _ _ hm
  obtain ⟨b2, rfl, rfl, rfl⟩ := open_bool Try.underlying4 (hval 2 4 v2 rfl rfl) h2
  clear hA0 hval0
  refine (walk a0 x1 len1 cap1 b2 W hx1).mono fun e W' ⟨he, bel⟩ => ?_
  subst he
  exact ⟨_, rfl, _, _, _, [], _, [], hW', trodAll_mk1 (shut_bool Try.underlying4 _), (trodAll_cons_mk (shut_int Try.underlying3 w0) (trodAll_cons_mk (Below.trod laidOut (by kernel_rfl) (of_decide_eq_true (by kernel_rfl)) k1 bel lt1) (trodAll_cons_mk (shut_bool Try.underlying4 _) trodAll_mk0))), rfl, bel.frame _, fun h => by cases h⟩

theorem over : Rows.noticeBoundRow.holds Try.pinned (OpenSpec.ofChange Rows.noticeBoundSpec) :=
  OpenClaim.holds_of_wide 6 Try.f6 rfl rfl rfl rfl rfl rfl rfl ⟨rfl, rfl, rfl, rfl, rfl⟩ rfl rfl rfl rfl rfl (by kernel_rfl) Try.func6 (by kernel_rfl)
    (of_decide_eq_true (by kernel_rfl)) (by unfold Func.isWrapper; first | (rw [if_pos (by decide +kernel)]; kernel_rfl) | (rw [if_neg (by decide +kernel)]; exact ⟨rfl, rfl⟩))
    (fun os started H enc _ => lifted os started H enc)

theorem proved : Rows.NoticeBoundSaid := over
end Go.Proofs.Ytehgfeflbkdjdaa.noticeBound
namespace Go.Proofs.Ytehgfeflbkdjdaa
theorem noticeBound_holds : Rows.NoticeBoundSaid := noticeBound.proved
#print axioms noticeBound_holds
end Go.Proofs.Ytehgfeflbkdjdaa
