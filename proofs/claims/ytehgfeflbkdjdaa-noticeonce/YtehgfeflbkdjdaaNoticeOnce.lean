/- NoticeOnce: for every list of words and every number, and every fate of the machine, the call ends and answers true: signals that come while nobody waits are told together, once; each that comes while threads wait wakes one, the first one first. No condition beyond the statement's own. -/
import Derived.Test.YtehgfeflbkdjdaaRow
import Derived.Deep.Cut
import Derived.Deep.DeepCutAuto
import Derived.Deep.CutBlock
import Derived.Deep.RegionHeld3
import Derived.Test.YtehgfeflbkdjdaaArgs
import Derived.ProofKit
import Derived.OpenShut
import Derived.ShutString
import Derived.ChangeOld
import Derived.Below
import Derived.Deep.Slices
namespace Go.Proofs.Ytehgfeflbkdjdaa.noticeOnce
open Go.ChangeShapes Go.WideShapes Go.ChangeAt Go.RowKit
set_option linter.unusedVariables false

theorem own : ownKnob Try.prog.godebug = none := by kernel_rfl
theorem laidOut : laidOutB Try.prog = true := by kernel_rfl

set_option maxHeartbeats 8000000 in
set_option maxRecDepth 100000 in
theorem core (x0 : Option Addr) (len0 cap0 : Nat) (a1 : Int) (w : World) (hx0 : Wds w x0 len0) :
    Calls Try.prog 5 #[.slice x0 len0 cap0, .int .i64 a1] w fun e w' => e = .returned (.bool true) ∧ w.grownBy w' none := by
  have HX := hideIt hx0
  clear hx0
  obtain ⟨U, n, q1, q2, q3⟩ := modArg a1 20 (by decide)
  replace q2 : (U : Int) % 20 = (n : Int) := q2
  go_enter Try.func5, Try.ntmps5
  go_wp2_with fail
  refine (works_is w).mono ?_
  rintro e wa ⟨rfl, ga⟩
  replace ga := hideIt ga
  go_wp2_with fail
  refine (nnew_is wa).mono ?_
  rintro e wb ⟨p, rfl, A1, g1⟩
  have H2 : Hid (On (fun w O => NA w O p 0 none []) w wb (fun i => wa.heap.size ≤ i ∧ i < wb.heap.size)) := hideIt ⟨A1, fun i hi => by have := ga.out.size; omega, gbTrans ga.out g1⟩
  clear A1 g1 ga
  go_wp2_with fail
  go_loopg [6, 7] 40 (fun gk v i wr => ∃ (j : Nat) (P : Nat → Prop) (W : Int), j + gk = 40 ∧ v = .int .u64 W ∧ i = .int .i64 j ∧ Hid (On (fun w O => NA w O p W none []) w wr P))
  case atStart => exact ⟨0, _, 0, rfl, rfl, rfl, H2⟩
  case round =>
    obtain ⟨j, P, W, hj, rfl, rfl, H⟩ := hrel
    clear H2
    by_cases hlt : j < len0 ∧ j < 40
    · obtain ⟨c1, c2⟩ := hlt
      obtain ⟨x, z, rfl, hE, hU⟩ := HX.out j c1
      have hdj : decide ((j : Int) < 40) = true := by simp; omega
      have r0 := H.out.gr.cell hE (by simp)
      replace hE := hideIt hE
      go_wp2_with fail
      refine (signal_is H.out.a (by decide) (by decide) z false 0 0 false rfl rfl rfl).mono ?_
      rintro e w6 ⟨rfl, Z6, F6⟩
      have H6 : Hid (On (fun w O => NA w O p (M.or W z) none []) w w6 (wide P wr w6)) := hideIt (oTurn H.out Z6 F6)
      replace r0 := H6.out.gr.cell hE.out (by simp)
      clear Z6 F6
      go_wp2
      go_roundg (gk - 1)
      case rel => exact ⟨j + 1, _, _, by omega, rfl, by go_num, H6⟩
      case measure => omega
    · go_upto_region 6 with fail
      go_cut [33] from 26 to 33 (fun s wc => s = .bool false ∧ wc = wr)
      case first =>
        by_cases k1 : (j : Int) < (len0 : Int)
        · have k2 : ¬ (j : Int) < 40 := by omega
          go_wp2
          go_meet
          exact ⟨rfl, rfl⟩
        · go_wp2
          go_meet
          exact ⟨rfl, rfl⟩
      case rest =>
      obtain ⟨rfl, rfl⟩ := hcut
      clear hlt
      by_cases hW : W = 0
      · subst hW
        go_wp2_with fail
        refine (wait_is H.out.a (by decide) (by decide) 1 false 0 false 0 rfl (by simp [M.wb]) rfl).mono ?_
        rintro e w6 ⟨rfl, Z6, F6⟩
        rw [show M.ww 0 [] 1 = 0 from rfl, show M.wl 0 [] 1 false = [] from if_neg (by simp)] at Z6
        have H6 : Hid (On (fun w O => NA w O p 0 none (M.rg 0 0)) w w6 (wide P wc w6)) := hideIt (oTurn H.out Z6 F6)
        clear Z6 F6 H
        go_wp2_with fail
        clear q1 q2
        go_loopg [14] n (fun gk i wr => ∃ (c : Nat) (P : Nat → Prop), c + gk = n ∧ i = .int .i64 c ∧ Hid (On (fun w O => NA w O p 0 none (M.rg 0 c)) w wr P))
        case atStart => exact ⟨0, _, by omega, rfl, H6⟩
        case round =>
          obtain ⟨c, P7, hc, rfl, H7⟩ := hrel
          clear H6
          by_cases hcn : c < n
          · have hcn' : (c : Int) < (n : Int) := by omega
            obtain ⟨f1, f2, f3, f4, f5⟩ := M.row_push c (by omega)
            replace f1 := hideIt f1
            replace f2 := hideIt f2
            replace f3 := hideIt f3
            replace f4 := hideIt f4
            replace f5 := hideIt f5
            go_wp2_with fail
            refine (wait_is H7.out.a (by rw [M.rg_len]; omega) (M.rg_nodup _ _) c true 0 false 0 f2.out f3.out f1.out).mono ?_
            rintro e w8 ⟨rfl, Z8, F8⟩
            rw [f4.out, f5.out] at Z8
            have H8 := hideIt (oTurn H7.out Z8 F8)
            clear Z8 F8
            go_wp2
            go_roundg (gk - 1)
            case rel => exact ⟨c + 1, _, by omega, by go_num, H8⟩
            case measure => omega
          · obtain rfl : c = n := by omega
            clear hcn
            go_wp2_with fail
            go_loopg [18] c (fun gk i wr => ∃ (d : Nat) (P : Nat → Prop), d + gk = c ∧ i = .int .i64 d ∧ Hid (On (fun w O => NA w O p 0 none (M.rg d c)) w wr P))
            case atStart => exact ⟨0, _, by omega, rfl, H7⟩
            case round =>
              obtain ⟨d, P9, hd, rfl, H9⟩ := hrel
              clear H7
              by_cases hdn : d < c
              · have hdn' : (d : Int) < (c : Int) := by omega
                obtain ⟨f1, f2, f3, f4, f5⟩ := M.row_pop d c hdn (d : Int)
                replace f1 := hideIt f1
                replace f2 := hideIt f2
                replace f3 := hideIt f3
                replace f4 := hideIt f4
                replace f5 := hideIt f5
                go_wp2_with fail
                refine (signal_is H9.out.a (by rw [M.rg_len]; omega) (M.rg_nodup _ _) d false d d true f1.out f2.out f3.out).mono ?_
                rintro e w8 ⟨rfl, Z8, F8⟩
                rw [f4.out, f5.out] at Z8
                have H8 := hideIt (oTurn H9.out Z8 F8)
                clear Z8 F8
                go_wp2
                go_roundg (gk - 1)
                case rel => exact ⟨d + 1, _, by omega, by go_num, H8⟩
                case measure => omega
              · obtain rfl : d = c := by omega
                clear hdn
                have HN : Hid (On (fun w O => NA w O p 0 none []) w wr P9) := by have := H9; rw [M.rg_nil (Nat.le_refl _)] at this; exact this
                clear H9
                go_wp2_with fail
                refine (state_is HN.out.a (by decide)).mono ?_
                rintro e w4 ⟨v4, rfl, l4, g4⟩
                have H4 := hideIt (oKept HN.out g4)
                obtain ⟨xl, cl0, rfl, _⟩ := l4.arr
                clear g4 l4
                go_wp2
                go_ret
                exact ⟨rfl, H4.out.gr⟩
      · have hW2 : (W != 0) = true := by simpa using hW
        have hW1 : (W == 0) = false := by simpa using hW
        clear hW
        go_wp2_with fail
        refine (wait_is H.out.a (by decide) (by decide) 1 false W true 0 rfl (by unfold M.wb; simpa [show M.pe [] 1 = 0 from rfl] using hW1) rfl).mono ?_
        rintro e w6 ⟨rfl, Z6, F6⟩
        rw [show M.ww W [] 1 = 0 from rfl, show M.wl W [] 1 false = [] from if_neg (by simp)] at Z6
        have H6 : Hid (On (fun w O => NA w O p 0 none (M.rg 0 0)) w w6 (wide P wc w6)) := hideIt (oTurn H.out Z6 F6)
        clear Z6 F6 H
        go_wp2_with fail
        clear q1 q2
        go_loopg [14] n (fun gk i wr => ∃ (c : Nat) (P : Nat → Prop), c + gk = n ∧ i = .int .i64 c ∧ Hid (On (fun w O => NA w O p 0 none (M.rg 0 c)) w wr P))
        case atStart => exact ⟨0, _, by omega, rfl, H6⟩
        case round =>
          obtain ⟨c, P7, hc, rfl, H7⟩ := hrel
          clear H6
          by_cases hcn : c < n
          · have hcn' : (c : Int) < (n : Int) := by omega
            obtain ⟨f1, f2, f3, f4, f5⟩ := M.row_push c (by omega)
            replace f1 := hideIt f1
            replace f2 := hideIt f2
            replace f3 := hideIt f3
            replace f4 := hideIt f4
            replace f5 := hideIt f5
            go_wp2_with fail
            refine (wait_is H7.out.a (by rw [M.rg_len]; omega) (M.rg_nodup _ _) c true 0 false 0 f2.out f3.out f1.out).mono ?_
            rintro e w8 ⟨rfl, Z8, F8⟩
            rw [f4.out, f5.out] at Z8
            have H8 := hideIt (oTurn H7.out Z8 F8)
            clear Z8 F8
            go_wp2
            go_roundg (gk - 1)
            case rel => exact ⟨c + 1, _, by omega, by go_num, H8⟩
            case measure => omega
          · obtain rfl : c = n := by omega
            clear hcn
            go_wp2_with fail
            go_loopg [18] c (fun gk i wr => ∃ (d : Nat) (P : Nat → Prop), d + gk = c ∧ i = .int .i64 d ∧ Hid (On (fun w O => NA w O p 0 none (M.rg d c)) w wr P))
            case atStart => exact ⟨0, _, by omega, rfl, H7⟩
            case round =>
              obtain ⟨d, P9, hd, rfl, H9⟩ := hrel
              clear H7
              by_cases hdn : d < c
              · have hdn' : (d : Int) < (c : Int) := by omega
                obtain ⟨f1, f2, f3, f4, f5⟩ := M.row_pop d c hdn (d : Int)
                replace f1 := hideIt f1
                replace f2 := hideIt f2
                replace f3 := hideIt f3
                replace f4 := hideIt f4
                replace f5 := hideIt f5
                go_wp2_with fail
                refine (signal_is H9.out.a (by rw [M.rg_len]; omega) (M.rg_nodup _ _) d false d d true f1.out f2.out f3.out).mono ?_
                rintro e w8 ⟨rfl, Z8, F8⟩
                rw [f4.out, f5.out] at Z8
                have H8 := hideIt (oTurn H9.out Z8 F8)
                clear Z8 F8
                go_wp2
                go_roundg (gk - 1)
                case rel => exact ⟨d + 1, _, by omega, by go_num, H8⟩
                case measure => omega
              · obtain rfl : d = c := by omega
                clear hdn
                have HN : Hid (On (fun w O => NA w O p 0 none []) w wr P9) := by have := H9; rw [M.rg_nil (Nat.le_refl _)] at this; exact this
                clear H9
                go_wp2_with fail
                refine (state_is HN.out.a (by decide)).mono ?_
                rintro e w4 ⟨v4, rfl, l4, g4⟩
                have H4 := hideIt (oKept HN.out g4)
                obtain ⟨xl, cl0, rfl, _⟩ := l4.arr
                clear g4 l4
                go_wp2
                go_ret
                exact ⟨rfl, H4.out.gr⟩

theorem walk (x0 : Option Addr) (len0 cap0 : Nat) (a1 : Int) (w : World) (hx0 : Wds w x0 len0) :
    Calls Try.prog 5 #[.slice x0 len0 cap0, .int .i64 a1] w fun e w' => e = .returned (.bool true) ∧ Below w.heap.size w w' := endWalk (core x0 len0 cap0 a1 w hx0)

set_option maxRecDepth 100000 in
theorem lifted (os : Os) (started : os.Started) (H : Type) (enc : TypeId × Value → H) :
    ReturnsInHanded {} Try.checked os 5 .any (Rows.noticeOnceSpec.pre6 enc Try.prog Try.f5 Rows.noticeOnceRow.domain false) (Rows.noticeOnceSpec.post enc Try.prog Try.f5 false true false false) := by
  refine returnsInHanded_of_change (C := Try.checked) own started (by kernel_rfl) Try.func5
    (ChangeSpec.witness6 (enc := enc) (C := Try.checked) false ⟨#[], #[.slice none 0 0, .int .i64 0], []⟩ 8 (by kernel_rfl) (by kernel_rfl) (by kernel_rfl) (by kernel_rfl)) ?_
  intro W base args ds gs before hval0 hW hcnd _
  have hval : ∀ (j : Nat) t v, Try.f5.params[j]? = some t → args[j]? = some v → Value.okWide Try.prog W .any base t v := hval0
  have hW' := hW
  obtain ⟨p, q, hA0, hV, rfl, hfz, hnd⟩ := hW
  have hA : DataW.TrodAll enc Try.prog W 0 (fun _ => true) true Try.f5.params.toList args.toList ds p := hA0
  rw [Try.params5] at hA hval
  obtain ⟨v0, vs0, d0, ds0, p0, q0, hargs, rfl, rfl, h0, r0⟩ := trodAll_cons hA
  obtain ⟨v1, vs1, d1, ds1, p1, q1, rfl, rfl, rfl, h1, r1⟩ := trodAll_cons r0
  obtain ⟨rfl, rfl, rfl⟩ := trodAll_nil r1
  obtain rfl : args = #[v0, v1] := by cases args; simp_all
  obtain ⟨rfl, rfl⟩ := trodVars_none hV
  obtain ⟨x0, len0, cap0, rfl⟩ := okWide_slice Try.underlying46 (hval 0 46 v0 rfl rfl)
  have hx0 := wordsArg h0
  have k0 := h0
  have lt0 : ∀ x ∈ p0, x.block < W.heap.size := by obtain ⟨m, hm⟩ := k0; exact DataW.trod_lt m _ _ _ hm
  obtain ⟨a1, rfl, rfl, rfl, w1⟩ := open_int Try.underlying3 (hval 1 3 v1 rfl rfl) h1
  clear hA0 hval0
  refine (walk x0 len0 cap0 a1 W hx0).mono fun e W' ⟨he, bel⟩ => ?_
  subst he
  exact ⟨_, rfl, _, _, _, [], _, [], hW', trodAll_mk1 (shut_bool Try.underlying4 _), (trodAll_cons_mk (Below.trod laidOut (by kernel_rfl) (of_decide_eq_true (by kernel_rfl)) k0 bel lt0) (trodAll_cons_mk (shut_int Try.underlying3 w1) trodAll_mk0)), rfl, bel.frame _, fun h => by cases h⟩

theorem over : Rows.noticeOnceRow.holds Try.pinned (OpenSpec.ofChange Rows.noticeOnceSpec) :=
  OpenClaim.holds_of_wide 5 Try.f5 rfl rfl rfl rfl rfl rfl rfl ⟨rfl, rfl, rfl, rfl, rfl⟩ rfl rfl rfl rfl rfl (by kernel_rfl) Try.func5 (by kernel_rfl)
    (of_decide_eq_true (by kernel_rfl)) (by unfold Func.isWrapper; first | (rw [if_pos (by decide +kernel)]; kernel_rfl) | (rw [if_neg (by decide +kernel)]; exact ⟨rfl, rfl⟩))
    (fun os started H enc _ => lifted os started H enc)

theorem proved : Rows.NoticeOnceSaid := over
end Go.Proofs.Ytehgfeflbkdjdaa.noticeOnce
namespace Go.Proofs.Ytehgfeflbkdjdaa
theorem noticeOnce_holds : Rows.NoticeOnceSaid := noticeOnce.proved
#print axioms noticeOnce_holds
end Go.Proofs.Ytehgfeflbkdjdaa
