/- NoticeKeeps: for every list of acts, and every fate of the machine, the call ends and answers true: while somebody waits the word is nought; each bit that was signalled was told or is in the word, and no other one is. No condition beyond the statement's own. -/
import Derived.Test.YtehgfeflbkdjdaaRow
import Derived.Deep.Cut
import Derived.Deep.DeepCutAuto
import Derived.Deep.CutBlock
import Derived.Deep.RegionHeld3
import Derived.Test.YtehgfeflbkdjdaaArgs
import Derived.ProofKit
import Derived.OpenShut
import Derived.ShutString
import Derived.ChangeOld
import Derived.Below
import Derived.Deep.Slices
namespace Go.Proofs.Ytehgfeflbkdjdaa.noticeKeeps
open Go.ChangeShapes Go.WideShapes Go.ChangeAt Go.RowKit
set_option linter.unusedVariables false

theorem own : ownKnob Try.prog.godebug = none := by kernel_rfl
theorem laidOut : laidOutB Try.prog = true := by kernel_rfl

/-- A notice, all new: nobody waits, or the word is nought. -/
structure Kn (w0 w : World) (P : Nat → Prop) (p : Nat) (W : Int) (b : Option Int) (L : List Int) (n : Nat) : Prop where
  t : On (fun w O => NA w O p W b L) w0 w P
  nd : L.Nodup
  le : L.length ≤ n
  iv : L = [] ∨ W = 0

set_option maxHeartbeats 8000000 in
set_option maxRecDepth 100000 in
theorem core (x0 : Option Addr) (len0 cap0 : Nat) (w : World) (hx0 : Acts4 w x0 len0) :
    Calls Try.prog 4 #[.slice x0 len0 cap0] w fun e w' => e = .returned (.bool true) ∧ w.grownBy w' none := by
  have HX := hideIt hx0
  clear hx0
  go_enter Try.func4, Try.ntmps4
  go_wp2_with fail
  refine (works_is w).mono ?_
  rintro e wa ⟨rfl, ga⟩
  replace ga := hideIt ga
  go_wp2_with fail
  refine (nnew_is wa).mono ?_
  rintro e wb ⟨p, rfl, A1, g1⟩
  have H2 : Hid (Kn w wb (fun i => wa.heap.size ≤ i ∧ i < wb.heap.size) p 0 none [] 0) := hideIt ⟨⟨A1, fun i hi => by have := ga.out.size; omega, gbTrans ga.out g1⟩, by simp, by simp, .inl rfl⟩
  clear A1 g1 ga
  go_wp2_with fail
  go_loopg [4, 5] 100 (fun gk v i wr => ∃ (j : Nat) (P : Nat → Prop) (W : Int) (b : Option Int) (L : List Int), j + gk = 100 ∧ v = .int .u64 W ∧ i = .int .i64 j ∧ Hid (Kn w wr P p W b L j))
  case atStart => exact ⟨0, _, 0, none, [], rfl, rfl, rfl, H2⟩
  case round =>
    obtain ⟨j, P, W, b, L, hj, rfl, rfl, H⟩ := hrel
    clear H2
    by_cases hlt : j < len0 ∧ j < 100
    · obtain ⟨c1, c2⟩ := hlt
      obtain ⟨x, r, rfl, hE, hU⟩ := HX.out j c1
      replace hU := hideIt hU
      have hdj : decide ((j : Int) < 100) = true := by simp; omega
      obtain ⟨r0, r1, r2, r3⟩ := hE.kept H.out.t.gr
      have hL := H.out.le
      clear hE
      go_upto_region 9 with fail
      obtain ⟨V, hV, Y, gY⟩ := qboxNew wr r
      rw [hV]
      clear hV r0 r1 r2 r3
      have hyP : ¬ P wr.heap.size := fun e => by have := (H.out.t.lo _ e).2; omega
      have H0 := hideIt (oKept H.out.t gY)
      have hnd := hideIt H.out.nd
      have hiv := hideIt H.out.iv
      obtain ⟨y, hy⟩ : ∃ y, wr.heap.size = y := ⟨_, rfl⟩
      rw [hy] at Y hyP
      rw [hy]
      clear hy gY H
      replace Y := hideIt Y
      obtain ⟨r0, r1, r2, r3, _⟩ := id Y.out
      go_upto_block 2 with fail
      go_cut [4, 7, 8, 9, 10, 11, 12] from 34 to 92 (fun s _ _ _ _ _ _ wc => ∃ (P : Nat → Prop) (W : Int) (b : Option Int) (L : List Int), s = .int .u64 W ∧ Hid (Kn w wc P p W b L (j + 1)))
      case first =>
        by_cases k0 : (r.k == 0) = true
        · have k0 : (r.k == 0) = true := k0
          obtain ⟨X, hX⟩ : ∃ X, bits .or .u64 W r.g = X := ⟨_, rfl⟩
          have hXM : Hid (M.or W r.g = X) := hideIt hX
          obtain ⟨xa, hxa⟩ : ∃ v, M.si b L r.b = v := ⟨_, rfl⟩
          replace hxa := hideIt hxa
          by_cases so : M.so b L r.b = true
          · obtain ⟨f1, f2⟩ := M.sig_yes (b := b) (bd := r.b) hiv.out hU.out so
            rw [hXM.out] at f1
            replace f1 := hideIt f1
            replace f2 := hideIt f2
            replace so := hideIt so
            go_wp2_with fail
            refine (signal_is H0.out.a (by omega) hnd.out r.g r.b xa X true hxa.out f1.out so.out).mono ?_
            rintro e w6 ⟨rfl, Z6, F6⟩
            rw [f2.out] at Z6
            have H6 := hideIt (oTurn H0.out Z6 F6)
            have Y6 := Y.out.fr F6 hyP
            obtain ⟨_, r1, r2, r3, _⟩ := id Y6
            clear Z6 F6
            go_wp2
            go_meet
            exact ⟨_, _, _, _, rfl, hideIt ⟨H6.out, hnd.out.sublist (List.tail_sublist _), by rw [List.length_tail]; omega, .inr rfl⟩⟩
          · obtain ⟨f1, f2⟩ := M.sig_no (W := W) (g := r.g) (b := b) (bd := r.b) (L := L) (by simpa using so)
            subst f2
            rw [hXM.out] at f1
            replace f1 := hideIt f1
            have so : Hid (M.so b [] r.b = false) := hideIt (by simpa using so)
            obtain ⟨xv, hxv⟩ : ∃ v, M.sv W b [] r.g r.b = v := ⟨_, rfl⟩
            replace hxv := hideIt hxv
            go_wp2_with fail
            refine (signal_is H0.out.a (by omega) hnd.out r.g r.b xa xv false hxa.out hxv.out so.out).mono ?_
            rintro e w6 ⟨rfl, Z6, F6⟩
            rw [f1.out] at Z6
            have H6 := hideIt (oTurn H0.out Z6 F6)
            have Y6 := Y.out.fr F6 hyP
            obtain ⟨_, r1, r2, r3, _⟩ := id Y6
            clear Z6 F6
            go_wp2
            go_meet
            exact ⟨_, _, _, _, rfl, hideIt ⟨H6.out, by simp, by simp, .inl rfl⟩⟩
        · have k0 : (r.k == 0) = false := by simpa using k0
          by_cases k1 : (r.k == 1) = true
          · have k1 : (r.k == 1) = true := k1
            obtain ⟨xf, hxf⟩ : ∃ v, M.pe L r.i = v := ⟨_, rfl⟩
            by_cases hf : xf = 0
            · subst hf
              have pe := hideIt hxf
              clear hxf
              by_cases hW : W = 0
              · subst hW
                obtain ⟨f1, f2, f3⟩ := M.wait_yes (W := 0) (L := L) (a := r.i) pe.out false rfl
                replace f1 := hideIt f1
                replace f2 := hideIt f2
                replace f3 := hideIt f3
                go_wp2_with fail
                refine (wait_is H0.out.a (by omega) hnd.out r.i r.b 0 false 0 f1.out f2.out pe.out).mono ?_
                rintro e w6 ⟨rfl, Z6, F6⟩
                rw [f3.out] at Z6
                have H6 := hideIt (oTurn H0.out Z6 F6)
                clear Z6 F6 r0 r1 r2 r3
                go_wp2
                go_meet
                exact ⟨_, _, _, _, rfl, hideIt ⟨H6.out, M.wl_nodup hnd.out, by have := M.wl_len 0 r.i L r.b; omega, .inr rfl⟩⟩
              · have hW2 : (W != 0) = true := by simpa using hW
                have hW1 : (W == 0) = false := by simpa using hW
                clear hW
                obtain ⟨f1, f2, f3⟩ := M.wait_yes (W := W) (L := L) (a := r.i) pe.out true hW2
                replace f1 := hideIt f1
                replace f2 := hideIt f2
                replace f3 := hideIt f3
                go_wp2_with fail
                refine (wait_is H0.out.a (by omega) hnd.out r.i r.b W true 0 f1.out f2.out pe.out).mono ?_
                rintro e w6 ⟨rfl, Z6, F6⟩
                rw [f3.out] at Z6
                have H6 := hideIt (oTurn H0.out Z6 F6)
                clear Z6 F6 r0 r1 r2 r3
                go_wp2
                go_meet
                exact ⟨_, _, _, _, rfl, hideIt ⟨H6.out, M.wl_nodup hnd.out, by have := M.wl_len W r.i L r.b; omega, .inr rfl⟩⟩
            · obtain ⟨f1, f2, f3, f4⟩ := M.wait_no (W := W) (L := L) (a := r.i) (wt := r.b) (by rw [hxf]; exact hf)
              have hf1 : (xf == 0) = false := by simpa using hf
              replace f1 := hideIt f1
              replace f2 := hideIt f2
              replace f3 := hideIt f3
              replace f4 := hideIt f4
              have pe := hideIt hxf
              clear hxf hf
              go_wp2_with fail
              refine (wait_is H0.out.a (by omega) hnd.out r.i r.b 0 false xf f1.out f2.out pe.out).mono ?_
              rintro e w6 ⟨rfl, Z6, F6⟩
              rw [f3.out, f4.out] at Z6
              have H6 := hideIt (oTurn H0.out Z6 F6)
              clear Z6 F6 r0 r1 r2 r3
              go_wp2
              go_meet
              exact ⟨_, _, _, _, rfl, hideIt ⟨H6.out, hnd.out, by omega, hiv.out⟩⟩
          · have k1 : (r.k == 1) = false := by simpa using k1
            by_cases k2 : (r.k == 2) = true
            · have k2 : (r.k == 2) = true := k2
              obtain ⟨o, ho⟩ : ∃ o, L.contains r.i = o := ⟨_, rfl⟩
              replace ho := hideIt ho
              go_wp2_with fail
              refine (cancel_is H0.out.a (by omega) hnd.out r.i o ho.out).mono ?_
              rintro e w6 ⟨rfl, Z6, F6⟩
              have H6 := hideIt (oTurn H0.out Z6 F6)
              clear Z6 F6 r0 r1 r2 r3
              go_wp2
              go_meet
              exact ⟨_, _, _, _, rfl, hideIt ⟨H6.out, M.wo_nodup hnd.out, by have := M.wo_len L r.i; omega, M.wo_inv hiv.out⟩⟩
            · have k2 : (r.k == 2) = false := by simpa using k2
              by_cases k3 : (r.k == 3) = true
              · have k3 : (r.k == 3) = true := k3
                obtain ⟨f, hf⟩ : ∃ f, M.be b r.i = f := ⟨_, rfl⟩
                replace hf := hideIt hf
                go_wp2_with fail
                refine (bind_is H0.out.a r.i f hf.out).mono ?_
                rintro e w6 ⟨rfl, Z6, F6⟩
                have H6 := hideIt (oTurn H0.out Z6 F6)
                clear Z6 F6 r0 r1 r2 r3
                go_wp2
                go_meet
                exact ⟨_, _, _, _, rfl, hideIt ⟨H6.out, hnd.out, by omega, hiv.out⟩⟩
              · have k3 : (r.k == 3) = false := by simpa using k3
                by_cases k4 : (r.k == 4) = true
                · have k4 : (r.k == 4) = true := k4
                  obtain ⟨xa, hxa⟩ : ∃ v, b.getD 0 = v := ⟨_, rfl⟩
                  obtain ⟨xo, hxo⟩ : ∃ v, b.isSome = v := ⟨_, rfl⟩
                  replace hxa := hideIt hxa
                  replace hxo := hideIt hxo
                  go_wp2_with fail
                  refine (unbind_is H0.out.a xa xo hxa.out hxo.out).mono ?_
                  rintro e w6 ⟨rfl, Z6, F6⟩
                  have H6 := hideIt (oTurn H0.out Z6 F6)
                  clear Z6 F6 r0 r1 r2 r3
                  go_wp2
                  go_meet
                  exact ⟨_, _, _, _, rfl, hideIt ⟨H6.out, hnd.out, by omega, hiv.out⟩⟩
                · have k4 : (r.k == 4) = false := by simpa using k4
                  clear r1 r2 r3
                  go_wp2
                  go_meet
                  exact ⟨_, _, _, _, rfl, hideIt ⟨H0.out, hnd.out, by omega, hiv.out⟩⟩
      case rest =>
        obtain ⟨P', W', b', L', rfl, H'⟩ := hcut
        clear H0 r0 r1 r2 r3 hL hnd hyP Y hiv hU
        have hL := H'.out.le
        go_wp2_with fail
        refine (state_is H'.out.t.a (by omega)).mono ?_
        rintro e w4 ⟨v4, rfl, l4, g4⟩
        have H4 := hideIt (oKept H'.out.t g4)
        obtain ⟨xl, cl0, rfl, _⟩ := l4.arr
        clear g4 l4
        by_cases hn : L' = []
        · subst hn
          clear hL
          go_wp2
          go_roundg (gk - 1)
          case rel => exact ⟨j + 1, _, _, _, _, by omega, rfl, by go_num, hideIt ⟨H4.out, H'.out.nd, H'.out.le, H'.out.iv⟩⟩
          case measure => omega
        · have hp0 : 0 < L'.length := List.length_pos_iff.2 hn
          obtain rfl : W' = 0 := H'.out.iv.resolve_left hn
          obtain ⟨nl, hnl⟩ : ∃ n, L'.length = n := ⟨_, rfl⟩
          rw [hnl] at hp0 ⊢
          clear hnl hL hn
          go_wp2
          go_roundg (gk - 1)
          case rel => exact ⟨j + 1, _, _, _, _, by omega, rfl, by go_num, hideIt ⟨H4.out, H'.out.nd, H'.out.le, H'.out.iv⟩⟩
          case measure => omega
    · go_upto_region 6 with fail
      go_cut [25] from 18 to 25 (fun s wc => s = .bool false ∧ wc = wr)
      case first =>
        by_cases k1 : (j : Int) < (len0 : Int)
        · have k2 : ¬ (j : Int) < 100 := by omega
          go_wp2
          go_meet
          exact ⟨rfl, rfl⟩
        · go_wp2
          go_meet
          exact ⟨rfl, rfl⟩
      case rest =>
      obtain ⟨rfl, rfl⟩ := hcut
      go_wp2
      go_ret
      exact ⟨rfl, H.out.t.gr⟩

theorem walk (x0 : Option Addr) (len0 cap0 : Nat) (w : World) (hx0 : Acts4 w x0 len0) :
    Calls Try.prog 4 #[.slice x0 len0 cap0] w fun e w' => e = .returned (.bool true) ∧ Below w.heap.size w w' := endWalk (core x0 len0 cap0 w hx0)

set_option maxRecDepth 100000 in
theorem lifted (os : Os) (started : os.Started) (H : Type) (enc : TypeId × Value → H) :
    ReturnsInHanded {} Try.checked os 4 .any (Rows.noticeKeepsSpec.pre6 enc Try.prog Try.f4 Rows.noticeKeepsRow.domain false) (Rows.noticeKeepsSpec.post enc Try.prog Try.f4 false true false false) := by
  refine returnsInHanded_of_change (C := Try.checked) own started (by kernel_rfl) Try.func4
    (ChangeSpec.witness6 (enc := enc) (C := Try.checked) false ⟨#[], #[.slice none 0 0], []⟩ 8 (by kernel_rfl) (by kernel_rfl) (by kernel_rfl) (by kernel_rfl)) ?_
  intro W base args ds gs before hval0 hW hcnd _
  have hval : ∀ (j : Nat) t v, Try.f4.params[j]? = some t → args[j]? = some v → Value.okWide Try.prog W .any base t v := hval0
  have hW' := hW
  obtain ⟨p, q, hA0, hV, rfl, hfz, hnd⟩ := hW
  have hA : DataW.TrodAll enc Try.prog W 0 (fun _ => true) true Try.f4.params.toList args.toList ds p := hA0
  rw [Try.params4] at hA hval
  obtain ⟨v0, vs0, d0, ds0, p0, q0, hargs, rfl, rfl, h0, r0⟩ := trodAll_cons hA
  obtain ⟨rfl, rfl, rfl⟩ := trodAll_nil r0
  obtain rfl : args = #[v0] := by cases args; simp_all
  obtain ⟨rfl, rfl⟩ := trodVars_none hV
  obtain ⟨x0, len0, cap0, rfl⟩ := okWide_slice Try.underlying22 (hval 0 22 v0 rfl rfl)
  have hx0 := opsArg h0
  have k0 := h0
  have lt0 : ∀ x ∈ p0, x.block < W.heap.size := by obtain ⟨m, hm⟩ := k0; exact DataW.trod_lt m _ _ _ hm
  clear hA0 hval0
  refine (walk x0 len0 cap0 W hx0).mono fun e W' ⟨he, bel⟩ => ?_
  subst he
  exact ⟨_, rfl, _, _, _, [], _, [], hW', trodAll_mk1 (shut_bool Try.underlying4 _), (trodAll_cons_mk (Below.trod laidOut (by kernel_rfl) (of_decide_eq_true (by kernel_rfl)) k0 bel lt0) trodAll_mk0), rfl, bel.frame _, fun h => by cases h⟩

theorem over : Rows.noticeKeepsRow.holds Try.pinned (OpenSpec.ofChange Rows.noticeKeepsSpec) :=
  OpenClaim.holds_of_wide 4 Try.f4 rfl rfl rfl rfl rfl rfl rfl ⟨rfl, rfl, rfl, rfl, rfl⟩ rfl rfl rfl rfl rfl (by kernel_rfl) Try.func4 (by kernel_rfl)
    (of_decide_eq_true (by kernel_rfl)) (by unfold Func.isWrapper; first | (rw [if_pos (by decide +kernel)]; kernel_rfl) | (rw [if_neg (by decide +kernel)]; exact ⟨rfl, rfl⟩))
    (fun os started H enc _ => lifted os started H enc)

theorem proved : Rows.NoticeKeepsSaid := over
end Go.Proofs.Ytehgfeflbkdjdaa.noticeKeeps
namespace Go.Proofs.Ytehgfeflbkdjdaa
theorem noticeKeeps_holds : Rows.NoticeKeepsSaid := noticeKeeps.proved
#print axioms noticeKeeps_holds
end Go.Proofs.Ytehgfeflbkdjdaa
