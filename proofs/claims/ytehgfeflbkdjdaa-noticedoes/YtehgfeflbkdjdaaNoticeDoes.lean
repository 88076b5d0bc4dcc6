/- NoticeDoes: for every list of acts, and every fate of the machine, the call ends and answers true: each answer of Signal, Wait, Cancel, Bind, Unbind and Bound, the word and who waits are what the chapter says. No condition beyond the statement's own. -/
import Derived.Test.YtehgfeflbkdjdaaPln
import Derived.Deep.Cut
import Derived.Deep.DeepCutAuto
import Derived.Deep.CutBlock
import Derived.Deep.RegionHeld3
import Derived.Test.YtehgfeflbkdjdaaArgs
import Derived.ProofKit
import Derived.OpenShut
import Derived.ShutString
import Derived.ChangeOld
import Derived.Below
import Derived.Deep.Slices
namespace Go.Proofs.Ytehgfeflbkdjdaa.noticeDoes
open Go.ChangeShapes Go.WideShapes Go.ChangeAt Go.RowKit
set_option linter.unusedVariables false

theorem own : ownKnob Try.prog.godebug = none := by kernel_rfl
theorem laidOut : laidOutB Try.prog = true := by kernel_rfl

/-- Both notices, all new, with the same word, one that is bound and ids. -/
structure Ed (w0 w : World) (P R : Nat → Prop) (p q : Nat) (W : Int) (b : Option Int) (L : List Int) (n : Nat) : Prop where
  t : Tw (fun w O => NA w O p W b L) (fun w O => RN w O q W b L) w0 w P R
  nd : L.Nodup
  le : L.length ≤ n
abbrev LL (w0 w : World) (P R : Nat → Prop) (p q : Nat) (W : Int) (b : Option Int) (L : List Int) (W2 : Int) (b2 : Option Int) (L2 : List Int) : Prop := Tw (fun w O => NA w O p W b L) (fun w O => RN w O q W2 b2 L2) w0 w P R
section
variable {w0 w w' : World} {P R : Nat → Prop} {p q : Nat} {W W2 W' : Int} {b b2 b' : Option Int} {L L2 L' : List Int}
theorem pr (h : LL w0 w P R p q W b L W2 b2 L2) (T : NA w' (wide P w w') p W' b' L') (f : Fr P w w') : LL w0 w' (wide P w w') R p q W' b' L' W2 b2 L2 := Tw.prog (A' := fun w O => NA w O p W' b' L') (kRN q W2 b2 L2) h T f
theorem dc (h : LL w0 w P R p q W b L W2 b2 L2) (T : RN w' (wide R w w') q W' b' L') (f : Fr R w w') : LL w0 w' P (wide R w w') p q W b L W' b' L' := Tw.doc (B' := fun w O => RN w O q W' b' L') (kNA p W b L) h T f
theorem kp (h : LL w0 w P R p q W b L W2 b2 L2) (g : w.grownBy w' none) : LL w0 w' P R p q W b L W2 b2 L2 := Tw.kept (kNA p W b L) (kRN q W2 b2 L2) h g
end

set_option maxHeartbeats 8000000 in
set_option maxRecDepth 100000 in
theorem core (x0 : Option Addr) (len0 cap0 : Nat) (w : World) (hx0 : Acts4 w x0 len0) :
    Calls Try.prog 3 #[.slice x0 len0 cap0] w fun e w' => e = .returned (.bool true) ∧ w.grownBy w' none := by
  have HX := hideIt hx0
  clear hx0
  go_enter Try.func3, Try.ntmps3
  go_wp2_with fail
  refine (nnew_is w).mono ?_
  rintro e w1 ⟨p, rfl, A1, g1⟩
  obtain ⟨W2, hW2⟩ : ∃ W2, w1.alloc (.cells #[.int .u64 0, .slice none 0 0, .int .i64 0, .bool false] 29) = W2 := ⟨_, rfl⟩
  have H2 : Hid (Ed w W2 (fun i => w.heap.size ≤ i ∧ i < w1.heap.size) (fun i => i = w1.heap.size) p w1.heap.size 0 none [] 0) := hideIt (by
    have ga : w1.grownBy W2 none := by rw [← hW2]; exact gbAlloc _ _ _
    have hl : w1.heap.size < W2.heap.size := by rw [← hW2]; simp
    have hs := g1.size
    refine ⟨⟨A1.kept ga, ⟨⟨.slice none 0 0, by rw [← hW2]; simp, Ls.nil _ _ _ _ _, fun k hk => by cases hk⟩, by rw [← hW2]; simp, ⟨0, by rw [← hW2]; simp, fun a e => by cases e⟩, by rw [← hW2]; simp, fun i => by rw [← hW2]; simp, hl, rfl⟩, fun i hi => by omega, fun i hi => by subst hi; omega, fun i hi e => by omega, gbTrans g1 ga⟩, by simp, by simp⟩)
  obtain ⟨q, hq⟩ : ∃ q, w1.heap.size = q := ⟨_, rfl⟩
  rw [hq] at H2
  clear A1 g1
  go_wp2_with fail
  clear hW2 hq
  go_loopg [5] 100 (fun gk i wr => ∃ (j : Nat) (P R : Nat → Prop) (W : Int) (b : Option Int) (L : List Int), j + gk = 100 ∧ i = .int .i64 j ∧ Hid (Ed w wr P R p q W b L j))
  case atStart => exact ⟨0, _, _, 0, none, [], rfl, rfl, H2⟩
  case round =>
    obtain ⟨j, P, R, W, b, L, hj, rfl, H⟩ := hrel
    clear H2
    by_cases hlt : j < len0 ∧ j < 100
    · obtain ⟨c1, c2⟩ := hlt
      obtain ⟨x, r, rfl, hE, _⟩ := HX.out j c1
      have hdj : decide ((j : Int) < 100) = true := by simp; omega
      obtain ⟨r0, r1, r2, r3⟩ := hE.kept H.out.t.gr
      have hL := H.out.le
      clear hE
      go_upto_region 8 with fail
      obtain ⟨V, hV, Y, gY⟩ := qboxNew wr r
      rw [hV]
      clear hV r0 r1 r2 r3
      have hyP : ¬ P wr.heap.size := fun e => by have := (H.out.t.lo _ e).2; omega
      have hyR : ¬ R wr.heap.size := fun e => by have := (H.out.t.lr _ e).2; omega
      have H0 := hideIt (kp H.out.t gY)
      have hnd := hideIt H.out.nd
      obtain ⟨y, hy⟩ : ∃ y, wr.heap.size = y := ⟨_, rfl⟩
      rw [hy] at Y hyP hyR
      rw [hy]
      clear hy gY H
      replace Y := hideIt Y
      obtain ⟨r0, r1, r2, r3, _⟩ := id Y.out
      go_upto_block 2 with fail
      go_cut [7, 8, 9, 10, 11, 12, 13, 14, 15, 16, 17, 18, 19, 20, 21, 22] from 50 to 161 (fun _ _ _ _ _ _ _ _ _ _ _ _ _ _ _ _ wc => ∃ (P R : Nat → Prop) (W : Int) (b : Option Int) (L : List Int), Hid (Ed w wc P R p q W b L (j + 1)))
      case first =>
        by_cases k0 : (r.k == 0) = true
        · have k0 : (r.k == 0) = true := k0
          obtain ⟨xa, hxa⟩ : ∃ v, M.si b L r.b = v := ⟨_, rfl⟩
          obtain ⟨xv, hxv⟩ : ∃ v, M.sv W b L r.g r.b = v := ⟨_, rfl⟩
          obtain ⟨xo, hxo⟩ : ∃ v, M.so b L r.b = v := ⟨_, rfl⟩
          replace hxa := hideIt hxa
          replace hxv := hideIt hxv
          replace hxo := hideIt hxo
          go_wp2_with fail
          refine (signal_is H0.out.a (by omega) hnd.out r.g r.b xa xv xo hxa.out hxv.out hxo.out).mono ?_
          rintro e w6 ⟨rfl, Z6, F6⟩
          have H6 := hideIt (pr H0.out Z6 F6)
          have Y6 := Y.out.fr F6 hyP
          obtain ⟨_, r1, r2, r3, _⟩ := id Y6
          clear Z6 F6
          go_wp2_with fail
          refine (rsignal_is H6.out.b (by omega) r.g r.b xa xv xo hxa.out hxv.out hxo.out).mono ?_
          rintro e w7 ⟨rfl, Z7, F7⟩
          have H7 := hideIt (dc H6.out Z7 F7)
          clear Z7 F7 H6 Y6 r1 r2 r3
          go_wp2
          go_meet
          exact ⟨_, _, _, _, _, hideIt ⟨H7.out, hnd.out.sublist (List.tail_sublist _), by rw [List.length_tail]; omega⟩⟩
        · have k0 : (r.k == 0) = false := by simpa using k0
          by_cases k1 : (r.k == 1) = true
          · have k1 : (r.k == 1) = true := k1
            obtain ⟨xv, hxv⟩ : ∃ v, M.wv W L r.i = v := ⟨_, rfl⟩
            obtain ⟨xo, hxo⟩ : ∃ v, M.wb W L r.i = v := ⟨_, rfl⟩
            obtain ⟨xf, hxf⟩ : ∃ v, M.pe L r.i = v := ⟨_, rfl⟩
            replace hxv := hideIt hxv
            replace hxo := hideIt hxo
            replace hxf := hideIt hxf
            go_wp2_with fail
            refine (wait_is H0.out.a (by omega) hnd.out r.i r.b xv xo xf hxv.out hxo.out hxf.out).mono ?_
            rintro e w6 ⟨rfl, Z6, F6⟩
            have H6 := hideIt (pr H0.out Z6 F6)
            have Y6 := Y.out.fr F6 hyP
            obtain ⟨_, r1, r2, r3, _⟩ := id Y6
            clear Z6 F6
            go_wp2_with fail
            refine (rwait_is H6.out.b (by omega) r.i r.b xv xo xf hxv.out hxo.out hxf.out).mono ?_
            rintro e w7 ⟨rfl, Z7, F7⟩
            have H7 := hideIt (dc H6.out Z7 F7)
            clear Z7 F7 H6 Y6 r1 r2 r3
            go_wp2
            go_meet
            exact ⟨_, _, _, _, _, hideIt ⟨H7.out, M.wl_nodup hnd.out, by have := M.wl_len W r.i L r.b; omega⟩⟩
          · have k1 : (r.k == 1) = false := by simpa using k1
            by_cases k2 : (r.k == 2) = true
            · have k2 : (r.k == 2) = true := k2
              obtain ⟨o, ho⟩ : ∃ o, L.contains r.i = o := ⟨_, rfl⟩
              replace ho := hideIt ho
              have gd := gbDrew (gbRefl V none)
              have Hd := hideIt (kp H0.out gd)
              have T1 := (Y.out.kept gd).at1
              go_upto_region 20 with fail
              go_region_held3 (fun w' => w'.cell? ⟨y, 1, none⟩ = some (.int .i64 r.i))
                (first | with_reducible exact r1 | with_reducible exact T1 | with_reducible exact T6 | with_reducible exact T7 | fail)
                ((first
                  | (go_at_call 13; refine (rcancel_is H6.out.b (by omega) hnd.out r.i o ho.out).mono ?_; rintro e w7 ⟨rfl, Z7, F7⟩; have H7 := hideIt (dc H6.out Z7 F7); have T7 := (Y6.out.fr F7 hyR).at1; clear Z7 F7)
                  | (go_at_call 12; refine (cancel_is Hd.out.a (by omega) hnd.out r.i o ho.out).mono ?_; rintro e w6 ⟨rfl, Z6, F6⟩; have H6 := hideIt (pr Hd.out Z6 F6); have Y6 := hideIt ((Y.out.kept gd).fr F6 hyP); have T6 := Y6.out.at1; clear Z6 F6)))
              rename_i hold
              clear hold r0 r1 r2 r3 T1 T6 T7
              go_wp2
              go_meet
              exact ⟨_, _, _, _, _, hideIt ⟨H7.out, M.wo_nodup hnd.out, by have := M.wo_len L r.i; omega⟩⟩
            · have k2 : (r.k == 2) = false := by simpa using k2
              by_cases k3 : (r.k == 3) = true
              · have k3 : (r.k == 3) = true := k3
                obtain ⟨f, hf⟩ : ∃ f, M.be b r.i = f := ⟨_, rfl⟩
                replace hf := hideIt hf
                have gd := gbDrew (gbRefl V none)
                have Hd := hideIt (kp H0.out gd)
                have T1 := (Y.out.kept gd).at1
                go_upto_region 23 with fail
                go_region_held3 (fun w' => w'.cell? ⟨y, 1, none⟩ = some (.int .i64 r.i))
                  (first | with_reducible exact r1 | with_reducible exact T1 | with_reducible exact T6 | with_reducible exact T7 | fail)
                  ((first
                    | (go_at_call 15; refine (rbind_is H6.out.b r.i f hf.out).mono ?_; rintro e w7 ⟨rfl, Z7, F7⟩; have H7 := hideIt (dc H6.out Z7 F7); have T7 := (Y6.out.fr F7 hyR).at1; clear Z7 F7)
                    | (go_at_call 14; refine (bind_is Hd.out.a r.i f hf.out).mono ?_; rintro e w6 ⟨rfl, Z6, F6⟩; have H6 := hideIt (pr Hd.out Z6 F6); have Y6 := hideIt ((Y.out.kept gd).fr F6 hyP); have T6 := Y6.out.at1; clear Z6 F6)))
                rename_i hold
                clear hold r0 r1 r2 r3 T1 T6 T7
                go_wp2
                go_meet
                exact ⟨_, _, _, _, _, hideIt ⟨H7.out, hnd.out, by omega⟩⟩
              · have k3 : (r.k == 3) = false := by simpa using k3
                by_cases k4 : (r.k == 4) = true
                · have k4 : (r.k == 4) = true := k4
                  obtain ⟨xa, hxa⟩ : ∃ v, b.getD 0 = v := ⟨_, rfl⟩
                  obtain ⟨xo, hxo⟩ : ∃ v, b.isSome = v := ⟨_, rfl⟩
                  replace hxa := hideIt hxa
                  replace hxo := hideIt hxo
                  clear r1 r2 r3
                  go_wp2_with fail
                  refine (unbind_is H0.out.a xa xo hxa.out hxo.out).mono ?_
                  rintro e w6 ⟨rfl, Z6, F6⟩
                  have H6 := hideIt (pr H0.out Z6 F6)
                  clear Z6 F6 r0
                  go_wp2_with fail
                  refine (runbind_is H6.out.b xa xo hxa.out hxo.out).mono ?_
                  rintro e w7 ⟨rfl, Z7, F7⟩
                  have H7 := hideIt (dc H6.out Z7 F7)
                  clear Z7 F7 H6
                  go_wp2
                  go_meet
                  exact ⟨_, _, _, _, _, hideIt ⟨H7.out, hnd.out, by omega⟩⟩
                · have k4 : (r.k == 4) = false := by simpa using k4
                  clear r1 r2 r3
                  go_wp2
                  go_meet
                  exact ⟨_, _, _, _, _, hideIt ⟨H0.out, hnd.out, by omega⟩⟩
      case rest =>
        obtain ⟨P', R', W', b', L', H'⟩ := hcut
        clear H0 r0 r1 r2 r3 hL hnd hyP hyR Y
        have hL := H'.out.le
        obtain ⟨xa, hxa⟩ : ∃ v, b'.getD 0 = v := ⟨_, rfl⟩
        obtain ⟨xo, hxo⟩ : ∃ v, b'.isSome = v := ⟨_, rfl⟩
        replace hxa := hideIt hxa
        replace hxo := hideIt hxo
        go_wp2_with fail
        refine (bound_is H'.out.t.a xa xo hxa.out hxo.out).mono ?_
        rintro e w3 ⟨rfl, rfl⟩
        go_wp2_with fail
        refine (rbound_is H'.out.t.b xa xo hxa.out hxo.out).mono ?_
        rintro e w3 ⟨rfl, rfl⟩
        go_wp2_with fail
        refine (state_is H'.out.t.a (by omega)).mono ?_
        rintro e w4 ⟨v4, rfl, l4, g4⟩
        have H4 := hideIt (kp H'.out.t g4)
        have l4 := hideIt l4
        clear g4
        obtain ⟨xl, cl0, d1, _, _, l5, _⟩ := H4.out.b.see
        replace l5 := hideIt l5
        have d0 := H4.out.b.at0
        obtain ⟨nl, hnl⟩ : ∃ n, L'.length = n := ⟨_, rfl⟩
        rw [hnl] at d1 l5
        clear hnl
        go_wp2_with fail
        refine (same_is l4.out l5.out (by omega)).mono ?_
        rintro e w5 ⟨rfl, g5⟩
        have H5 := hideIt (kp H4.out g5)
        clear g5 H4 l4 l5 d1 d0
        go_wp2
        go_roundg (gk - 1)
        case rel => exact ⟨j + 1, _, _, _, _, _, by omega, by go_num, hideIt ⟨H5.out, H'.out.nd, H'.out.le⟩⟩
        case measure => omega
    · go_upto_region 5 with fail
      go_cut [41] from 34 to 41 (fun s wc => s = .bool false ∧ wc = wr)
      case first =>
        by_cases k1 : (j : Int) < (len0 : Int)
        · have k2 : ¬ (j : Int) < 100 := by omega
          go_wp2
          go_meet
          exact ⟨rfl, rfl⟩
        · go_wp2
          go_meet
          exact ⟨rfl, rfl⟩
      case rest =>
      obtain ⟨rfl, rfl⟩ := hcut
      go_wp2
      go_ret
      exact ⟨rfl, H.out.t.gr⟩

theorem walk (x0 : Option Addr) (len0 cap0 : Nat) (w : World) (hx0 : Acts4 w x0 len0) :
    Calls Try.prog 3 #[.slice x0 len0 cap0] w fun e w' => e = .returned (.bool true) ∧ Below w.heap.size w w' := endWalk (core x0 len0 cap0 w hx0)

set_option maxRecDepth 100000 in
theorem lifted (os : Os) (started : os.Started) (H : Type) (enc : TypeId × Value → H) :
    ReturnsInHanded {} Try.checked os 3 .any (Rows.noticeDoesSpec.pre6 enc Try.prog Try.f3 Rows.noticeDoesRow.domain false) (Rows.noticeDoesSpec.post enc Try.prog Try.f3 false true false false) := by
  refine returnsInHanded_of_change (C := Try.checked) own started (by kernel_rfl) Try.func3
    (ChangeSpec.witness6 (enc := enc) (C := Try.checked) false ⟨#[], #[.slice none 0 0], []⟩ 8 (by kernel_rfl) (by kernel_rfl) (by kernel_rfl) (by kernel_rfl)) ?_
  intro W base args ds gs before hval0 hW hcnd _
  have hval : ∀ (j : Nat) t v, Try.f3.params[j]? = some t → args[j]? = some v → Value.okWide Try.prog W .any base t v := hval0
  have hW' := hW
  obtain ⟨p, q, hA0, hV, rfl, hfz, hnd⟩ := hW
  have hA : DataW.TrodAll enc Try.prog W 0 (fun _ => true) true Try.f3.params.toList args.toList ds p := hA0
  rw [Try.params3] at hA hval
  obtain ⟨v0, vs0, d0, ds0, p0, q0, hargs, rfl, rfl, h0, r0⟩ := trodAll_cons hA
  obtain ⟨rfl, rfl, rfl⟩ := trodAll_nil r0
  obtain rfl : args = #[v0] := by cases args; simp_all
  obtain ⟨rfl, rfl⟩ := trodVars_none hV
  obtain ⟨x0, len0, cap0, rfl⟩ := okWide_slice Try.underlying22 (hval 0 22 v0 rfl rfl)
  have hx0 := opsArg h0
  have k0 := h0
  have lt0 : ∀ x ∈ p0, x.block < W.heap.size := by obtain ⟨m, hm⟩ := k0; exact DataW.trod_lt m _ _ _ hm
  clear hA0 hval0
  refine (walk x0 len0 cap0 W hx0).mono fun e W' ⟨he, bel⟩ => ?_
  subst he
  exact ⟨_, rfl, _, _, _, [], _, [], hW', trodAll_mk1 (shut_bool Try.underlying4 _), (trodAll_cons_mk (Below.trod laidOut (by kernel_rfl) (of_decide_eq_true (by kernel_rfl)) k0 bel lt0) trodAll_mk0), rfl, bel.frame _, fun h => by cases h⟩

theorem over : Rows.noticeDoesRow.holds Try.pinned (OpenSpec.ofChange Rows.noticeDoesSpec) :=
  OpenClaim.holds_of_wide 3 Try.f3 rfl rfl rfl rfl rfl rfl rfl ⟨rfl, rfl, rfl, rfl, rfl⟩ rfl rfl rfl rfl rfl (by kernel_rfl) Try.func3 (by kernel_rfl)
    (of_decide_eq_true (by kernel_rfl)) (by unfold Func.isWrapper; first | (rw [if_pos (by decide +kernel)]; kernel_rfl) | (rw [if_neg (by decide +kernel)]; exact ⟨rfl, rfl⟩))
    (fun os started H enc _ => lifted os started H enc)

theorem proved : Rows.NoticeDoesSaid := over
end Go.Proofs.Ytehgfeflbkdjdaa.noticeDoes
namespace Go.Proofs.Ytehgfeflbkdjdaa
theorem noticeDoes_holds : Rows.NoticeDoesSaid := noticeDoes.proved
#print axioms noticeDoes_holds
end Go.Proofs.Ytehgfeflbkdjdaa
