/- EndpointDoes: for every list of acts, and every fate of the machine, the call ends and answers true: each answer of Send, Recv, Cancel and Clear, what the endpoint is at and who waits are what the chapter says. No condition beyond the statement's own. -/
import Derived.Test.YtenljiciiocagaaPln
import Derived.Deep.Cut
import Derived.Deep.DeepCutAuto
import Derived.Deep.CutBlock
import Derived.Deep.RegionHeld3
import Derived.Test.YtenljiciiocagaaArgs
import Derived.ProofKit
import Derived.OpenShut
import Derived.ShutString
import Derived.ChangeOld
import Derived.Below
import Derived.Deep.Slices
namespace Go.Proofs.Ytenljiciiocagaa.endpointDoes
open Go.ChangeShapes Go.WideShapes Go.ChangeAt Go.RowKit
set_option linter.unusedVariables false

theorem own : ownKnob Try.prog.godebug = none := by kernel_rfl
theorem laidOut : laidOutB Try.prog = true := by kernel_rfl

/-- Both endpoints, all new, at the same and with the same ids. -/
structure Ed (w0 w : World) (P R : Nat → Prop) (p q : Nat) (k : Int) (L : List Int) (n : Nat) : Prop where
  t : Tw (fun w O => PA w O p k L) (fun w O => RB w O q k L) w0 w P R
  nd : L.Nodup
  le : L.length ≤ n
abbrev LL (w0 w : World) (P R : Nat → Prop) (p q : Nat) (k : Int) (L : List Int) (m : Int) (D : List Int) : Prop := Tw (fun w O => PA w O p k L) (fun w O => RB w O q m D) w0 w P R
theorem pr {w0 w w' : World} {P R : Nat → Prop} {p q : Nat} {k m k' : Int} {L D L' : List Int} (h : LL w0 w P R p q k L m D) (T : PA w' (wide P w w') p k' L') (f : Fr P w w') : LL w0 w' (wide P w w') R p q k' L' m D := Tw.prog (A' := fun w O => PA w O p k' L') (kRB q m D) h T f
theorem dc {w0 w w' : World} {P R : Nat → Prop} {p q : Nat} {k m k' : Int} {L D L' : List Int} (h : LL w0 w P R p q k L m D) (T : RB w' (wide R w w') q k' L') (f : Fr R w w') : LL w0 w' P (wide R w w') p q k L k' L' := Tw.doc (B' := fun w O => RB w O q k' L') (kPA p k L) h T f
theorem kp {w0 w w' : World} {P R : Nat → Prop} {p q : Nat} {k m : Int} {L D : List Int} (h : LL w0 w P R p q k L m D) (g : w.grownBy w' none) : LL w0 w' P R p q k L m D := Tw.kept (kPA p k L) (kRB q m D) h g

set_option maxHeartbeats 8000000 in
set_option maxRecDepth 100000 in
theorem core (x0 : Option Addr) (len0 cap0 : Nat) (w : World) (hx0 : Acts3 w x0 len0) :
    Calls Try.prog 3 #[.slice x0 len0 cap0] w fun e w' => e = .returned (.bool true) ∧ w.grownBy w' none := by
  have HX := hideIt hx0
  clear hx0
  go_enter Try.func3, Try.ntmps3
  go_wp2_with fail
  refine (enew_is w).mono ?_
  rintro e w1 ⟨p, rfl, A1, g1⟩
  obtain ⟨W2, hW2⟩ : ∃ W2, w1.alloc (.cells #[.slice none 0 0, .bool false] 28) = W2 := ⟨_, rfl⟩
  have H2 : Hid (Ed w W2 (fun i => w.heap.size ≤ i ∧ i < w1.heap.size) (fun i => i = w1.heap.size) p w1.heap.size 0 [] 0) := hideIt (by
    have ga : w1.grownBy W2 none := by rw [← hW2]; exact gbAlloc _ _ _
    have hl : w1.heap.size < W2.heap.size := by rw [← hW2]; simp
    have hs := g1.size
    refine ⟨⟨A1.kept ga, ⟨false, ⟨⟨⟨.slice none 0 0, by rw [← hW2]; simp, Ls.nil _ _ _ _ _, fun k hk => by cases hk⟩, fun i => by rw [← hW2]; simp, hl, rfl⟩, by rw [← hW2]; simp⟩, rfl⟩, fun i hi => by omega, fun i hi => by subst hi; omega, fun i hi e => by omega, gbTrans g1 ga⟩, by simp, by simp⟩)
  obtain ⟨q, hq⟩ : ∃ q, w1.heap.size = q := ⟨_, rfl⟩
  rw [hq] at H2
  clear A1 g1
  go_wp2_with fail
  clear hW2 hq
  go_loopg [5] 100 (fun gk i wr => ∃ (j : Nat) (P R : Nat → Prop) (k : Int) (L : List Int), j + gk = 100 ∧ i = .int .i64 j ∧ Hid (Ed w wr P R p q k L j))
  case atStart => exact ⟨0, _, _, 0, [], rfl, rfl, H2⟩
  case round =>
    obtain ⟨j, P, R, k, L, hj, rfl, H⟩ := hrel
    clear H2
    by_cases hlt : j < len0 ∧ j < 100
    · obtain ⟨c1, c2⟩ := hlt
      obtain ⟨x, r, rfl, hE⟩ := HX.out j c1
      have hdj : decide ((j : Int) < 100) = true := by simp; omega
      obtain ⟨r0, r1, r2⟩ := hE.kept H.out.t.gr
      have hL := H.out.le
      clear hE
      go_upto_region 8 with fail
      obtain ⟨W, hW, Y, gY⟩ := qboxNew wr r
      rw [hW]
      clear hW r0 r1 r2
      have hyP : ¬ P wr.heap.size := fun e => by have := (H.out.t.lo _ e).2; omega
      have hyR : ¬ R wr.heap.size := fun e => by have := (H.out.t.lr _ e).2; omega
      have H0 := hideIt (kp H.out.t gY)
      have hnd := hideIt H.out.nd
      obtain ⟨y, hy⟩ : ∃ y, wr.heap.size = y := ⟨_, rfl⟩
      rw [hy] at Y hyP hyR
      rw [hy]
      clear hy gY H
      replace Y := hideIt Y
      obtain ⟨r0, r1, r2, _⟩ := id Y.out
      go_upto_block 2 with fail
      go_cut [7, 8, 9, 10, 11, 12, 13, 14, 15, 16, 17, 18] from 44 to 132 (fun _ _ _ _ _ _ _ _ _ _ _ _ wc => ∃ (P R : Nat → Prop) (k : Int) (L : List Int), Hid (Ed w wc P R p q k L (j + 1)))
      case first =>
        by_cases k0 : (r.k == 0) = true
        · have k0 : (r.k == 0) = true := k0
          obtain ⟨xa, hxa⟩ : ∃ v, M.ex k L 2 r.i = v := ⟨_, rfl⟩
          obtain ⟨xb, hxb⟩ : ∃ v, M.eb k L 2 r.i = v := ⟨_, rfl⟩
          obtain ⟨xf, hxf⟩ : ∃ v, M.pe L r.i = v := ⟨_, rfl⟩
          replace hxa := hideIt hxa
          replace hxb := hideIt hxb
          replace hxf := hideIt hxf
          go_wp2_with fail
          refine (send_is H0.out.a (by omega) hnd.out r.i r.b xa xb xf hxa.out hxb.out hxf.out).mono ?_
          rintro e w6 ⟨rfl, Z6, F6⟩
          have H6 := hideIt (pr H0.out Z6 F6)
          have Y6 := Y.out.fr F6 hyP
          obtain ⟨_, r1, r2, _⟩ := id Y6
          clear Z6 F6
          go_wp2_with fail
          refine (rsend_is H6.out.b (by omega) r.i r.b xa xb xf hxa.out hxb.out hxf.out).mono ?_
          rintro e w7 ⟨rfl, Z7, F7⟩
          have H7 := hideIt (dc H6.out Z7 F7)
          clear Z7 F7 H6 Y6 r1 r2
          go_wp2
          go_meet
          exact ⟨_, _, _, _, hideIt ⟨H7.out, M.el_nodup hnd.out, by have := M.el_len k 2 r.i L r.b; omega⟩⟩
        · have k0 : (r.k == 0) = false := by simpa using k0
          by_cases k1 : (r.k == 1) = true
          · have k1 : (r.k == 1) = true := k1
            obtain ⟨xa, hxa⟩ : ∃ v, M.ex k L 1 r.i = v := ⟨_, rfl⟩
            obtain ⟨xb, hxb⟩ : ∃ v, M.eb k L 1 r.i = v := ⟨_, rfl⟩
            obtain ⟨xf, hxf⟩ : ∃ v, M.pe L r.i = v := ⟨_, rfl⟩
            replace hxa := hideIt hxa
            replace hxb := hideIt hxb
            replace hxf := hideIt hxf
            go_wp2_with fail
            refine (recv_is H0.out.a (by omega) hnd.out r.i r.b xa xb xf hxa.out hxb.out hxf.out).mono ?_
            rintro e w6 ⟨rfl, Z6, F6⟩
            have H6 := hideIt (pr H0.out Z6 F6)
            have Y6 := Y.out.fr F6 hyP
            obtain ⟨_, r1, r2, _⟩ := id Y6
            clear Z6 F6
            go_wp2_with fail
            refine (rrecv_is H6.out.b (by omega) r.i r.b xa xb xf hxa.out hxb.out hxf.out).mono ?_
            rintro e w7 ⟨rfl, Z7, F7⟩
            have H7 := hideIt (dc H6.out Z7 F7)
            clear Z7 F7 H6 Y6 r1 r2
            go_wp2
            go_meet
            exact ⟨_, _, _, _, hideIt ⟨H7.out, M.el_nodup hnd.out, by have := M.el_len k 1 r.i L r.b; omega⟩⟩
          · have k1 : (r.k == 1) = false := by simpa using k1
            by_cases k2 : (r.k == 2) = true
            · obtain ⟨b, hb⟩ : ∃ b, L.contains r.i = b := ⟨_, rfl⟩
              replace hb := hideIt hb
              have gd := gbDrew (gbRefl W none)
              have Hd := hideIt (kp H0.out gd)
              have T1 := (Y.out.kept gd).at1
              go_upto_region 20 with fail
              go_region_held3 (fun w' => w'.cell? ⟨y, 1, none⟩ = some (.int .i64 r.i))
                (first | with_reducible exact r1 | with_reducible exact T1 | with_reducible exact T6 | with_reducible exact T7 | fail)
                ((first
                  | (go_at_call 12; refine (rcancel_is H6.out.b (by omega) hnd.out r.i b hb.out).mono ?_; rintro e w7 ⟨rfl, Z7, F7⟩; have H7 := hideIt (dc H6.out Z7 F7); have T7 := (Y6.out.fr F7 hyR).at1; clear Z7 F7)
                  | (go_at_call 11; refine (cancel_is Hd.out.a (by omega) hnd.out r.i b hb.out).mono ?_; rintro e w6 ⟨rfl, Z6, F6⟩; have H6 := hideIt (pr Hd.out Z6 F6); have Y6 := hideIt ((Y.out.kept gd).fr F6 hyP); have T6 := Y6.out.at1; clear Z6 F6)))
              rename_i hold
              clear hold r0 r1 r2 T1 T6 T7
              go_wp2
              go_meet
              exact ⟨_, _, _, _, hideIt ⟨H7.out, M.wo_nodup hnd.out, by have := M.wo_len L r.i; omega⟩⟩
            · have k2 : (r.k == 2) = false := by simpa using k2
              by_cases k3 : (r.k == 3) = true
              · have hR7 := hideIt (fun i hi => (H0.out.lr i hi).2)
                go_wp2_with fail
                refine (clear_is H0.out.a (by omega)).mono ?_
                rintro e w6 ⟨v6, rfl, l6, o6, Z6, F6⟩
                have H6 := hideIt (pr H0.out Z6 F6)
                have l6 := hideIt l6
                have o6 := hideIt o6
                clear Z6 F6 r0 r1 r2
                go_wp2_with fail
                refine (rclear_is H6.out.b).mono ?_
                rintro e w7 ⟨v7, rfl, l7, Z7, F7⟩
                have H7 := hideIt (dc H6.out Z7 F7)
                have l67 := hideIt (l6.out.fr F7 (fun j hj e => by have := hR7.out j e; have := o6.out j hj; omega))
                have l7 := hideIt l7
                clear Z7 F7 H6
                go_wp2_with fail
                refine (same_is l67.out l7.out (by omega)).mono ?_
                rintro e w8 ⟨rfl, g8⟩
                have H8 := hideIt (kp H7.out g8)
                clear g8 H7 l67 l7 l6 o6
                go_wp2
                go_meet
                exact ⟨_, _, _, _, hideIt ⟨H8.out, by simp, by simp⟩⟩
              · have k3 : (r.k == 3) = false := by simpa using k3
                clear r1 r2
                go_wp2
                go_meet
                exact ⟨_, _, _, _, hideIt ⟨H0.out, hnd.out, by omega⟩⟩
      case rest =>
        obtain ⟨P', R', k', L', H'⟩ := hcut
        clear H0 r0 r1 r2 hL hnd hyP hyR Y
        have hL := H'.out.le
        go_wp2_with fail
        refine (state_is H'.out.t.a (by omega)).mono ?_
        rintro e w3 ⟨v3, rfl, l3, g3⟩
        have H3 := hideIt (kp H'.out.t g3)
        have l3 := hideIt l3
        clear g3
        go_wp2_with fail
        refine (rstate_is H3.out.b (by omega)).mono ?_
        rintro e w4 ⟨v4, rfl, l4, g4⟩
        have H4 := hideIt (kp H3.out g4)
        have l4 := hideIt l4
        have l34 := hideIt (l3.out.kept g4)
        clear g4 H3
        go_wp2_with fail
        refine (same_is l34.out l4.out (by omega)).mono ?_
        rintro e w5 ⟨rfl, g5⟩
        have H5 := hideIt (kp H4.out g5)
        clear g5 H4 l34 l4
        go_wp2
        go_roundg (gk - 1)
        case rel => exact ⟨j + 1, _, _, _, _, by omega, by go_num, hideIt ⟨H5.out, H'.out.nd, H'.out.le⟩⟩
        case measure => omega
    · go_upto_region 5 with fail
      go_cut [35] from 28 to 35 (fun s wc => s = .bool false ∧ wc = wr)
      case first =>
        by_cases k1 : (j : Int) < (len0 : Int)
        · have k2 : ¬ (j : Int) < 100 := by omega
          go_wp2
          go_meet
          exact ⟨rfl, rfl⟩
        · go_wp2
          go_meet
          exact ⟨rfl, rfl⟩
      case rest =>
      obtain ⟨rfl, rfl⟩ := hcut
      go_wp2
      go_ret
      exact ⟨rfl, H.out.t.gr⟩

theorem walk (x0 : Option Addr) (len0 cap0 : Nat) (w : World) (hx0 : Acts3 w x0 len0) :
    Calls Try.prog 3 #[.slice x0 len0 cap0] w fun e w' => e = .returned (.bool true) ∧ Below w.heap.size w w' := endWalk (core x0 len0 cap0 w hx0)

set_option maxRecDepth 100000 in
theorem lifted (os : Os) (started : os.Started) (H : Type) (enc : TypeId × Value → H) :
    ReturnsInHanded {} Try.checked os 3 .any (Rows.endpointDoesSpec.pre6 enc Try.prog Try.f3 Rows.endpointDoesRow.domain false) (Rows.endpointDoesSpec.post enc Try.prog Try.f3 false true false false) := by
  refine returnsInHanded_of_change (C := Try.checked) own started (by kernel_rfl) Try.func3
    (ChangeSpec.witness6 (enc := enc) (C := Try.checked) false ⟨#[], #[.slice none 0 0], []⟩ 8 (by kernel_rfl) (by kernel_rfl) (by kernel_rfl) (by kernel_rfl)) ?_
  intro W base args ds gs before hval0 hW hcnd _
  have hval : ∀ (j : Nat) t v, Try.f3.params[j]? = some t → args[j]? = some v → Value.okWide Try.prog W .any base t v := hval0
  have hW' := hW
  obtain ⟨p, q, hA0, hV, rfl, hfz, hnd⟩ := hW
  have hA : DataW.TrodAll enc Try.prog W 0 (fun _ => true) true Try.f3.params.toList args.toList ds p := hA0
  rw [Try.params3] at hA hval
  obtain ⟨v0, vs0, d0, ds0, p0, q0, hargs, rfl, rfl, h0, r0⟩ := trodAll_cons hA
  obtain ⟨rfl, rfl, rfl⟩ := trodAll_nil r0
  obtain rfl : args = #[v0] := by cases args; simp_all
  obtain ⟨rfl, rfl⟩ := trodVars_none hV
  obtain ⟨x0, len0, cap0, rfl⟩ := okWide_slice Try.underlying22 (hval 0 22 v0 rfl rfl)
  have hx0 := opsArg h0
  have k0 := h0
  have lt0 : ∀ x ∈ p0, x.block < W.heap.size := by obtain ⟨m, hm⟩ := k0; exact DataW.trod_lt m _ _ _ hm
  clear hA0 hval0
  refine (walk x0 len0 cap0 W hx0).mono fun e W' ⟨he, bel⟩ => ?_
  subst he
  exact ⟨_, rfl, _, _, _, [], _, [], hW', trodAll_mk1 (shut_bool Try.underlying4 _), (trodAll_cons_mk (Below.trod laidOut (by kernel_rfl) (of_decide_eq_true (by kernel_rfl)) k0 bel lt0) trodAll_mk0), rfl, bel.frame _, fun h => by cases h⟩

theorem over : Rows.endpointDoesRow.holds Try.pinned (OpenSpec.ofChange Rows.endpointDoesSpec) :=
  OpenClaim.holds_of_wide 3 Try.f3 rfl rfl rfl rfl rfl rfl rfl ⟨rfl, rfl, rfl, rfl, rfl⟩ rfl rfl rfl rfl rfl (by kernel_rfl) Try.func3 (by kernel_rfl)
    (of_decide_eq_true (by kernel_rfl)) (by unfold Func.isWrapper; first | (rw [if_pos (by decide +kernel)]; kernel_rfl) | (rw [if_neg (by decide +kernel)]; exact ⟨rfl, rfl⟩))
    (fun os started H enc _ => lifted os started H enc)

theorem proved : Rows.EndpointDoesSaid := over
end Go.Proofs.Ytenljiciiocagaa.endpointDoes
namespace Go.Proofs.Ytenljiciiocagaa
theorem endpointDoes_holds : Rows.EndpointDoesSaid := endpointDoes.proved
#print axioms endpointDoes_holds
end Go.Proofs.Ytenljiciiocagaa
