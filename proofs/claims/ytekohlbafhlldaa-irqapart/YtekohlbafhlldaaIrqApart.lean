/- IrqApart: of two runs that agree in all acts on one domain's lines, and differ in whatever is done with the other domain's, that domain takes and acks the same. For every input, no condition. -/
import Derived.Test.YtekohlbafhlldaaApl
import Derived.Deep.Cut
import Derived.Deep.CutRange
import Derived.Deep.CutBlock
import Derived.Deep.DeepCutAuto
import Derived.Deep.RegionHeld3
import Derived.Deep.LoopGhost
import Derived.Test.YtekohlbafhlldaaArgs
import Derived.ProofKit
import Derived.OpenShut
import Derived.ShutString
import Derived.ChangeOld
import Derived.Below
import Derived.Deep.Slices
namespace Go.Proofs.Ytekohlbafhlldaa.irqApart
open Go.ChangeShapes Go.WideShapes Go.ChangeAt Go.RowKit
set_option linter.unusedVariables false

theorem own : ownKnob Try.prog.godebug = none := by kernel_rfl
theorem laidOut : laidOutB Try.prog = true := by kernel_rfl

set_option maxHeartbeats 8000000 in
set_option maxRecDepth 100000 in
theorem core (x0 : Option Addr) (len0 cap0 : Nat) (x1 : Option Addr) (len1 cap1 : Nat) (a2 : Int) (w : World) (hx0 : Acts3 w x0 len0) (hx1 : Acts3 w x1 len1) :
    Calls Try.prog 5 #[.slice x0 len0 cap0, .slice x1 len1 cap1, .int .i64 a2] w fun e w' => e = .returned (.bool true) ∧ w.grownBy w' none := by
  have HX := hideIt hx0
  have HY := hideIt hx1
  clear hx0 hx1
  obtain ⟨U, d, q1, q2, hd⟩ := modArg a2 4 (by decide)
  replace q2 : (U : Int) % 4 = (d : Int) := q2
  go_enter Try.func5, Try.ntmps5
  go_wp2_with fail
  refine (works_is w).mono ?_
  rintro e wa ⟨rfl, ga⟩
  replace ga := hideIt ga
  go_wp2_with fail
  clear q1 q2
  obtain ⟨e, he⟩ : ∃ e : Nat, e = (d + 1) % 4 := ⟨_, rfl⟩
  obtain ⟨d1, hd1⟩ : ∃ d1 : Nat, d1 = d + 1 := ⟨_, rfl⟩
  have z4 : (d : Int) + 1 = (d1 : Int) := by omega
  have z5 : (d1 : Int) % 4 = (e : Int) := by omega
  have hne : Hid ((d : Int) ≠ (e : Int)) := hideIt (by omega)
  have he4 : e < 4 := by omega
  clear he hd1
  refine (new_is wa).mono ?_
  rintro e' w1 ⟨p, rfl, g1, A1⟩
  replace A1 := hideIt A1
  replace g1 := hideIt g1
  go_wp2_with fail
  refine (new_is w1).mono ?_
  rintro e' w2 ⟨q, rfl, g2, A2⟩
  obtain ⟨P, hP⟩ : ∃ P : Nat → Prop, (fun k => wa.heap.size ≤ k ∧ k < w1.heap.size) = P := ⟨_, rfl⟩
  obtain ⟨R, hR⟩ : ∃ R : Nat → Prop, (fun k => w1.heap.size ≤ k ∧ k < w2.heap.size) = R := ⟨_, rfl⟩
  have H0 : Hid (S2 w w2 P R p q (M.oj d e 0) (M.oj d e 0)) := hideIt (by
    subst hP
    subst hR
    rw [M.oj0]
    have s0 := ga.out.size
    have s1 := g1.out.size
    have s2 := g2.size
    exact ⟨A1.out.kept g2, A2, fun k hk => by omega, fun k hk => by omega, fun k hk e => by omega, gbTrans (gbTrans ga.out g1.out) g2⟩)
  clear A1 A2 hP hR g1 g2
  go_wp2_with fail
  go_loopg [9] 8 (fun gk s wr => ∃ j : Nat, j + gk = 8 ∧ s = .int .i64 j ∧ Hid (S2 w wr P R p q (M.oj d e j) (M.oj d e j)))
  case atStart => exact ⟨0, rfl, rfl, H0⟩
  case round =>
    obtain ⟨j, hj, rfl, H⟩ := hrel
    clear H0
    by_cases hlt : j < 8
    · by_cases c : j % 2 = 1
      · have cj1 : (j : Int).tmod 2 = 1 := by rw [Int.tmod_eq_emod_of_nonneg (by omega)]; omega
        have cj2 : (j : Int) % 2 = 1 := by omega
        have e1 := hideIt (M.ojS d e j hlt e (by rw [if_pos c]) (by omega) (by omega))
        go_wp2_with fail
        refine (own_is H.out.a j e 0 e1.out.1).mono ?_
        rintro e' w3 ⟨rfl, Z, F⟩
        rw [e1.out.2] at Z
        have H3 := hideIt (H.out.pr Z F)
        clear Z F
        go_wp2_with fail
        refine (own_is H3.out.b j e 0 e1.out.1).mono ?_
        rintro e' w4 ⟨rfl, Z, F⟩
        rw [e1.out.2] at Z
        have H4 := hideIt (H3.out.dc Z F)
        clear Z F H3 e1
        go_wp2
        go_roundg (gk - 1)
        case rel => exact ⟨j + 1, by omega, by go_num, H4⟩
        case measure => omega
      · have cj1 : (j : Int).tmod 2 = 0 := by rw [Int.tmod_eq_emod_of_nonneg (by omega)]; omega
        have cj2 : (j : Int) % 2 = 0 := by omega
        have e1 := hideIt (M.ojS d e j hlt d (by rw [if_neg c]) (by omega) (by omega))
        go_wp2_with fail
        refine (own_is H.out.a j d 0 e1.out.1).mono ?_
        rintro e' w3 ⟨rfl, Z, F⟩
        rw [e1.out.2] at Z
        have H3 := hideIt (H.out.pr Z F)
        clear Z F
        go_wp2_with fail
        refine (own_is H3.out.b j d 0 e1.out.1).mono ?_
        rintro e' w4 ⟨rfl, Z, F⟩
        rw [e1.out.2] at Z
        have H4 := hideIt (H3.out.dc Z F)
        clear Z F H3 e1
        go_wp2
        go_roundg (gk - 1)
        case rel => exact ⟨j + 1, by omega, by go_num, H4⟩
        case measure => omega
    · obtain rfl : j = 8 := by omega
      obtain ⟨wo, rfl⟩ : ∃ wo, wo = wr := ⟨_, rfl⟩
      have H1 : Hid (Rl w wo P R p q d e (M.oj d e 8) (M.oj d e 8)) := hideIt ⟨H.out, M.Ap.begin _ _ hne.out (by omega)⟩
      clear H hlt
      go_wp2_with fail
      go_loopg [11] 60 (fun gk s wr => ∃ (j : Nat) (i i' : I), j + gk = 60 ∧ s = .int .i64 j ∧ Hid (Rl w wr P R p q d e i i'))
      case atStart => exact ⟨0, _, _, rfl, rfl, H1⟩
      case round =>
        obtain ⟨j, i, i', hj, rfl, H⟩ := hrel
        clear H1
        by_cases hlt : j < len0 ∧ j < 60
        · obtain ⟨c1, c2⟩ := hlt
          obtain ⟨x, r, rfl, hE⟩ := HX.out j c1
          have hdj : decide ((j : Int) < 60) = true := by simp; omega
          obtain ⟨r0, r1, r2⟩ := hE.kept H.out.t.gr
          clear hE
          go_upto_region 17 with fail
          obtain ⟨V, hV, Y, gY⟩ := QF.made wr r
          rw [hV]
          clear hV r0 r1 r2
          have hy0 : Hid (w.heap.size ≤ wr.heap.size) := hideIt H.out.t.gr.size
          have hyP : ¬ P wr.heap.size := fun e => by have := (H.out.t.lo _ e).2; omega
          have hyR : ¬ R wr.heap.size := fun e => by have := (H.out.t.lr _ e).2; omega
          have H0 : Hid (Rl w V P R p q d e i i') := hideIt ⟨H.out.t.kp gY, H.out.ap⟩
          obtain ⟨y, hy⟩ : ∃ y, wr.heap.size = y := ⟨_, rfl⟩
          rw [hy] at Y hyP hyR hy0
          rw [hy]
          clear hy gY H
          replace Y := hideIt Y
          go_upto_if 62 with fail
          go_cut [13] from 62 to 93 (fun _ wc => ∃ i' : I, Hid (Rl w wc P R p q d e i i') ∧ Hid (QF wc y r))
          case first =>
            by_cases c3 : j < len1
            · obtain ⟨x', r', rfl, hE⟩ := HY.out j c3
              obtain ⟨r0, r1, r2⟩ := hE.kept H0.out.t.gr
              clear hE
              have c3' : (j : Int) < (len1 : Int) := by omega
              go_upto_region 19 with fail
              obtain ⟨V2, hV2, Y2, gY2⟩ := QF.made V r'
              rw [hV2]
              clear hV2 r0 r1 r2
              have hz0 : Hid (w.heap.size ≤ V.heap.size) := hideIt H0.out.t.gr.size
              have hzP : ¬ P V.heap.size := fun e => by have := (H0.out.t.lo _ e).2; omega
              have hzR : ¬ R V.heap.size := fun e => by have := (H0.out.t.lr _ e).2; omega
              have hzy : Hid (y ≠ V.heap.size) := hideIt (by have := Y.out.q.lt; omega)
              have H2 : Hid (S2 w V2 P R p q i i') := hideIt (H0.out.t.kp gY2)
              have Yb := hideIt (Y.out.kept gY2)
              obtain ⟨z, hz⟩ : ∃ z, V.heap.size = z := ⟨_, rfl⟩
              rw [hz] at Y2 hzP hzR hzy hz0
              rw [hz]
              clear hz gY2
              have r0 := Y2.q.at0
              have r1 := Y2.q.at1
              have f1 := Y2.f
              obtain ⟨U2, m, u1, u2, hm⟩ := modArg r'.n 4 (by decide)
              replace u2 : (U2 : Int) % 4 = (m : Int) := u2
              obtain ⟨m2, hm2⟩ : ∃ m2 : Nat, m2 = 2 * m := ⟨_, rfl⟩
              obtain ⟨n, hn⟩ : ∃ n : Nat, n = m2 + 1 := ⟨_, rfl⟩
              have u3 : 2 * (m : Int) = (m2 : Int) := by omega
              have u4 : (m2 : Int) + 1 = (n : Int) := by omega
              have n8 : n < 8 := by omega
              have n2 : n % 2 = 1 := by omega
              clear hm2 hn
              obtain ⟨W, hW, Y3, gW⟩ := Y2.q.setN n
              have t0 := Y3.at0
              have t1 := Y3.at1
              have H3 : Hid (S2 w W P R p q i i') := hideIt (H2.out.aside gW hz0.out hzP hzR)
              have Yc : Hid (QF W y r) := hideIt (Yb.out.fr (O := fun k => k = z) (Fr.at gW rfl) hzy.out)
              clear Y2 Y3 gW H2 Yb
              go_upto_block 4 with fail
              clear u1 u2 u3 u4 r0 r1 f1
              by_cases k1 : (r'.k == 1) = true
              · have k1 : (r'.k == 1) = true := k1
                obtain ⟨f, hf⟩ : ∃ f, M.re (n : Int) = f := ⟨_, rfl⟩
                go_wp2_with fail
                refine (rraise_is H3.out.b n f hf).mono ?_
                rintro e' w6 ⟨rfl, Z6, F6⟩
                have H6 := hideIt (H3.out.dc Z6 F6)
                have Y6 := hideIt (Yc.out.fr F6 hyR)
                clear Z6 F6 t0 t1
                go_wp2
                go_meet
                exact ⟨_, hideIt ⟨H6.out, H0.out.ap.oraise n n8 n2⟩, Y6⟩
              · have k1 : (r'.k == 1) = false := by simpa using k1
                by_cases k2 : (r'.k == 2) = true
                · have k2 : (r'.k == 2) = true := k2
                  obtain ⟨t, ht⟩ := M.nx_some i' (e : Int)
                  obtain ⟨f, hf⟩ : ∃ f, M.nn t = f := ⟨_, rfl⟩
                  obtain ⟨b, hb⟩ : ∃ b, t.isSome = b := ⟨_, rfl⟩
                  replace ht := hideIt ht
                  replace hf := hideIt hf
                  replace hb := hideIt hb
                  go_wp2_with fail
                  refine (next_is H3.out.b e t ht.out f b hf.out hb.out).mono ?_
                  rintro e' w6 ⟨rfl, Z6, F6⟩
                  have H6 := hideIt (H3.out.dc Z6 F6)
                  have Y6 := hideIt (Yc.out.fr F6 hyR)
                  clear Z6 F6 t0 t1
                  go_wp2
                  go_meet
                  exact ⟨_, hideIt ⟨H6.out, H0.out.ap.onext t ht.out⟩, Y6⟩
                · have k2 : (r'.k == 2) = false := by simpa using k2
                  obtain ⟨f, hf⟩ : ∃ f, M.ae i' (n : Int) = f := ⟨_, rfl⟩
                  replace hf := hideIt hf
                  go_wp2_with fail
                  refine (ack_is H3.out.b n f hf.out).mono ?_
                  rintro e' w6 ⟨rfl, Z6, F6⟩
                  have H6 := hideIt (H3.out.dc Z6 F6)
                  have Y6 := hideIt (Yc.out.fr F6 hyR)
                  clear Z6 F6 t0 t1
                  go_wp2
                  go_meet
                  exact ⟨_, hideIt ⟨H6.out, H0.out.ap.oack n n8 n2⟩, Y6⟩
            · have c3' : ¬ (j : Int) < (len1 : Int) := by omega
              go_wp2
              go_meet
              exact ⟨_, H0, Y⟩
          case rest =>
            obtain ⟨i', H', Y'⟩ := hcut
            clear H0 Y
            have r0 := Y'.out.q.at0
            have r1 := Y'.out.q.at1
            have f1 := Y'.out.f
            obtain ⟨U2, m, u1, u2, hm⟩ := modArg r.n 4 (by decide)
            replace u2 : (U2 : Int) % 4 = (m : Int) := u2
            obtain ⟨n, hn⟩ : ∃ n : Nat, n = 2 * m := ⟨_, rfl⟩
            have u3 : 2 * (m : Int) = (n : Int) := by omega
            have n8 : n < 8 := by omega
            have n2 : n % 2 = 0 := by omega
            clear hn
            obtain ⟨W, hW, Y3, gW⟩ := Y'.out.q.setN n
            have H3 : Hid (S2 w W P R p q i i') := hideIt (H'.out.t.aside gW hy0.out hyP hyR)
            have ap := hideIt H'.out.ap
            have t0 := Y3.at0
            have t1 := Y3.at1
            replace Y3 := hideIt Y3
            clear gW H' Y'
            go_upto_block 5 with fail
            clear u1 u2 u3 r0 r1 f1
            by_cases k1 : (r.k == 1) = true
            · have k1 : (r.k == 1) = true := k1
              obtain ⟨f, hf⟩ : ∃ f, M.re (n : Int) = f := ⟨_, rfl⟩
              replace hf := hideIt hf
              go_wp2_with fail
              refine (rraise_is H3.out.a n f hf.out).mono ?_
              rintro e' w6 ⟨rfl, Z6, F6⟩
              have H6 := hideIt (H3.out.pr Z6 F6)
              have Y6 := hideIt (Y3.out.fr F6 hyP)
              clear Z6 F6 t0 t1
              have t1 := Y6.out.at1
              go_wp2_with fail
              refine (rraise_is H6.out.b n f hf.out).mono ?_
              rintro e' w7 ⟨rfl, Z7, F7⟩
              have H7 := hideIt (H6.out.dc Z7 F7)
              clear Z7 F7 t1
              go_wp2
              go_roundg (60 - (j + 1))
              case rel => exact ⟨j + 1, _, _, by omega, by go_num, hideIt ⟨H7.out, ap.out.raise _⟩⟩
              case measure => omega
            · have k1 : (r.k == 1) = false := by simpa using k1
              by_cases k2 : (r.k == 2) = true
              · have k2 : (r.k == 2) = true := k2
                obtain ⟨t, ht⟩ := M.nx_some i (d : Int)
                obtain ⟨f, hf⟩ : ∃ f, M.nn t = f := ⟨_, rfl⟩
                obtain ⟨b, hb⟩ : ∃ b, t.isSome = b := ⟨_, rfl⟩
                have nx := hideIt (ap.out.next t ht)
                replace ht := hideIt ht
                replace hf := hideIt hf
                replace hb := hideIt hb
                go_wp2_with fail
                refine (next_is H3.out.a d t ht.out f b hf.out hb.out).mono ?_
                rintro e' w6 ⟨rfl, Z6, F6⟩
                have H6 := hideIt (H3.out.pr Z6 F6)
                clear Z6 F6 t0 t1
                go_wp2_with fail
                refine (next_is H6.out.b d t nx.out.1 f b hf.out hb.out).mono ?_
                rintro e' w7 ⟨rfl, Z7, F7⟩
                have H7 := hideIt (H6.out.dc Z7 F7)
                clear Z7 F7
                go_wp2
                go_roundg (60 - (j + 1))
                case rel => exact ⟨j + 1, _, _, by omega, by go_num, hideIt ⟨H7.out, nx.out.2⟩⟩
                case measure => omega
              · have k2 : (r.k == 2) = false := by simpa using k2
                obtain ⟨f, hf⟩ : ∃ f, M.ae i (n : Int) = f := ⟨_, rfl⟩
                have ak := hideIt (ap.out.ack n n8 n2)
                have hf2 := hideIt (ak.out.1.symm.trans hf)
                replace hf := hideIt hf
                have gdr := gbDrew (gbRefl W none)
                have Hd := hideIt (H3.out.kp gdr)
                have Yd := hideIt (Y3.out.kept gdr)
                have td := Yd.out.at1
                go_upto_region 28 with fail
                go_region_held3 (fun w' => w'.cell? ⟨y, 1, none⟩ = some (.int .i64 (n : Int)))
                  (first | with_reducible exact t1 | with_reducible exact td | with_reducible exact T6 | with_reducible exact T7 | fail)
                  ((go_at_call 15; first
                    | (refine (ack_is H6.out.b n f hf2.out).mono ?_; rintro e' w7 ⟨rfl, Z7, F7⟩; have H7 := hideIt (H6.out.dc Z7 F7); have T7 := (Y6.out.fr F7 hyR).at1; clear Z7 F7)
                    | (refine (ack_is Hd.out.a n f hf.out).mono ?_; rintro e' w6 ⟨rfl, Z6, F6⟩; have H6 := hideIt (Hd.out.pr Z6 F6); have Y6 := hideIt (Yd.out.fr F6 hyP); have T6 := Y6.out.at1; clear Z6 F6)))
                rename_i hold
                clear hold T6 T7 t0 t1 td
                go_wp2
                go_roundg (60 - (j + 1))
                case rel => exact ⟨j + 1, _, _, by omega, by go_num, hideIt ⟨H7.out, ak.out.2⟩⟩
                case measure => omega
        · go_upto_region 14 with fail
          by_cases k1 : (j : Int) < (len0 : Int)
          · have k2 : ¬ (j : Int) < 60 := by omega
            go_wp2
            go_ret
            exact ⟨rfl, H.out.t.gr⟩
          · go_wp2
            go_ret
            exact ⟨rfl, H.out.t.gr⟩

theorem walk (x0 : Option Addr) (len0 cap0 : Nat) (x1 : Option Addr) (len1 cap1 : Nat) (a2 : Int) (w : World) (hx0 : Acts3 w x0 len0) (hx1 : Acts3 w x1 len1) :
    Calls Try.prog 5 #[.slice x0 len0 cap0, .slice x1 len1 cap1, .int .i64 a2] w fun e w' => e = .returned (.bool true) ∧ Below w.heap.size w w' := endWalk (core x0 len0 cap0 x1 len1 cap1 a2 w hx0 hx1)

set_option maxRecDepth 100000 in
theorem lifted (os : Os) (started : os.Started) (H : Type) (enc : TypeId × Value → H) :
    ReturnsInHanded {} Try.checked os 5 .any (Rows.irqApartSpec.pre6 enc Try.prog Try.f5 Rows.irqApartRow.domain false) (Rows.irqApartSpec.post enc Try.prog Try.f5 false true false false) := by
  refine returnsInHanded_of_change (C := Try.checked) own started (by kernel_rfl) Try.func5
    (ChangeSpec.witness6 (enc := enc) (C := Try.checked) false ⟨#[], #[.slice none 0 0, .slice none 0 0, .int .i64 0], []⟩ 8 (by kernel_rfl) (by kernel_rfl) (by kernel_rfl) (by kernel_rfl)) ?_
  intro W base args ds gs before hval0 hW hcnd _
  have hval : ∀ (j : Nat) t v, Try.f5.params[j]? = some t → args[j]? = some v → Value.okWide Try.prog W .any base t v := hval0
  have hW' := hW
  obtain ⟨p, q, hA0, hV, rfl, hfz, hnd⟩ := hW
  have hA : DataW.TrodAll enc Try.prog W 0 (fun _ => true) true Try.f5.params.toList args.toList ds p := hA0
  rw [Try.params5] at hA hval
  obtain ⟨v0, vs0, d0, ds0, p0, q0, hargs, rfl, rfl, h0, r0⟩ := trodAll_cons hA
  obtain ⟨v1, vs1, d1, ds1, p1, q1, rfl, rfl, rfl, h1, r1⟩ := trodAll_cons r0
  obtain ⟨v2, vs2, d2, ds2, p2, q2, rfl, rfl, rfl, h2, r2⟩ := trodAll_cons r1
  obtain ⟨rfl, rfl, rfl⟩ := trodAll_nil r2
  obtain rfl : args = #[v0, v1, v2] := by cases args; simp_all
  obtain ⟨rfl, rfl⟩ := trodVars_none hV
  obtain ⟨x0, len0, cap0, rfl⟩ := okWide_slice Try.underlying22 (hval 0 22 v0 rfl rfl)
  have hx0 := opsArg h0
  have k0 := h0
  have lt0 : ∀ x ∈ p0, x.block < W.heap.size := by obtain ⟨m, hm⟩ := k0; exact DataW.trod_lt m _ _ _ hm
  obtain ⟨x1, len1, cap1, rfl⟩ := okWide_slice Try.underlying22 (hval 1 22 v1 rfl rfl)
  have hx1 := opsArg h1
  have k1 := h1
  have lt1 : ∀ x ∈ p1, x.block < W.heap.size := by obtain ⟨m, hm⟩ := k1; exact DataW.trod_lt m _ _ _ hm
  obtain ⟨a2, rfl, rfl, rfl, w2⟩ := open_int Try.underlying3 (hval 2 3 v2 rfl rfl) h2
  clear hA0 hval0
  refine (walk x0 len0 cap0 x1 len1 cap1 a2 W hx0 hx1).mono fun e W' ⟨he, bel⟩ => ?_
  subst he
  exact ⟨_, rfl, _, _, _, [], _, [], hW', trodAll_mk1 (shut_bool Try.underlying4 _), (trodAll_cons_mk (Below.trod laidOut (by kernel_rfl) (of_decide_eq_true (by kernel_rfl)) k0 bel lt0) (trodAll_cons_mk (Below.trod laidOut (by kernel_rfl) (of_decide_eq_true (by kernel_rfl)) k1 bel lt1) (trodAll_cons_mk (shut_int Try.underlying3 w2) trodAll_mk0))), rfl, bel.frame _, fun h => by cases h⟩

theorem over : Rows.irqApartRow.holds Try.pinned (OpenSpec.ofChange Rows.irqApartSpec) :=
  OpenClaim.holds_of_wide 5 Try.f5 rfl rfl rfl rfl rfl rfl rfl ⟨rfl, rfl, rfl, rfl, rfl⟩ rfl rfl rfl rfl rfl (by kernel_rfl) Try.func5 (by kernel_rfl)
    (of_decide_eq_true (by kernel_rfl)) (by unfold Func.isWrapper; first | (rw [if_pos (by decide +kernel)]; kernel_rfl) | (rw [if_neg (by decide +kernel)]; exact ⟨rfl, rfl⟩))
    (fun os started H enc _ => lifted os started H enc)

theorem proved : Rows.IrqApartSaid := over
end Go.Proofs.Ytekohlbafhlldaa.irqApart
namespace Go.Proofs.Ytekohlbafhlldaa
theorem irqApart_holds : Rows.IrqApartSaid := irqApart.proved
#print axioms irqApart_holds
end Go.Proofs.Ytekohlbafhlldaa
