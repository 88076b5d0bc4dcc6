/- IrqKeeps: no interrupt is lost: whatever is owned, raised, taken and acked, a line that was raised is pending until it is taken, it is taken by its owner alone, and not again until it is acked. For every input, no condition. -/
import Derived.Test.YtekohlbafhlldaaKpl
import Derived.Deep.Cut
import Derived.Deep.CutRange
import Derived.Deep.CutBlock
import Derived.Deep.DeepCutAuto
import Derived.Deep.RegionHeld3
import Derived.Deep.LoopGhost
import Derived.Test.YtekohlbafhlldaaArgs
import Derived.ProofKit
import Derived.OpenShut
import Derived.ShutString
import Derived.ChangeOld
import Derived.Below
import Derived.Deep.Slices
namespace Go.Proofs.Ytekohlbafhlldaa.irqKeeps
open Go.ChangeShapes Go.WideShapes Go.ChangeAt Go.RowKit
set_option linter.unusedVariables false

theorem own : ownKnob Try.prog.godebug = none := by kernel_rfl
theorem laidOut : laidOutB Try.prog = true := by kernel_rfl

set_option maxHeartbeats 8000000 in
set_option maxRecDepth 100000 in
theorem core (x0 : Option Addr) (len0 cap0 : Nat) (w : World) (hx0 : Acts3 w x0 len0) :
    Calls Try.prog 4 #[.slice x0 len0 cap0] w fun e w' => e = .returned (.bool true) ∧ w.grownBy w' none := by
  have HX := hideIt hx0
  clear hx0
  go_enter Try.func4, Try.ntmps4
  go_wp2_with fail
  refine (works_is w).mono ?_
  rintro e wa ⟨rfl, ga⟩
  replace ga := hideIt ga
  go_wp2_with fail
  refine (new_is wa).mono ?_
  rintro e w1 ⟨x, rfl, g1, A1⟩
  obtain ⟨P, hP⟩ : ∃ P : Nat → Prop, (fun k => wa.heap.size ≤ k ∧ k < w1.heap.size) = P := ⟨_, rfl⟩
  have H0 : On w w1 P x M.i0 := by
    subst hP
    have s1 := ga.out.size
    have s2 := g1.size
    exact ⟨A1, fun k hk => by omega, gbTrans ga.out g1⟩
  clear A1 hP g1
  obtain ⟨V, hV, K0⟩ := Ks.made H0
  replace K0 := hideIt K0
  clear H0
  go_wp2_with fail
  obtain ⟨b, hb⟩ : ∃ b, w1.heap.size = b := ⟨_, rfl⟩
  rw [hb] at K0
  rw [hb]
  clear hV hb
  go_loopg [8] 100 (fun gk s wr => ∃ (j : Nat) (i : I), j + gk = 100 ∧ s = .int .i64 j ∧ Hid (Ks w wr P x b i) ∧ Hid (M.Gd i))
  case atStart => exact ⟨0, _, rfl, rfl, K0, hideIt M.gd0⟩
  case round =>
    obtain ⟨j, i, hj, rfl, K, gd⟩ := hrel
    clear K0
    by_cases hlt : j < len0 ∧ j < 100
    · obtain ⟨c1, c2⟩ := hlt
      obtain ⟨z, ⟨kk, n, d⟩, rfl, hE⟩ := HX.out j c1
      have hdj : decide ((j : Int) < 100) = true := by simp; omega
      obtain ⟨r0, r1, r2⟩ := hE.kept K.out.on.gr
      simp only at r0 r1 r2
      clear hE
      go_upto_region 10 with fail
      obtain ⟨V, hV, Y, gY⟩ := qboxNew wr ⟨kk, n, d⟩
      simp only at hV
      rw [hV]
      clear hV r0 r1 r2
      have hyP : ¬ P wr.heap.size := fun e => by have := (K.out.on.lo _ e).2; omega
      have hyb : Hid (b + 3 < wr.heap.size) := hideIt K.out.ao.lt
      have K1 : Hid (Ks w V P x b i) := hideIt (K.out.kept gY)
      obtain ⟨y, hy⟩ : ∃ y, wr.heap.size = y := ⟨_, rfl⟩
      rw [hy] at Y hyP hyb
      rw [hy]
      clear hy gY K
      replace Y := hideIt Y
      have r0 : V.cell? ⟨y, 0, none⟩ = some (.int .i64 kk) := Y.out.at0
      have r1 : V.cell? ⟨y, 1, none⟩ = some (.int .i64 n) := Y.out.at1
      have r2 : V.cell? ⟨y, 2, none⟩ = some (.int .i64 d) := Y.out.at2
      obtain ⟨u, hu⟩ : ∃ u, M.isL n = u := ⟨_, rfl⟩
      replace hu := hideIt hu
      go_cut [10] from 33 to 40 (fun s wc => s = .bool u ∧ wc = V)
      case first =>
        by_cases n0 : 0 ≤ n
        · by_cases n1 : n < 8
          · obtain rfl : u = true := by rw [← hu.out]; exact M.isL_iff.2 ⟨n0, n1⟩
            go_wp2
            go_meet
            exact ⟨rfl, rfl⟩
          · obtain rfl : u = false := by rw [← hu.out]; unfold M.isL; simp; omega
            go_wp2
            go_meet
            exact ⟨rfl, rfl⟩
        · obtain rfl : u = false := by rw [← hu.out]; unfold M.isL; simp; omega
          go_wp2
          go_meet
          exact ⟨rfl, rfl⟩
      case rest =>
      obtain ⟨rfl, rfl⟩ := hcut
      go_upto_block 2 with fail
      go_cut [11, 12, 13] from 43 to 168 (fun _ _ _ wc => ∃ i : I, Hid (Ks w wc P x b i) ∧ Hid (M.Gd i))
      case first =>
        by_cases k0 : (kk == 0) = true
        · have k0 : (kk == 0) = true := k0
          by_cases hf : M.oe i n d = 0
          · obtain ⟨hl, h1, h2, h3, h4, h5⟩ := M.kp_own gd.out hf
            obtain ⟨k, rfl, hk, hkn⟩ := M.isL_nat hl
            obtain rfl : u = true := by rw [← hu.out]; exact hl
            rw [hkn] at h1 h4 h5
            replace hf := hideIt hf
            replace h2 := hideIt h2
            replace h3 := hideIt h3
            replace h4 := hideIt h4
            replace h5 := hideIt h5
            clear hl hkn hu
            have gd' := hideIt (gd.out.own (k : Int) d)
            go_wp2_with fail
            refine (own_is K1.out.on.a k d 0 hf.out).mono ?_
            rintro e w6 ⟨rfl, Z, F⟩
            have K6 := hideIt (K1.out.turn Z F)
            have Y6 := hideIt (Y.out.fr F hyP)
            clear Z F r0 r1 r2
            have t1 : w6.cell? ⟨y, 1, none⟩ = some (.int .i64 (k : Int)) := Y6.out.at1
            have a1 := K6.out.ah.cell hk
            rw [h1] at a1
            have f1 := K6.out.ah.fz k
            obtain ⟨W, hW, K7, gW⟩ := K6.out.setH k true
            have Y7 := Y6.out.aside gW (by have := hyb.out; omega)
            have t2 : W.cell? ⟨y, 1, none⟩ = some (.int .i64 (k : Int)) := Y7.at1
            have t3 : W.cell? ⟨y, 2, none⟩ = some (.int .i64 d) := Y7.at2
            have a2 := K7.ao.cell hk
            have f2 := K7.ao.fz k
            obtain ⟨X, hX, K8, gX⟩ := K7.setO k d
            rw [← h2.out, ← h3.out, ← h4.out, ← h5.out] at K8
            replace K8 := hideIt K8
            clear K7 Y7 h1 gW gX
            go_wp2
            go_meet
            exact ⟨_, K8, gd'⟩
          · have e1 := hideIt (M.kp_own_no hf)
            obtain ⟨f, hf2⟩ : ∃ f, M.oe i n d = f := ⟨_, rfl⟩
            rw [hf2] at hf
            have hf0 : (f == 0) = false := by simpa using hf
            replace hf2 := hideIt hf2
            clear hf
            go_wp2_with fail
            refine (own_is K1.out.on.a n d f hf2.out).mono ?_
            rintro e w6 ⟨rfl, Z, F⟩
            rw [e1.out] at Z
            have K6 := hideIt (K1.out.turn Z F)
            clear Z F r0 r1 r2
            go_wp2
            go_meet
            exact ⟨_, K6, gd⟩
        · have k0 : (kk == 0) = false := by simpa using k0
          by_cases k1 : (kk == 1) = true
          · have k1 : (kk == 1) = true := k1
            cases u with
            | true =>
              obtain ⟨k, rfl, hk, hkn⟩ := M.isL_nat hu.out
              obtain ⟨e0, h2, h3, h4, h5⟩ := M.kp_raise (i := i) hu.out
              rw [hkn] at h2
              replace e0 := hideIt e0
              replace h2 := hideIt h2
              replace h3 := hideIt h3
              replace h4 := hideIt h4
              replace h5 := hideIt h5
              clear hkn hu
              have gd' := hideIt (gd.out.raise (k : Int))
              go_wp2_with fail
              refine (rraise_is K1.out.on.a k 0 e0.out).mono ?_
              rintro e w6 ⟨rfl, Z, F⟩
              have K6 := hideIt (K1.out.turn Z F)
              have Y6 := hideIt (Y.out.fr F hyP)
              clear Z F r0 r1 r2
              have t1 : w6.cell? ⟨y, 1, none⟩ = some (.int .i64 (k : Int)) := Y6.out.at1
              have a1 := K6.out.af.cell hk
              have f1 := K6.out.af.fz k
              obtain ⟨W, hW, K7, gW⟩ := K6.out.setF k true
              rw [← h2.out, ← h3.out, ← h4.out, ← h5.out] at K7
              replace K7 := hideIt K7
              clear gW
              go_wp2
              go_meet
              exact ⟨_, K7, gd'⟩
            | false =>
              obtain ⟨e0, e1⟩ := M.kp_raise_no (i := i) hu.out
              replace e0 := hideIt e0
              replace e1 := hideIt e1
              go_wp2_with fail
              refine (rraise_is K1.out.on.a n 1 e0.out).mono ?_
              rintro e w6 ⟨rfl, Z, F⟩
              rw [e1.out] at Z
              have K6 := hideIt (K1.out.turn Z F)
              clear Z F r0 r1 r2
              go_wp2
              go_meet
              exact ⟨_, K6, gd⟩
          · have k1 : (kk == 1) = false := by simpa using k1
            by_cases k2 : (kk == 2) = true
            · have k2 : (kk == 2) = true := k2
              obtain ⟨t, ht⟩ := M.nx_some i d
              cases t with
              | some k =>
                obtain ⟨hk, h1, h2, h3, h4, h5, h6, h7, h8⟩ := M.kp_next gd.out ht
                replace ht := hideIt ht
                replace h5 := hideIt h5
                replace h6 := hideIt h6
                replace h7 := hideIt h7
                replace h8 := hideIt h8
                have gd' := hideIt (gd.out.next (some k))
                go_wp2_with fail
                refine (next_is K1.out.on.a d (some k) ht.out k true rfl rfl).mono ?_
                rintro e w6 ⟨rfl, Z, F⟩
                have K6 := hideIt (K1.out.turn Z F)
                have Y6 := hideIt (Y.out.fr F hyP)
                clear Z F r0 r1 r2
                have t2 : w6.cell? ⟨y, 2, none⟩ = some (.int .i64 d) := Y6.out.at2
                have a1 := K6.out.af.cell hk
                have a2 := K6.out.ag.cell hk
                have a3 := K6.out.ah.cell hk
                have a4 := K6.out.ao.cell hk
                rw [h1] at a1
                rw [h2] at a2
                rw [h3] at a3
                rw [h4] at a4
                clear h1 h2 h3 h4
                have n1 : decide ((k : Int) < 0) = false := by simp
                have n2 : decide (7 < (k : Int)) = false := by simp; omega
                go_upto_region 28 with fail
                go_quiet (fail)
                obtain ⟨wq, hwq⟩ : ∃ wq, w6.drewN nq = wq := ⟨_, rfl⟩
                have Kq := K6.out.kept (gbDrewN w6 nq none)
                rw [hwq] at Kq
                rw [hwq]
                clear a1 a2 a3 a4 t2 hwq K6 Y6
                have a1 := Kq.af.cell hk
                have f1 := Kq.af.fz k
                obtain ⟨W, hW, K7, _⟩ := Kq.setF k false
                have a2 := K7.ag.cell hk
                have f2 := K7.ag.fz k
                obtain ⟨X, hX, K8, _⟩ := K7.setG k true
                rw [← h5.out, ← h6.out, ← h7.out, ← h8.out] at K8
                replace K8 := hideIt K8
                clear Kq K7
                go_wp2
                go_meet
                exact ⟨_, K8, gd'⟩
              | none =>
                have hno := hideIt (fun k hk => M.kp_next_no gd.out ht k hk)
                replace ht := hideIt ht
                go_wp2_with fail
                refine (next_is K1.out.on.a d none ht.out 0 false rfl rfl).mono ?_
                rintro e w6 ⟨rfl, Z, F⟩
                replace Z : IA w6 P x i := Z
                have K6 := hideIt (K1.out.turn Z F)
                have Y6 := hideIt (Y.out.fr F hyP)
                clear Z F r0 r1 r2
                go_wp2_with fail
                go_loopg [13] 8 (fun gk s wr => ∃ t : Nat, t + gk = 8 ∧ s = .int .i64 t ∧ Hid (w6.grownBy wr none))
                case atStart => exact ⟨0, rfl, rfl, hideIt (gbRefl _ _)⟩
                case round =>
                  obtain ⟨t, ht2, rfl, G⟩ := hrel
                  by_cases hl : t < 8
                  · have no := hno.out t hl
                    have K7 := K6.out.kept G.out
                    have t2 : wr.cell? ⟨y, 2, none⟩ = some (.int .i64 d) := (Y6.out.kept G.out).at2
                    have a1 := K7.af.cell hl
                    have a2 := K7.ag.cell hl
                    have a3 := K7.ah.cell hl
                    have a4 := K7.ao.cell hl
                    obtain ⟨b1, e1⟩ : ∃ b1, M.hs i t = b1 := ⟨_, rfl⟩
                    obtain ⟨o2, e5⟩ : ∃ o2, M.ow i t = o2 := ⟨_, rfl⟩
                    obtain ⟨b2, e2⟩ : ∃ b2, (o2 == d) = b2 := ⟨_, rfl⟩
                    obtain ⟨b3, e3⟩ : ∃ b3, i.p t = b3 := ⟨_, rfl⟩
                    obtain ⟨b4, e4⟩ : ∃ b4, M.tk i t = b4 := ⟨_, rfl⟩
                    rw [e5] at a4 no
                    rw [e1] at a3 no
                    rw [e2] at no
                    rw [e3] at a1 no
                    rw [e4] at a2 no
                    clear e1 e3 e4 e5 K7
                    cases b1 with
                    | false =>
                      clear no
                      go_upto_region 35 with fail
                      go_quiet (fail)
                      have G2 := hideIt (gbTrans G.out (gbDrewN wr nq none))
                      go_wp2
                      go_roundg (8 - (t + 1))
                      case rel => exact ⟨t + 1, by omega, by go_num, G2⟩
                      case measure => omega
                    | true =>
                      cases b2 with
                      | false =>
                        clear no
                        go_upto_region 35 with fail
                        go_quiet (fail)
                        have G2 := hideIt (gbTrans G.out (gbDrewN wr nq none))
                        go_wp2
                        go_roundg (8 - (t + 1))
                        case rel => exact ⟨t + 1, by omega, by go_num, G2⟩
                        case measure => omega
                      | true =>
                        cases b3 with
                        | false =>
                          clear no
                          go_upto_region 35 with fail
                          go_quiet (fail)
                          have G2 := hideIt (gbTrans G.out (gbDrewN wr nq none))
                          go_wp2
                          go_roundg (8 - (t + 1))
                          case rel => exact ⟨t + 1, by omega, by go_num, G2⟩
                          case measure => omega
                        | true =>
                          cases b4 with
                          | false => exact absurd no (by simp)
                          | true =>
                            clear no
                            go_upto_region 35 with fail
                            go_quiet (fail)
                            have G2 := hideIt (gbTrans G.out (gbDrewN wr nq none))
                            go_wp2
                            go_roundg (8 - (t + 1))
                            case rel => exact ⟨t + 1, by omega, by go_num, G2⟩
                            case measure => omega
                  · have K7 := hideIt (K6.out.kept G.out)
                    go_wp2
                    go_meet
                    exact ⟨_, K7, gd⟩
            · have k2 : (kk == 2) = false := by simpa using k2
              by_cases hf : M.ae i n = 0
              · obtain ⟨hl, h1, h2, h3, h4, h5⟩ := M.kp_ack hf
                obtain ⟨k, rfl, hk, hkn⟩ := M.isL_nat hl
                obtain rfl : u = true := by rw [← hu.out]; exact hl
                rw [hkn] at h1 h3
                replace hf := hideIt hf
                replace h2 := hideIt h2
                replace h3 := hideIt h3
                replace h4 := hideIt h4
                replace h5 := hideIt h5
                clear hl hkn hu
                have gd' := hideIt (gd.out.ack (k : Int))
                go_wp2_with fail
                refine (ack_is K1.out.on.a k 0 hf.out).mono ?_
                rintro e w6 ⟨rfl, Z, F⟩
                have K6 := hideIt (K1.out.turn Z F)
                have Y6 := hideIt (Y.out.fr F hyP)
                clear Z F r0 r1 r2
                have t1 : w6.cell? ⟨y, 1, none⟩ = some (.int .i64 (k : Int)) := Y6.out.at1
                have a1 := K6.out.ag.cell hk
                rw [h1] at a1
                have f1 := K6.out.ag.fz k
                obtain ⟨W, hW, K7, gW⟩ := K6.out.setG k false
                rw [← h2.out, ← h3.out, ← h4.out, ← h5.out] at K7
                replace K7 := hideIt K7
                clear gW h1
                go_wp2
                go_meet
                exact ⟨_, K7, gd'⟩
              · have e1 := hideIt (M.kp_ack_no hf)
                obtain ⟨f, hf2⟩ : ∃ f, M.ae i n = f := ⟨_, rfl⟩
                rw [hf2] at hf
                have hf0 : (f == 0) = false := by simpa using hf
                replace hf2 := hideIt hf2
                clear hf
                go_wp2_with fail
                refine (ack_is K1.out.on.a n f hf2.out).mono ?_
                rintro e w6 ⟨rfl, Z, F⟩
                rw [e1.out] at Z
                have K6 := hideIt (K1.out.turn Z F)
                clear Z F r0 r1 r2
                go_wp2
                go_meet
                exact ⟨_, K6, gd⟩
      case rest =>
        obtain ⟨i', H', gd'⟩ := hcut
        clear K1 Y r0 r1 r2 hu gd
        obtain ⟨c, hc⟩ : ∃ c, M.wd i'.p = c := ⟨_, rfl⟩
        replace hc := hideIt hc
        go_wp2_with fail
        refine (pending_is H'.out.on.a c hc.out).mono ?_
        rintro e w6 ⟨rfl, g⟩
        have H6 := hideIt (H'.out.kept g)
        clear g H'
        go_wp2_with fail
        go_loopg [15] 8 (fun gk s wr => ∃ j : Nat, j + gk = 8 ∧ s = .int .i64 j ∧ Hid (Ks w wr P x b i'))
        case atStart => exact ⟨0, rfl, rfl, H6⟩
        case round =>
          obtain ⟨t, ht, rfl, H⟩ := hrel
          clear H6
          by_cases hl : t < 8
          · have a1 := H.out.af.cell hl
            cases hp : i'.p t with
            | true =>
              rw [hp] at a1
              have z1 := M.bit1 i'.p t hl hp
              rw [hc.out] at z1
              clear hp
              go_upto_region 41 with fail
              go_quiet (fail)
              have H2 := hideIt (H.out.kept (gbDrewN wr nq none))
              go_wp2
              go_roundg (8 - (t + 1))
              case rel => exact ⟨t + 1, by omega, by go_num, H2⟩
              case measure => omega
            | false =>
              rw [hp] at a1
              have z1 := M.bit0 i'.p t hl hp
              rw [hc.out] at z1
              clear hp
              go_upto_region 41 with fail
              go_quiet (fail)
              have H2 := hideIt (H.out.kept (gbDrewN wr nq none))
              go_wp2
              go_roundg (8 - (t + 1))
              case rel => exact ⟨t + 1, by omega, by go_num, H2⟩
              case measure => omega
          · obtain rfl : t = 8 := by omega
            go_wp2
            go_roundg (100 - (j + 1))
            case rel => exact ⟨j + 1, _, by omega, by go_num, H, gd'⟩
            case measure => omega
    · go_upto_region 7 with fail
      by_cases k1 : (j : Int) < (len0 : Int)
      · have k2 : ¬ (j : Int) < 100 := by omega
        go_wp2
        go_ret
        exact ⟨rfl, K.out.on.gr⟩
      · go_wp2
        go_ret
        exact ⟨rfl, K.out.on.gr⟩

theorem walk (x0 : Option Addr) (len0 cap0 : Nat) (w : World) (hx0 : Acts3 w x0 len0) :
    Calls Try.prog 4 #[.slice x0 len0 cap0] w fun e w' => e = .returned (.bool true) ∧ Below w.heap.size w w' := endWalk (core x0 len0 cap0 w hx0)

set_option maxRecDepth 100000 in
theorem lifted (os : Os) (started : os.Started) (H : Type) (enc : TypeId × Value → H) :
    ReturnsInHanded {} Try.checked os 4 .any (Rows.irqKeepsSpec.pre6 enc Try.prog Try.f4 Rows.irqKeepsRow.domain false) (Rows.irqKeepsSpec.post enc Try.prog Try.f4 false true false false) := by
  refine returnsInHanded_of_change (C := Try.checked) own started (by kernel_rfl) Try.func4
    (ChangeSpec.witness6 (enc := enc) (C := Try.checked) false ⟨#[], #[.slice none 0 0], []⟩ 8 (by kernel_rfl) (by kernel_rfl) (by kernel_rfl) (by kernel_rfl)) ?_
  intro W base args ds gs before hval0 hW hcnd _
  have hval : ∀ (j : Nat) t v, Try.f4.params[j]? = some t → args[j]? = some v → Value.okWide Try.prog W .any base t v := hval0
  have hW' := hW
  obtain ⟨p, q, hA0, hV, rfl, hfz, hnd⟩ := hW
  have hA : DataW.TrodAll enc Try.prog W 0 (fun _ => true) true Try.f4.params.toList args.toList ds p := hA0
  rw [Try.params4] at hA hval
  obtain ⟨v0, vs0, d0, ds0, p0, q0, hargs, rfl, rfl, h0, r0⟩ := trodAll_cons hA
  obtain ⟨rfl, rfl, rfl⟩ := trodAll_nil r0
  obtain rfl : args = #[v0] := by cases args; simp_all
  obtain ⟨rfl, rfl⟩ := trodVars_none hV
  obtain ⟨x0, len0, cap0, rfl⟩ := okWide_slice Try.underlying22 (hval 0 22 v0 rfl rfl)
  have hx0 := opsArg h0
  have k0 := h0
  have lt0 : ∀ x ∈ p0, x.block < W.heap.size := by obtain ⟨m, hm⟩ := k0; exact DataW.trod_lt m _ _ _ hm
  clear hA0 hval0
  refine (walk x0 len0 cap0 W hx0).mono fun e W' ⟨he, bel⟩ => ?_
  subst he
  exact ⟨_, rfl, _, _, _, [], _, [], hW', trodAll_mk1 (shut_bool Try.underlying4 _), (trodAll_cons_mk (Below.trod laidOut (by kernel_rfl) (of_decide_eq_true (by kernel_rfl)) k0 bel lt0) trodAll_mk0), rfl, bel.frame _, fun h => by cases h⟩

theorem over : Rows.irqKeepsRow.holds Try.pinned (OpenSpec.ofChange Rows.irqKeepsSpec) :=
  OpenClaim.holds_of_wide 4 Try.f4 rfl rfl rfl rfl rfl rfl rfl ⟨rfl, rfl, rfl, rfl, rfl⟩ rfl rfl rfl rfl rfl (by kernel_rfl) Try.func4 (by kernel_rfl)
    (of_decide_eq_true (by kernel_rfl)) (by unfold Func.isWrapper; first | (rw [if_pos (by decide +kernel)]; kernel_rfl) | (rw [if_neg (by decide +kernel)]; exact ⟨rfl, rfl⟩))
    (fun os started H enc _ => lifted os started H enc)

theorem proved : Rows.IrqKeepsSaid := over
end Go.Proofs.Ytekohlbafhlldaa.irqKeeps
namespace Go.Proofs.Ytekohlbafhlldaa
theorem irqKeeps_holds : Rows.IrqKeepsSaid := irqKeeps.proved
#print axioms irqKeeps_holds
end Go.Proofs.Ytekohlbafhlldaa
