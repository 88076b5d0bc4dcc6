/- IrqOrder: of one domain's eight lines, whichever were raised, the least number comes first, each once, then none; those that were taken, and no others, can be acked. For every input, no condition. -/
import Derived.Test.YtekohlbafhlldaaOrl
import Derived.Deep.Cut
import Derived.Deep.CutRange
import Derived.Deep.CutBlock
import Derived.Deep.DeepCutAuto
import Derived.Deep.RegionHeld3
import Derived.Deep.LoopGhost
import Derived.Test.YtekohlbafhlldaaArgs
import Derived.ProofKit
import Derived.OpenShut
import Derived.ShutString
import Derived.ChangeOld
import Derived.Below
import Derived.Deep.Slices
namespace Go.Proofs.Ytekohlbafhlldaa.irqOrder
open Go.ChangeShapes Go.WideShapes Go.ChangeAt Go.RowKit
set_option linter.unusedVariables false

theorem own : ownKnob Try.prog.godebug = none := by kernel_rfl
theorem laidOut : laidOutB Try.prog = true := by kernel_rfl

set_option maxHeartbeats 8000000 in
set_option maxRecDepth 100000 in
theorem core (x0 : Option Addr) (len0 cap0 : Nat) (a1 : Int) (w : World) (hx0 : ∀ i, i < len0 → ∃ x z, x0 = some x ∧ w.cell? (x.add i) = some (.int .i64 z)) :
    Calls Try.prog 6 #[.slice x0 len0 cap0, .int .i64 a1] w fun e w' => e = .returned (.bool true) ∧ w.grownBy w' none := by
  have HX := hideIt hx0
  clear hx0
  obtain ⟨U, d, q1, q2, hd⟩ := modArg a1 4 (by decide)
  replace q2 : (U : Int) % 4 = (d : Int) := q2
  go_enter Try.func6, Try.ntmps6
  go_wp2_with fail
  refine (works_is w).mono ?_
  rintro e wa ⟨rfl, ga⟩
  replace ga := hideIt ga
  go_wp2_with fail
  clear q1 q2
  refine (new_is wa).mono ?_
  rintro e w1 ⟨x, rfl, g1, A1⟩
  have b0 := ba0 w1
  have gb := gbAlloc w1 (.cells #[.bool false, .bool false, .bool false, .bool false, .bool false, .bool false, .bool false, .bool false] 38) none
  obtain ⟨V, hV⟩ : ∃ V, w1.alloc (.cells #[.bool false, .bool false, .bool false, .bool false, .bool false, .bool false, .bool false, .bool false] 38) = V := ⟨_, rfl⟩
  rw [hV] at b0 gb
  obtain ⟨P, hP⟩ : ∃ P : Nat → Prop, (fun k => wa.heap.size ≤ k ∧ k < w1.heap.size) = P := ⟨_, rfl⟩
  have H0 : Hid (Ob w V P x w1.heap.size (M.oj d d 0) (fun _ => false)) := hideIt (by
    subst hP
    rw [M.oj0]
    have s1 := ga.out.size
    have s2 := g1.size
    have s3 := gb.size
    exact ⟨⟨A1.kept gb, fun k hk => by omega, gbTrans (gbTrans ga.out g1) gb⟩, b0, by omega, fun e => by omega⟩)
  clear A1 b0 gb hP
  replace g1 := hideIt g1
  go_wp2_with fail
  obtain ⟨b, hb⟩ : ∃ b, w1.heap.size = b := ⟨_, rfl⟩
  rw [hb] at H0
  rw [hb]
  clear hV hb g1
  go_loopg [7] 8 (fun gk s wr => ∃ j : Nat, j + gk = 8 ∧ s = .int .i64 j ∧ Hid (Ob w wr P x b (M.oj d d j) (fun _ => false)))
  case atStart => exact ⟨0, rfl, rfl, H0⟩
  case round =>
    obtain ⟨j, hj, rfl, H⟩ := hrel
    clear H0
    by_cases hlt : j < 8
    · have e1 := hideIt (M.ojS d d j hlt d (by split <;> rfl) (by omega) (by omega))
      go_wp2_with fail
      refine (own_is H.out.on.a j d 0 e1.out.1).mono ?_
      rintro e w2 ⟨rfl, Z, F⟩
      rw [e1.out.2] at Z
      have H2 := hideIt (H.out.turn Z F)
      clear Z F e1
      go_wp2
      go_roundg (gk - 1)
      case rel => exact ⟨j + 1, by omega, by go_num, H2⟩
      case measure => omega
    · obtain rfl : j = 8 := by omega
      obtain ⟨wo, rfl⟩ : ∃ wo, wo = wr := ⟨_, rfl⟩
      have H1 : Hid (Ob w wo P x b (M.ra d (fun _ => false)) (fun _ => false)) := H
      clear H hlt
      go_wp2_with fail
      go_loopg [8] 40 (fun gk s wr => ∃ (j : Nat) (f : Nat → Bool), j + gk = 40 ∧ s = .int .i64 j ∧ Hid (Ob w wr P x b (M.ra d f) f))
      case atStart => exact ⟨0, _, rfl, rfl, H1⟩
      case round =>
        obtain ⟨j, f, hj, rfl, H⟩ := hrel
        clear H1
        by_cases hlt : j < len0 ∧ j < 40
        · obtain ⟨c1, c2⟩ := hlt
          obtain ⟨y, z, rfl, hz⟩ := HX.out j c1
          replace hz := H.out.on.gr.cell hz (by simp)
          obtain ⟨U, n, q1, q2, hn⟩ := modArg z 8 (by decide)
          replace q2 : (U : Int) % 8 = (n : Int) := q2
          have hdj : decide ((j : Int) < 40) = true := by simp; omega
          have e1 := hideIt (M.ra_raise d f n hn)
          go_wp2_with fail
          clear q1 q2 hz
          refine (rraise_is H.out.on.a n 0 e1.out.1).mono ?_
          rintro e w2 ⟨rfl, Z, F⟩
          rw [e1.out.2] at Z
          have H2 := hideIt (H.out.turn Z F)
          clear Z F e1
          have ce := H2.out.ba.cell hn
          have fe := H2.out.ba.fz n
          obtain ⟨W, hW, H3, _⟩ := H2.out.set n true
          replace H3 := hideIt H3
          go_wp2
          go_roundg (40 - (j + 1))
          case rel => exact ⟨j + 1, _, by omega, by go_num, H3⟩
          case measure => omega
        · go_upto_region 12 with fail
          go_cut [39] from 32 to 39 (fun s wc => s = .bool false ∧ wc = wr)
          case first =>
            by_cases k1 : (j : Int) < (len0 : Int)
            · have k2 : ¬ (j : Int) < 40 := by omega
              go_wp2
              go_meet
              exact ⟨rfl, rfl⟩
            · go_wp2
              go_meet
              exact ⟨rfl, rfl⟩
          case rest =>
          obtain ⟨rfl, rfl⟩ := hcut
          obtain ⟨wo, rfl⟩ : ∃ wo, wo = wc := ⟨_, rfl⟩
          have H1 : Hid (Ob w wo P x b (M.rt d f 0) f) := hideIt (by rw [M.rt0]; exact H.out)
          clear H hlt
          go_wp2_with fail
          go_loopg [10] 8 (fun gk s wr => ∃ j : Nat, j + gk = 8 ∧ s = .int .i64 j ∧ Hid (Ob w wr P x b (M.rt d f j) f))
          case atStart => exact ⟨0, rfl, rfl, H1⟩
          case round =>
            obtain ⟨j, hj, rfl, H⟩ := hrel
            clear H1
            by_cases hlt : j < 8
            · have ce := H.out.ba.cell hlt
              cases hf : f j with
              | false =>
                rw [hf] at ce
                have e1 := hideIt (M.rt_no d f j hf)
                clear hf
                go_wp2
                go_roundg (8 - (j + 1))
                case rel => exact ⟨j + 1, by omega, by go_num, hideIt (by rw [← e1.out]; exact H.out)⟩
                case measure => omega
              | true =>
                rw [hf] at ce
                have e1 := hideIt (M.rt_yes d f j hlt hf)
                obtain ⟨m1, m2⟩ := M.rt_bits d f j hf
                have z1 := M.bit1 _ j hlt m1
                have z2 := M.bit0 _ j hlt m2
                obtain ⟨c, hc⟩ : ∃ c, M.wd (M.rt d f (j + 1)).m = c := ⟨_, rfl⟩
                obtain ⟨p, hp⟩ : ∃ p, M.wd (M.rt d f (j + 1)).p = p := ⟨_, rfl⟩
                rw [hc] at z1
                rw [hp] at z2
                replace hc := hideIt hc
                replace hp := hideIt hp
                clear hf m1 m2
                go_wp2_with fail
                refine (next_is H.out.on.a d (some j) e1.out.1 j true rfl rfl).mono ?_
                rintro e w2 ⟨rfl, Z, F⟩
                rw [e1.out.2] at Z
                have H2 := hideIt (H.out.turn Z F)
                clear Z F e1 ce
                go_wp2_with fail
                refine (masked_is H2.out.on.a c hc.out).mono ?_
                rintro e w3 ⟨rfl, g⟩
                have H3 := hideIt (H2.out.kept g)
                clear g
                go_wp2_with fail
                refine (pending_is H3.out.on.a p hp.out).mono ?_
                rintro e w4 ⟨rfl, g⟩
                have H4 := hideIt (H3.out.kept g)
                clear g
                go_wp2
                go_roundg (8 - (j + 1))
                case rel => exact ⟨j + 1, by omega, by go_num, H4⟩
                case measure => omega
            · obtain rfl : j = 8 := by omega
              obtain ⟨wo, rfl⟩ : ∃ wo, wo = wr := ⟨_, rfl⟩
              have e1 := hideIt (M.rt_end d f)
              clear hlt
              go_wp2_with fail
              refine (next_is H.out.on.a d none e1.out.1 0 false rfl rfl).mono ?_
              rintro e w2 ⟨rfl, Z, F⟩
              replace Z : IA w2 P x (M.rt d f 8) := Z
              have H2 := hideIt (H.out.turn Z F)
              clear Z F H
              go_wp2_with fail
              refine (pending_is H2.out.on.a 0 e1.out.2).mono ?_
              rintro e w3 ⟨rfl, g⟩
              have H3 := hideIt (H2.out.kept g)
              clear g H2 e1
              rw [M.rk0] at H3
              go_wp2_with fail
              go_loopg [15] 8 (fun gk s wr => ∃ j : Nat, j + gk = 8 ∧ s = .int .i64 j ∧ Hid (Ob w wr P x b (M.rk d f j) f))
              case atStart => exact ⟨0, rfl, rfl, H3⟩
              case round =>
                obtain ⟨j, hj, rfl, H⟩ := hrel
                clear H3
                by_cases hlt : j < 8
                · have ce := H.out.ba.cell hlt
                  have gd := gbDrew (gbRefl wr none)
                  have Hd := hideIt (H.out.kept gd)
                  have cd := Hd.out.ba.cell hlt
                  obtain ⟨e1, e2⟩ := M.rk_ack d (by omega) f j hlt
                  obtain ⟨v, hv⟩ : ∃ v : Int, (if f j = true then 0 else 8) = v := ⟨_, rfl⟩
                  rw [hv] at e1
                  have hv2 : (v == 0) = f j := by rw [← hv]; cases f j <;> rfl
                  obtain ⟨u, hu⟩ : ∃ u, f j = u := ⟨_, rfl⟩
                  rw [hu] at ce cd hv2
                  replace e1 := hideIt e1
                  replace e2 := hideIt e2
                  replace hu := hideIt hu
                  clear hv
                  go_upto_region 31 with fail
                  go_region_held3 (fun w' => w'.cell? ⟨b, j, none⟩ = some (.bool u))
                    (first | with_reducible exact ce | with_reducible exact cd | with_reducible exact T6 | fail)
                    ((go_at_call 15; refine (ack_is Hd.out.on.a j v e1.out).mono ?_; rintro e w6 ⟨rfl, Z6, F6⟩; have H6 := hideIt (Hd.out.turn Z6 F6); have T6 : w6.cell? ⟨b, j, none⟩ = some (.bool u) := (by have := H6.out.ba.cell hlt; rw [hu.out] at this; exact this); clear Z6 F6))
                  rename_i hold
                  clear hold T6 ce cd
                  go_wp2
                  go_roundg (8 - (j + 1))
                  case rel => exact ⟨j + 1, by omega, by go_num, hideIt (by rw [← e2.out]; exact H6.out)⟩
                  case measure => omega
                · obtain rfl : j = 8 := by omega
                  go_wp2_with fail
                  refine (masked_is H.out.on.a 0 (M.rk_end d f)).mono ?_
                  rintro e w4 ⟨rfl, g⟩
                  have H4 := hideIt (H.out.kept g)
                  clear g
                  go_wp2
                  go_ret
                  exact ⟨rfl, H4.out.on.gr⟩

theorem walk (x0 : Option Addr) (len0 cap0 : Nat) (a1 : Int) (w : World) (hx0 : ∀ i, i < len0 → ∃ x z, x0 = some x ∧ w.cell? (x.add i) = some (.int .i64 z)) :
    Calls Try.prog 6 #[.slice x0 len0 cap0, .int .i64 a1] w fun e w' => e = .returned (.bool true) ∧ Below w.heap.size w w' := endWalk (core x0 len0 cap0 a1 w hx0)

set_option maxRecDepth 100000 in
theorem lifted (os : Os) (started : os.Started) (H : Type) (enc : TypeId × Value → H) :
    ReturnsInHanded {} Try.checked os 6 .any (Rows.irqOrderSpec.pre6 enc Try.prog Try.f6 Rows.irqOrderRow.domain false) (Rows.irqOrderSpec.post enc Try.prog Try.f6 false true false false) := by
  refine returnsInHanded_of_change (C := Try.checked) own started (by kernel_rfl) Try.func6
    (ChangeSpec.witness6 (enc := enc) (C := Try.checked) false ⟨#[], #[.slice none 0 0, .int .i64 0], []⟩ 8 (by kernel_rfl) (by kernel_rfl) (by kernel_rfl) (by kernel_rfl)) ?_
  intro W base args ds gs before hval0 hW hcnd _
  have hval : ∀ (j : Nat) t v, Try.f6.params[j]? = some t → args[j]? = some v → Value.okWide Try.prog W .any base t v := hval0
  have hW' := hW
  obtain ⟨p, q, hA0, hV, rfl, hfz, hnd⟩ := hW
  have hA : DataW.TrodAll enc Try.prog W 0 (fun _ => true) true Try.f6.params.toList args.toList ds p := hA0
  rw [Try.params6] at hA hval
  obtain ⟨v0, vs0, d0, ds0, p0, q0, hargs, rfl, rfl, h0, r0⟩ := trodAll_cons hA
  obtain ⟨v1, vs1, d1, ds1, p1, q1, rfl, rfl, rfl, h1, r1⟩ := trodAll_cons r0
  obtain ⟨rfl, rfl, rfl⟩ := trodAll_nil r1
  obtain rfl : args = #[v0, v1] := by cases args; simp_all
  obtain ⟨rfl, rfl⟩ := trodVars_none hV
  obtain ⟨x0, len0, cap0, rfl⟩ := okWide_slice Try.underlying41 (hval 0 41 v0 rfl rfl)
  have hx0 := intsArg h0
  have k0 := h0
  have lt0 : ∀ x ∈ p0, x.block < W.heap.size := by obtain ⟨m, hm⟩ := k0; exact DataW.trod_lt m _ _ _ hm
  obtain ⟨a1, rfl, rfl, rfl, w1⟩ := open_int Try.underlying3 (hval 1 3 v1 rfl rfl) h1
  clear hA0 hval0
  refine (walk x0 len0 cap0 a1 W hx0).mono fun e W' ⟨he, bel⟩ => ?_
  subst he
  exact ⟨_, rfl, _, _, _, [], _, [], hW', trodAll_mk1 (shut_bool Try.underlying4 _), (trodAll_cons_mk (Below.trod laidOut (by kernel_rfl) (of_decide_eq_true (by kernel_rfl)) k0 bel lt0) (trodAll_cons_mk (shut_int Try.underlying3 w1) trodAll_mk0)), rfl, bel.frame _, fun h => by cases h⟩

theorem over : Rows.irqOrderRow.holds Try.pinned (OpenSpec.ofChange Rows.irqOrderSpec) :=
  OpenClaim.holds_of_wide 6 Try.f6 rfl rfl rfl rfl rfl rfl rfl ⟨rfl, rfl, rfl, rfl, rfl⟩ rfl rfl rfl rfl rfl (by kernel_rfl) Try.func6 (by kernel_rfl)
    (of_decide_eq_true (by kernel_rfl)) (by unfold Func.isWrapper; first | (rw [if_pos (by decide +kernel)]; kernel_rfl) | (rw [if_neg (by decide +kernel)]; exact ⟨rfl, rfl⟩))
    (fun os started H enc _ => lifted os started H enc)

theorem proved : Rows.IrqOrderSaid := over
end Go.Proofs.Ytekohlbafhlldaa.irqOrder
namespace Go.Proofs.Ytekohlbafhlldaa
theorem irqOrder_holds : Rows.IrqOrderSaid := irqOrder.proved
#print axioms irqOrder_holds
end Go.Proofs.Ytekohlbafhlldaa
