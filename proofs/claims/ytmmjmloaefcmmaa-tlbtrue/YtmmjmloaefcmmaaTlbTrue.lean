/- TlbTrue: for every memory, every four directories and every list of acts: if behind each word that changes each space's entries are flushed, each To is what a walk tells, and all that is kept agrees. No condition. -/
import Derived.Test.YtmmjmloaefcmmaaOpa
import Derived.Deep.CutRange
import Derived.Deep.DeepCutAuto
import Derived.Test.YtmmjmloaefcmmaaArgs
import Derived.ProofKit
import Derived.OpenShut
import Derived.ShutString
import Derived.ChangeOld
import Derived.Below
import Derived.Deep.Slices
namespace Go.Proofs.Ytmmjmloaefcmmaa.tlbTrue
open Go.ChangeShapes Go.WideShapes Go.ChangeAt Go.RowKit
set_option linter.unusedVariables false

theorem own : ownKnob Try.prog.godebug = none := by kernel_rfl
theorem laidOut : laidOutB Try.prog = true := by kernel_rfl

/-- Each space's directory. -/
def dd (len : Nat) (dz : Nat → Int) (s : Int) : Int := if s.toNat < len then dz s.toNat else 0
theorem dd_in {len : Nat} {dz : Nat → Int} {q : Nat} (h : q < len) : dd len dz (q : Int) = dz q := by unfold dd; simp [h]
theorem dd_out {len : Nat} {dz : Nat → Int} {q : Nat} (h : ¬ q < len) : dd len dz (q : Int) = 0 := by unfold dd; simp [h]
/-- All that is kept is of the spaces from c to 3. -/
def Four (c : Nat) (L : List K) : Prop := ∀ k ∈ L, ∃ q : Nat, k.s = (q : Int) ∧ c ≤ q ∧ q < 4
theorem Four.flush {c : Nat} {L : List K} (h : Four c L) : Four (c + 1) (M.kx L (c : Int)) := fun k hk => by
  unfold M.kx at hk
  obtain ⟨h1, h2⟩ := List.mem_filter.1 hk
  obtain ⟨q, e, h3, h4⟩ := h k h1
  refine ⟨q, e, ?_, h4⟩
  have : ¬ k.s = (c : Int) := by simpa using h2
  omega
theorem Four.none {L : List K} (h : Four 4 L) : L = [] := by
  cases L with
  | nil => rfl
  | cons k L =>
    obtain ⟨q, _, h1, h2⟩ := h k (by simp)
    omega
theorem Four.more {L L' : List K} {sp : Nat} {a : Int} (h : Four 0 L) (hs : sp < 4) (hL : ∀ k ∈ L', k ∈ L ∨ (k.s = (sp : Int) ∧ k.p = a / 16 ∧ M.isA a = true)) : Four 0 L' := fun k hk => by
  rcases hL k hk with e | ⟨e1, _, _⟩
  · exact h k e
  · exact ⟨sp, e1, Nat.zero_le _, hs⟩
/-- What holds between two acts. -/
structure Inv (w wr : World) (O : Nat → Prop) (t p b n len : Nat) (dz : Nat → Int) (L : List K) (F : Nat → Nat) : Prop where
  tw : Tw w wr O t L p b n F
  ag : Agr n F L (dd len dz)
  fo : Four 0 L
theorem Inv.kept {w wr wr' : World} {O : Nat → Prop} {t p b n len : Nat} {dz : Nat → Int} {L : List K} {F : Nat → Nat} (h : Inv w wr O t p b n len dz L F) (g : wr.grownBy wr' none) : Inv w wr' O t p b n len dz L F := ⟨h.tw.kept g, h.ag, h.fo⟩

set_option maxHeartbeats 8000000 in
set_option maxRecDepth 100000 in
theorem core (a0 : Int) (x1 : Option Addr) (len1 cap1 : Nat) (x2 : Option Addr) (len2 cap2 : Nat) (x3 : Option Addr) (len3 cap3 : Nat) (n : Nat) (dz : Nat → Int) (w : World)
    (HM : ∀ w', w.grownBy w' none → Calls Try.prog 8 #[.int .i64 a0, .slice x1 len1 cap1] w' fun e w'' => ∃ p b q c F, e = .returned (.tuple #[.pointer (some ⟨p, 0, none⟩), .pointer (some ⟨q, 0, none⟩), .bool true]) ∧ Two w' w'' p b q c n F)
    (hx2 : ∀ i, i < len2 → ∃ x, x2 = some x ∧ w.cell? (x.add i) = some (.int .i64 (dz i))) (hx3 : Acts9 w x3 len3) :
    Calls Try.prog 4 #[.int .i64 a0, .slice x1 len1 cap1, .slice x2 len2 cap2, .slice x3 len3 cap3] w fun e w' => e = .returned (.bool true) ∧ w.grownBy w' none := by
  have HX2 := hideIt hx2
  have HX3 := hideIt hx3
  clear hx2 hx3
  go_enter Try.func4, Try.ntmps4
  go_wp2_with fail
  refine (works_is _).mono ?_
  rintro e w1 ⟨rfl, g1⟩
  go_wp2_with fail
  refine (HM _ g1).mono ?_
  rintro e w2 ⟨p, b, q, c, F, rfl, T2⟩
  have G2 := gbTrans g1 T2.g
  have hp0 : w.heap.size ≤ p := Nat.le_trans g1.size T2.p0
  have hb0 : w.heap.size ≤ b := Nat.le_trans g1.size T2.b0
  have m2 := hideIt T2.m
  clear HM T2 g1
  go_wp2_with fail
  refine (tnew_is w _ G2).mono ?_
  rintro e w3 ⟨t, O, rfl, T3, g3, l3⟩
  have H3 : Hid (Inv w w3 O t p b n len2 dz [] F) := hideIt ⟨⟨T3, m2.out.kept g3, fun e => by have := l3 _ e; have := m2.out.plt; omega, fun e => by have := l3 _ e; have := m2.out.blt; omega, hp0, hb0⟩, fun k hk => by simp at hk, fun k hk => by simp at hk⟩
  clear m2 T3 g3 l3 G2
  go_wp2_with fail
  go_loopg [13] 60 (fun gk i wr => ∃ (j : Nat) (O : Nat → Prop) (L : List K) (F : Nat → Nat), j + gk = 60 ∧ i = .int .i64 j ∧ Hid (Inv w wr O t p b n len2 dz L F))
  case atStart => exact ⟨0, O, [], F, rfl, rfl, H3⟩
  case round =>
    obtain ⟨j, O, L, F, hj, rfl, H⟩ := hrel
    clear H3
    by_cases hlt : j < len3 ∧ j < 60
    · obtain ⟨c1, c2⟩ := hlt
      obtain ⟨x, r, rfl, hE, hv⟩ := HX3.out j c1
      have hdj : decide ((j : Int) < 60) = true := by simp; omega
      obtain ⟨r0, r1, r2, r3, r4, r5, r6, r7, r8⟩ := hE.kept H.out.tw.tb.gr
      clear hE
      go_upto_region 11 with fail
      obtain ⟨W, hW, Y, gY⟩ := oboxNew wr r
      rw [hW]
      clear hW r0 r1 r2 r3 r4 r5 r6 r7 r8
      have HW := hideIt (H.out.kept gY)
      have hYO : ¬ O wr.heap.size := fun e => by have := (H.out.tw.tb.lo _ e).2; omega
      have hYb : wr.heap.size ≠ b := fun e => by have := H.out.tw.mm.blt; omega
      have HY := hideIt Y
      obtain ⟨y0, y1, y2, y3, y4, y5, y6, y7, y8, yl⟩ := Y
      clear H gY
      obtain ⟨U, sp, q1, q2, q3⟩ := modArg r.s 4 (by omega)
      replace q2 : (U : Int) % 4 = (sp : Int) := q2
      obtain ⟨D, hD⟩ : ∃ D, dd len2 dz (sp : Int) = D := ⟨_, rfl⟩
      have hD := hideIt hD
      go_upto_if 58 with fail
      go_cut [16] from 55 to 62 (fun s wc => s = .int .i64 D ∧ wc = W)
      case first =>
        by_cases k1 : sp < len2
        · obtain ⟨xx, rfl, hz⟩ := HX2.out sp k1
          have hz := HW.out.tw.tb.gr.cell hz (by simp)
          rw [← dd_in (dz := dz) k1, hD.out] at hz
          go_wp2
          go_meet
          exact ⟨rfl, rfl⟩
        · have h0 := hD.out
          rw [dd_out k1] at h0
          subst h0
          go_wp2
          go_meet
          exact ⟨rfl, rfl⟩
      case rest =>
      obtain ⟨rfl, rfl⟩ := hcut
      clear q1 q2 y1
      go_upto_if 65 with fail
      go_cut [17, 18, 19, 20, 21] from 63 to 108 (fun _ _ _ _ _ wc => ∃ (O : Nat → Prop) (L : List K) (F : Nat → Nat), Hid (Inv w wc O t p b n len2 dz L F))
      case first =>
        by_cases k4 : (r.k == 4) = true
        · go_wp2_with fail
          refine (HW.out.tw.mm.putAny r.a r.v hv _ rfl).mono ?_
          rintro e w4 ⟨rfl, m4, g4⟩
          have H4 : Hid (Tw w w4 O t L p b n (M.wf n F r.a r.v) ∧ Four 0 L) := hideIt ⟨HW.out.tw.put m4 g4, HW.out.fo⟩
          clear HW m4 g4 y0 y2 y3 y4 y5 y6 y7 y8 HY
          obtain ⟨F4, hF4⟩ : ∃ F4, M.wf n F r.a r.v = F4 := ⟨_, rfl⟩
          rw [hF4] at H4
          clear hF4
          go_wp2_with fail
          go_loopg [17] 4 (fun gk i wr => ∃ (c : Nat) (O : Nat → Prop) (L : List K), c + gk = 4 ∧ i = .int .i64 c ∧ Hid (Tw w wr O t L p b n F4 ∧ Four c L))
          case atStart => exact ⟨0, _, _, rfl, rfl, H4⟩
          case round =>
            obtain ⟨c, O, L, hc, rfl, H⟩ := hrel
            clear H4
            by_cases hc4 : c < 4
            · go_wp2_with fail
              refine (flush_is H.out.1.tb c).mono ?_
              rintro e w5 ⟨rfl, T5, F5⟩
              have H5 := hideIt (And.intro (H.out.1.call T5 F5) H.out.2.flush)
              clear H T5 F5
              go_wp2
              go_roundg (gk - 1)
              case rel => exact ⟨c + 1, _, _, by omega, by go_num, H5⟩
              case measure => omega
            · obtain rfl : c = 4 := by omega
              have hL := H.out.2.none
              subst hL
              have H5 : Hid (Inv w _ O t p b n len2 dz [] F4) := hideIt ⟨H.out.1, fun k hk => by simp at hk, fun k hk => by simp at hk⟩
              clear H
              go_wp2
              go_meet
              exact ⟨_, _, _, H5⟩
        · have k4 : (r.k == 4) = false := by simpa using k4
          obtain ⟨⟨z, f⟩, hto⟩ : ∃ y, M.to n F D r.a r.w = y := ⟨_, rfl⟩
          obtain ⟨L', e1, e2, e3⟩ := M.kt_as (a := r.a) (wr := r.w) HW.out.tw.tb.gd HW.out.ag (show M.nr (sp : Int) = true by simp [M.nr]; omega) hD.out
          rw [hto] at e1
          have HK := hideIt e1
          have HA := hideIt e2
          have HF := hideIt (HW.out.fo.more q3 e3)
          replace hto := hideIt hto
          clear e1 e2 e3
          go_wp2_with fail
          refine (tto_is HW.out.tw.tb HW.out.tw.mm sp D r.a r.w z f HK.out).mono ?_
          rintro e w4 ⟨rfl, T4, F4⟩
          have H4 : Hid (Inv w w4 _ t p b n len2 dz L' F) := hideIt ⟨HW.out.tw.call T4 F4, HA.out, HF.out⟩
          clear y0 y2 y3 y4 y5 y6 y7 y8
          obtain ⟨y0, y1, y2, y3, y4, y5, y6, y7, y8, yl⟩ := HY.out.fr F4 hYO
          clear HW T4 F4 HK HA HF y0 y1 y2 y5 y6 y7 y8
          go_wp2_with fail
          refine (to_is _ p b n F D r.a r.w z f H4.out.tw.mm hto.out).mono ?_
          rintro e w5 ⟨rfl, g5⟩
          have H5 := hideIt (H4.out.kept g5)
          clear H4 g5 y3 y4
          go_wp2
          go_meet
          exact ⟨_, _, _, H5⟩
      case rest =>
      obtain ⟨O, L, F, H⟩ := hcut
      clear HW HY y0 y2 y3 y4 y5 y6 y7 y8 hD
      obtain ⟨wo, hwo⟩ : ∃ wo, wo = wc := ⟨_, rfl⟩
      obtain ⟨go, hgo⟩ : ∃ go, go = gk := ⟨_, rfl⟩
      subst hwo hgo
      go_wp2_with fail
      go_loopg [22, 23] 4 (fun gk i _ wr => ∃ c : Nat, c + gk = 4 ∧ i = .int .i64 c ∧ wo.grownBy wr none)
      case atStart => exact ⟨0, rfl, rfl, gbRefl _ _⟩
      case round =>
        obtain ⟨c, hc, rfl, gw⟩ := hrel
        by_cases hc4 : c < 4
        · obtain ⟨D, hD⟩ : ∃ D, dd len2 dz (c : Int) = D := ⟨_, rfl⟩
          have hD := hideIt hD
          have HK := hideIt (H.out.kept gw)
          go_upto_if 116 with fail
          go_cut [23] from 113 to 120 (fun s wc => s = .int .i64 D ∧ wc = wr)
          case first =>
            by_cases k1 : c < len2
            · obtain ⟨xx, rfl, hz⟩ := HX2.out c k1
              have hz := HK.out.tw.tb.gr.cell hz (by simp)
              rw [← dd_in (dz := dz) k1, hD.out] at hz
              go_wp2
              go_meet
              exact ⟨rfl, rfl⟩
            · have h0 := hD.out
              rw [dd_out k1] at h0
              subst h0
              go_wp2
              go_meet
              exact ⟨rfl, rfl⟩
          case rest =>
          obtain ⟨rfl, rfl⟩ := hcut
          go_wp2_with fail
          refine (agrees_is HK.out.tw.tb HK.out.tw.mm c D true (HK.out.ag.ka c D hD.out)).mono ?_
          rintro e w6 ⟨rfl, g6⟩
          have gw6 := gbTrans gw g6
          clear HK
          go_wp2
          go_roundg (gk - 1)
          case rel => exact ⟨c + 1, by omega, by go_num, gw6⟩
          case measure => omega
        · have HK := hideIt (H.out.kept gw)
          clear H
          go_wp2
          go_roundg (go - 1)
          case rel => exact ⟨j + 1, _, _, _, by omega, by go_num, HK⟩
          case measure => omega
    · go_upto_region 8 with fail
      go_cut [43] from 36 to 43 (fun s wc => s = .bool false ∧ wc = wr)
      case first =>
        by_cases k1 : (j : Int) < (len3 : Int)
        · have k2 : ¬ (j : Int) < 60 := by omega
          go_wp2
          go_meet
          exact ⟨rfl, rfl⟩
        · go_wp2
          go_meet
          exact ⟨rfl, rfl⟩
      case rest =>
      obtain ⟨rfl, rfl⟩ := hcut
      obtain ⟨l, hl⟩ : ∃ l, L.length = l := ⟨_, rfl⟩
      have hl8 : l ≤ 8 := by have := H.out.tw.tb.gd.len; omega
      replace hl := hideIt hl
      have hd8 : decide ((l : Int) ≤ 8) = true := by simp; omega
      clear hlt hj
      go_wp2_with fail
      refine (tlen_is H.out.tw.tb hl.out).mono ?_
      rintro e w4 ⟨rfl, rfl⟩
      go_wp2
      go_ret
      exact ⟨rfl, H.out.tw.tb.gr⟩

theorem walk (a0 : Int) (x1 : Option Addr) (len1 cap1 : Nat) (x2 : Option Addr) (len2 cap2 : Nat) (x3 : Option Addr) (len3 cap3 : Nat) (w : World) (hx1 : Ws w x1 len1) (hx2 : ∀ i, i < len2 → ∃ x z, x2 = some x ∧ w.cell? (x.add i) = some (.int .i64 z)) (hx3 : Acts9 w x3 len3) :
    Calls Try.prog 4 #[.int .i64 a0, .slice x1 len1 cap1, .slice x2 len2 cap2, .slice x3 len3 cap3] w fun e w' => e = .returned (.bool true) ∧ Below w.heap.size w w' := by
  refine endWalk ?_
  obtain ⟨U, n, u1, u2, n0, n1⟩ := sizeArg a0
  obtain ⟨dz, hdz⟩ := numsArg hx2
  exact core a0 x1 len1 cap1 x2 len2 cap2 x3 len3 cap3 n dz w (fun w' g => made_is a0 n x1 len1 cap1 w' U u1 u2 n0 n1 (hx1.kept g)) hdz hx3

set_option maxRecDepth 100000 in
theorem lifted (os : Os) (started : os.Started) (H : Type) (enc : TypeId × Value → H) :
    ReturnsInHanded {} Try.checked os 4 .any (Rows.tlbTrueSpec.pre6 enc Try.prog Try.f4 Rows.tlbTrueRow.domain false) (Rows.tlbTrueSpec.post enc Try.prog Try.f4 false true false false) := by
  refine returnsInHanded_of_change (C := Try.checked) own started (by kernel_rfl) Try.func4
    (ChangeSpec.witness6 (enc := enc) (C := Try.checked) false ⟨#[], #[.int .i64 0, .slice none 0 0, .slice none 0 0, .slice none 0 0], []⟩ 8 (by kernel_rfl) (by kernel_rfl) (by kernel_rfl) (by kernel_rfl)) ?_
  intro W base args ds gs before hval0 hW hcnd _
  have hval : ∀ (j : Nat) t v, Try.f4.params[j]? = some t → args[j]? = some v → Value.okWide Try.prog W .any base t v := hval0
  have hW' := hW
  obtain ⟨p, q, hA0, hV, rfl, hfz, hnd⟩ := hW
  have hA : DataW.TrodAll enc Try.prog W 0 (fun _ => true) true Try.f4.params.toList args.toList ds p := hA0
  rw [Try.params4] at hA hval
  obtain ⟨v0, vs0, d0, ds0, p0, q0, hargs, rfl, rfl, h0, r0⟩ := trodAll_cons hA
  obtain ⟨v1, vs1, d1, ds1, p1, q1, rfl, rfl, rfl, h1, r1⟩ := trodAll_cons r0
  obtain ⟨v2, vs2, d2, ds2, p2, q2, rfl, rfl, rfl, h2, r2⟩ := trodAll_cons r1
  obtain ⟨v3, vs3, d3, ds3, p3, q3, rfl, rfl, rfl, h3, r3⟩ := trodAll_cons r2
  obtain ⟨rfl, rfl, rfl⟩ := trodAll_nil r3
  obtain rfl : args = #[v0, v1, v2, v3] := by cases args; simp_all
  obtain ⟨rfl, rfl⟩ := trodVars_none hV
  obtain ⟨a0, rfl, rfl, rfl, w0⟩ := open_int Try.underlying3 (hval 0 3 v0 rfl rfl) h0
  obtain ⟨x1, len1, cap1, rfl⟩ := okWide_slice Try.underlying22 (hval 1 22 v1 rfl rfl)
  have hx1 := wordsArg h1
  have k1 := h1
  have lt1 : ∀ x ∈ p1, x.block < W.heap.size := by obtain ⟨m, hm⟩ := k1; exact DataW.trod_lt m _ _ _ hm
  obtain ⟨x2, len2, cap2, rfl⟩ := okWide_slice Try.underlying63 (hval 2 63 v2 rfl rfl)
  have hx2 := intsArg h2
  have k2 := h2
  have lt2 : ∀ x ∈ p2, x.block < W.heap.size := by obtain ⟨m, hm⟩ := k2; exact DataW.trod_lt m _ _ _ hm
  obtain ⟨x3, len3, cap3, rfl⟩ := okWide_slice Try.underlying23 (hval 3 23 v3 rfl rfl)
  have hx3 := opsArg h3
  have k3 := h3
  have lt3 : ∀ x ∈ p3, x.block < W.heap.size := by obtain ⟨m, hm⟩ := k3; exact DataW.trod_lt m _ _ _ hm
  clear hA0 hval0
  refine (walk a0 x1 len1 cap1 x2 len2 cap2 x3 len3 cap3 W hx1 hx2 hx3).mono fun e W' ⟨he, bel⟩ => ?_
  subst he
  exact ⟨_, rfl, _, _, _, [], _, [], hW', trodAll_mk1 (shut_bool Try.underlying4 _), (trodAll_cons_mk (shut_int Try.underlying3 w0) (trodAll_cons_mk (Below.trod laidOut (by kernel_rfl) (of_decide_eq_true (by kernel_rfl)) k1 bel lt1) (trodAll_cons_mk (Below.trod laidOut (by kernel_rfl) (of_decide_eq_true (by kernel_rfl)) k2 bel lt2) (trodAll_cons_mk (Below.trod laidOut (by kernel_rfl) (of_decide_eq_true (by kernel_rfl)) k3 bel lt3) trodAll_mk0)))), rfl, bel.frame _, fun h => by cases h⟩

theorem over : Rows.tlbTrueRow.holds Try.pinned (OpenSpec.ofChange Rows.tlbTrueSpec) :=
  OpenClaim.holds_of_wide 4 Try.f4 rfl rfl rfl rfl rfl rfl rfl ⟨rfl, rfl, rfl, rfl, rfl⟩ rfl rfl rfl rfl rfl (by kernel_rfl) Try.func4 (by kernel_rfl)
    (of_decide_eq_true (by kernel_rfl)) (by unfold Func.isWrapper; first | (rw [if_pos (by decide +kernel)]; kernel_rfl) | (rw [if_neg (by decide +kernel)]; exact ⟨rfl, rfl⟩))
    (fun os started H enc _ => lifted os started H enc)

theorem proved : Rows.TlbTrueSaid := over
end Go.Proofs.Ytmmjmloaefcmmaa.tlbTrue
namespace Go.Proofs.Ytmmjmloaefcmmaa
theorem tlbTrue_holds : Rows.TlbTrueSaid := tlbTrue.proved
#print axioms tlbTrue_holds
end Go.Proofs.Ytmmjmloaefcmmaa
