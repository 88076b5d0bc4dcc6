/- RevokeCopies holds for every input: works, and then, of one capability with as many copies as numbers come in (at most fifteen), made of one another as these say, a revoke in so few steps a call leaves the first alone, which is final then, tells nothing, and takes as many calls as its steps make of the copies. No condition. -/
import Derived.Test.YtpfjcfgbecoccaaCps
import Derived.Deep.Cut
import Derived.Deep.DeepCutAuto
import Derived.Deep.RegionHeld3
import Derived.Test.YtpfjcfgbecoccaaArgs
import Derived.ProofKit
import Derived.OpenShut
import Derived.ShutString
import Derived.ChangeOld
import Derived.Below
import Derived.Deep.Slices
namespace Go.Proofs.Ytpfjcfgbecoccaa.revokeCopies
open Go.ChangeShapes Go.WideShapes Go.ChangeAt Go.RowKit
set_option linter.unusedVariables false

theorem own : ownKnob Try.prog.godebug = none := by kernel_rfl
theorem laidOut : laidOutB Try.prog = true := by kernel_rfl

set_option maxHeartbeats 400000 in
theorem over_is (m s : Nat) (hm : m < 16) (h1 : 1 ≤ s) (h2 : s < 7) (w : World) : Calls Try.prog 25 #[.int .i64 (m : Int), .int .i64 (s : Int)] w fun e w' => e = .returned (.int .i64 (M.ovr m s : Nat)) ∧ w.grownBy w' none := by
  have hs : (s : Int) ≠ 0 := by omega
  obtain ⟨r, hr⟩ : ∃ r : Nat, m % s = r := ⟨_, rfl⟩
  have hmod : (m : Int).tmod (s : Int) = (r : Int) := by rw [← hr]; exact (Int.ofNat_tmod m s).symm
  have hrl : r < s := by rw [← hr]; exact Nat.mod_lt _ (by omega)
  by_cases h0 : 0 < m
  · have h0' : 0 < (m : Int) := by omega
    by_cases hz : r = 0
    · have hz' : ((r : Int) == 0) = true := by simp [hz]
      have hov : M.ovr m s = 1 := by unfold M.ovr; rw [if_pos ⟨h0, by rw [hr]; exact hz⟩]
      rw [hov]
      clear hov hz
      go_enter Try.func25, Try.ntmps25
      go_wp2
      go_ret
      exact ⟨rfl, gbRefl _ _⟩
    · have hz' : ((r : Int) == 0) = false := by simp [hz]
      have hov : M.ovr m s = 0 := by unfold M.ovr; rw [if_neg (fun k => hz (by rw [← hr]; exact k.2))]
      rw [hov]
      clear hov hz
      go_enter Try.func25, Try.ntmps25
      go_wp2
      go_ret
      exact ⟨rfl, gbRefl _ _⟩
  · have h0' : ¬ 0 < (m : Int) := by omega
    have hov : M.ovr m s = 0 := by unfold M.ovr; rw [if_neg (fun k => h0 k.1)]
    rw [hov]
    clear hov
    go_enter Try.func25, Try.ntmps25
    go_wp2
    go_ret
    exact ⟨rfl, gbRefl _ _⟩
theorem wrapI {a : Int} (h1 : -1000 ≤ a) (h2 : a ≤ 1000) : IntKind.i64.wrap a = a := by
  unfold IntKind.wrap
  simp only [IntKind.bits, IntKind.signed, Bool.true_and]
  split <;> simp_all <;> omega
theorem run_quo {a b q : Int} (hb : b ≠ 0) (hq : IntKind.i64.wrap (a.tdiv b) = q) (w : World) : (binOp .quo 3 (.int .i64 a) (.int .i64 b)).run Try.prog w = .ok (.int .i64 q) w := by
  simp [go_sem, hb, hq]
theorem stepsOf (a : Int) : ∃ U st : Nat, IntKind.u64.wrap a = (U : Int) ∧ U < 18446744073709551616 ∧ 1 + (U : Int) % 6 = (st : Int) ∧ 1 ≤ st ∧ st < 7 := by
  obtain ⟨U, i0, h1, h2, h3, h4⟩ := turnIdx a 6 (by omega) (by omega)
  exact ⟨U, i0 + 1, h1, h2, by simp only [Int.natCast_add] at *; omega, by omega, by omega⟩
set_option maxRecDepth 10000 in
set_option maxHeartbeats 8000000 in
theorem core (xo : Option Addr) (len cap : Nat) (a1 : Int) (w : World) (HX : Hid (∀ i, i < len → ∃ x z, xo = some x ∧ w.cell? (x.add i) = some (.int .i64 z))) :
    Calls Try.prog 7 #[.slice xo len cap, .int .i64 a1] w fun e w' => e = .returned (.bool true) ∧ Below w.heap.size w w' := by
  obtain ⟨U, st, hU, hU2, hst, hs1, hs7⟩ := stepsOf a1
  go_enter Try.func7, Try.ntmps7
  go_wp2_with fail
  refine (works_is _).mono ?_
  rintro _ w1 ⟨rfl, g1⟩
  go_wp2_with fail
  refine (newCaps g1).mono ?_
  rintro _ w2 ⟨p, s, t, rfl, A, _⟩
  have H2 := hideIt A
  clear A g1 hU hst
  go_wp2_with fail
  refine (H2.out.nodeA 0 4 0 (i64s _ (by decide) (by decide)) (by decide) (by decide +kernel)).mono ?_
  rintro _ w3 ⟨rfl, A, _⟩
  have H3 := hideIt A
  clear A H2
  go_wp2_with fail
  refine (slot_is 0 _).mono ?_
  rintro _ w4 ⟨rfl, g4⟩
  have H4 := hideIt (H3.out.kept g4)
  clear H3 g4
  go_wp2_with fail
  refine (H4.out.plant M.Iq 0 0 4 7 7 0 0 0 0 (i64s _ (by decide) (by decide)) (i64s _ (by decide) (by decide)) (by decide) (by decide) (by decide +kernel) M.p1).mono ?_
  rintro _ w5 ⟨rfl, A, _⟩
  have H5 : Hid (Cs w w5 _ p s t 1 M.C1 M.g1) := A
  clear A H4
  go_wp2
  go_loopg [6, 7] 16 (fun y s6 s7 wr => ∃ (n i : Nat) (S : St) (f : T9.Fo) (O : Nat → Prop), n + y = 17 ∧ 1 ≤ n ∧ n ≤ 16 ∧ i + 1 = n ∧ s6 = .int .i64 n ∧ s7 = .int .i64 i ∧ Hid (Cs w wr O p s t 1 S f) ∧ Hid (M.Cq S f n))
  case atStart => exact ⟨1, 0, M.C1, M.g1, _, by omega, by omega, by omega, rfl, rfl, rfl, H5, M.Cq.start⟩
  case round =>
    obtain ⟨n, i, S, f, O, hn, hn1, hn16, hin, rfl, rfl, HC, HQ⟩ := hrel
    by_cases hlt : i < len ∧ n < 16
    · obtain ⟨hlt, hlt2⟩ := hlt
      have hlt' : (i : Int) < (len : Int) := by omega
      have hlt2' : (n : Int) < 16 := by omega
      obtain ⟨x, z, rfl, hz0⟩ := HX.out i hlt
      have hz := HC.out.gr.cell hz0 (by simp)
      obtain ⟨V, i0, hV, hV64, hi, hi0⟩ := turnIdx z n (by omega) (by omega)
      have hln : IntKind.u64.wrap (n : Int) = (n : Int) := turnLen (by omega)
      have hne : (n : Int) ≠ 0 := by omega
      clear hz0
      go_wp2_with fail
      refine (slot_is i0 _).mono ?_
      rintro _ w6 ⟨rfl, g6⟩
      have H6 := hideIt (HC.out.kept g6)
      clear hV hi hz
      go_wp2_with fail
      refine (slot_is n _).mono ?_
      rintro _ w7 ⟨rfl, g7⟩
      have H7 := hideIt (H6.out.kept g7)
      have hlen := HQ.out.len
      go_wp2_with fail
      refine (H7.out.copy HQ.out.i 0 i0 0 n 7 0 (i64s _ (by decide) (by decide)) (i64s _ (by omega) (by omega)) (i64s _ (by decide) (by decide)) (i64s _ (by omega) (by omega)) (by omega) (HQ.out.copE hi0 hlt2).2).mono ?_
      rintro _ w8 ⟨rfl, A, _⟩
      have H8 := hideIt A
      have HQ8 := hideIt (HQ.out.next H7.out.gt hi0 hlt2)
      clear A H6 H7
      go_wp2
      go_roundg (gk - 1)
      case rel => exact ⟨n + 1, i + 1, _, _, _, by omega, by omega, by omega, by omega, by go_num, by go_num, H8, HQ8⟩
      case measure => omega
    · obtain ⟨m, hm⟩ : ∃ m, m + 1 = n := ⟨n - 1, by omega⟩
      have HL : Hid (M.Lq S f m) := hideIt (by have := HQ.out.left hn1 hn16; rw [← hm] at this; exact this)
      obtain ⟨fb, hfb⟩ : ∃ b, decide (m = 0) = b := ⟨_, rfl⟩
      have hfin : M.fin S (0, 0) = fb := (HL.out.fin HC.out.gs HC.out.gt).trans hfb
      have hnb : ((n : Int) == 1) = fb := by rw [← hfb, ← hm]; by_cases e : m = 0 <;> simp [e]; omega
      have hexit : (decide ((i : Int) < (len : Int)) && decide ((n : Int) < 16)) = false := by
        by_cases e1 : i < len
        · have e2 : ¬ n < 16 := fun e2 => hlt ⟨e1, e2⟩
          have : ¬ (n : Int) < 16 := by omega
          simp [this]
        · have : ¬ (i : Int) < (len : Int) := by omega
          simp [this]
      have hmm : (n : Int) - 1 = (m : Int) := by omega
      go_upto_region 9 with fail
      go_cut [34] from 27 to 34 (fun b wc => b = .bool false ∧ wc = wr)
      case first =>
        by_cases e1 : i < len
        · have e1' : (i : Int) < (len : Int) := by omega
          have e2 : ¬ (n : Int) < 16 := fun e2 => hlt ⟨e1, by omega⟩
          go_wp2
          go_meet
          exact ⟨rfl, rfl⟩
        · have e1' : ¬ (i : Int) < (len : Int) := by omega
          go_wp2
          go_meet
          exact ⟨rfl, rfl⟩
      case rest =>
      obtain ⟨rfl, rfl⟩ := hcut
      go_wp2_with fail
      refine (slot_is 0 _).mono ?_
      rintro _ w6 ⟨rfl, g6⟩
      have H6 := hideIt (HC.out.kept g6)
      go_wp2_with fail
      refine (H6.out.final 0 0 fb (i64s _ (by decide) (by decide)) hfin _ (gbRefl _ none)).mono ?_
      rintro _ w7 ⟨rfl, g7⟩
      have H7 := hideIt (H6.out.kept g7)
      clear H6 hfin HC
      (
      go_wp2
      go_loopg [8, 9] 20 (fun y s8 s9 wr => ∃ (c : Nat) (S : St) (f : T9.Fo) (O : Nat → Prop), c + y = 20 ∧ (c = 0 ∨ c * st < m) ∧ s8 = .int .i64 c ∧ s9 = .int .i64 c ∧ Hid (Cs w wr O p s t 1 S f) ∧ Hid (M.Lq S f (m - c * st)))
      case atStart => exact ⟨0, S, f, _, by omega, .inl rfl, rfl, rfl, H7, hideIt (by simpa using HL.out)⟩
      case round =>
        clear H7 HL HQ
        obtain ⟨c, S, f, O, hc, hcs, rfl, rfl, HC, HL⟩ := hrel
        have hc15 : c < 16 := by
          rcases hcs with e | e
          · omega
          · have : c * 1 ≤ c * st := Nat.mul_le_mul_left c hs1
            omega
        have hc20 : (c : Int) < 20 := by omega
        go_wp2_with fail
        refine (slot_is 0 _).mono ?_
        rintro _ w6 ⟨rfl, g6⟩
        have H6 := hideIt (HC.out.kept g6)
        obtain ⟨⟨q, y⟩, hr⟩ : ∃ r, M.revR S f (0, 0) (st : Int) = r := ⟨_, rfl⟩
        obtain ⟨n1, n2, n3⟩ := HL.out.next H6.out.gs H6.out.gt hr
        have hlen := HL.out.len
        go_wp2_with fail
        refine (H6.out.revoke_yes HL.out.i 0 0 st (i64s _ (by decide) (by decide)) (i64s _ (by decide) (by decide)) (by omega) (HL.out.face (by omega) (by omega)) q y hr).mono ?_
        rintro _ w7 ⟨tv, O7, rfl, A, hs, F, tl, hno⟩
        have H7 := hideIt A
        have HN := hideIt n3
        rw [n2] at tl
        obtain ⟨tx, tc, rfl⟩ : ∃ tx tc, tv = .slice tx 0 tc := by
          rcases tl.form with ⟨rfl, _⟩ | ⟨g, cap, rfl, _⟩
          · exact ⟨_, _, rfl⟩
          · exact ⟨_, _, rfl⟩
        clear A hs F tl hno HC H6 hr n3
        by_cases hd : st < m - c * st
        · have hq : q = true := by rw [n1]; simp [hd]
          subst hq
          clear n1
          have e1 : (c + 1) * st = c * st + st := Nat.succ_mul c st
          have HN' : Hid (M.Lq y.S y.f (m - (c + 1) * st)) := hideIt (by have := HN.out; rw [Nat.sub_sub, ← e1] at this; exact this)
          go_wp2
          go_roundg (gk - 1)
          case rel => exact ⟨c + 1, y.S, y.f, O7, by omega, .inr (by omega), by go_num, by go_num, H7, HN'⟩
          case measure => omega
        · have hq : q = false := by rw [n1]; simp [hd]
          subst hq
          clear n1
          have e1 : (c + 1) * st = c * st + st := Nat.succ_mul c st
          have hz : m - c * st - st = 0 := by omega
          have HN' : Hid (M.Lq y.S y.f 0) := hideIt (by have := HN.out; rw [hz] at this; exact this)
          have hca := M.calls_all (m := m) (c := c) hs7 (by omega) hc15 hs1 hcs (by omega)
          have hf := HN'.out.fin H7.out.gs H7.out.gt
          obtain ⟨_, hfl⟩ := HN'.out.cnt H7.out.gs H7.out.gt
          obtain ⟨Q, hQ⟩ : ∃ Q, m / st = Q := ⟨_, rfl⟩
          obtain ⟨ov, hov⟩ : ∃ o, M.ovr m st = o := ⟨_, rfl⟩
          rw [hQ, hov] at hca
          have hQ16 : Q ≤ 16 := by rw [← hQ]; exact Nat.le_trans (Nat.div_le_self m st) (by omega)
          have hov1 : ov ≤ 1 := by rw [← hov]; unfold M.ovr; split <;> omega
          have k1 : IntKind.i64.wrap ((n : Int) - 1) = (m : Int) := by rw [hmm]; exact wrapI (by omega) (by omega)
          have k2 : (m : Int) / (st : Int) = (Q : Int) := by rw [← hQ]; exact (Int.natCast_ediv m st).symm
          have hst1 : ¬ st = 0 := by omega
          have k2' : IntKind.i64.wrap (Q : Int) = (Q : Int) := wrapI (by omega) (by omega)
          obtain ⟨Q1, hQ1⟩ : ∃ Q1 : Nat, Q + 1 = Q1 := ⟨_, rfl⟩
          have k3 : IntKind.i64.wrap ((Q : Int) + 1) = (Q1 : Int) := by
            have : (Q : Int) + 1 = (Q1 : Int) := by omega
            rw [this]; exact wrapI (by omega) (by omega)
          obtain ⟨c1, hc1⟩ : ∃ c1 : Nat, c + 1 = c1 := ⟨_, rfl⟩
          have k4 : IntKind.i64.wrap ((Q1 : Int) - (ov : Int)) = (c1 : Int) := by
            have : (Q1 : Int) - (ov : Int) = (c1 : Int) := by omega
            rw [this]; exact wrapI (by omega) (by omega)
          have k5 : (c : Int) + 1 = (c1 : Int) := by omega
          have hst0 : (st : Int) ≠ 0 := by omega
          have hft : M.fin y.S (0, 0) = true := hf
          have hOv : ∀ V : World, Calls Try.prog 25 #[.int .i64 (m : Int), .int .i64 (st : Int)] V fun e w' => e = .returned (.int .i64 (ov : Int)) ∧ V.grownBy w' none := fun V => by have := over_is m st (by omega) hs1 hs7 V; rw [hov] at this; exact this
          clear hf hca hQ hov hQ16 hov1 hz e1 HN HL hcs hd hQ1 hc1 hn hin hn1 hn16 hmm hnb hfb
          go_upto_region 25 with fail
          have HZ := hideIt (H7.out.kept (gbDrewN w7 1 none))
          have T : Ptr w7.drew p 0 s := HZ.out.c0
          go_region_held3 (fun w' => Ptr w' p 0 s)
            (first | with_reducible exact T | fail)
            ((first
              | (go_at_call 10; refine (HZ.out.full).mono ?_; rintro _ z1 ⟨vf, rfl, lf, g⟩; obtain ⟨fx, fc, rfl⟩ : ∃ fx fc, vf = .slice fx 1 fc := (by rcases lf.form with ⟨_, e⟩ | ⟨g', cap', rfl, _⟩; (rw [e] at hfl; cases hfl); (rw [hfl]; exact ⟨_, _, rfl⟩)); replace HZ := hideIt (HZ.out.kept g); replace T : Ptr z1 p 0 s := HZ.out.c0; clear g lf)
              | (go_at_call 22; refine (slot_is 0 _).mono ?_; rintro _ z1 ⟨rfl, g⟩; replace HZ := hideIt (HZ.out.kept g); replace T : Ptr z1 p 0 s := HZ.out.c0; clear g)
              | (go_at_call 24; refine (HZ.out.final 0 0 true (i64s _ (by decide) (by decide)) hft _ (gbRefl _ none)).mono ?_; rintro _ z1 ⟨rfl, g⟩; replace HZ := hideIt (HZ.out.kept g); replace T : Ptr z1 p 0 s := HZ.out.c0; clear g)
              | (go_at_call 25; refine (hOv _).mono ?_; rintro _ z1 ⟨rfl, g⟩; replace HZ := hideIt (HZ.out.kept g); replace T : Ptr z1 p 0 s := HZ.out.c0; clear g)
              | fail))
          go_wp2
          go_ret
          exact ⟨rfl, gbEnd HZ.out.gr⟩)
theorem walk (x0 : Option Addr) (len0 cap0 : Nat) (a1 : Int) (w : World) (hx0 : ∀ i, i < len0 → ∃ x z, x0 = some x ∧ w.cell? (x.add i) = some (.int .i64 z)) :
    Calls Try.prog 7 #[.slice x0 len0 cap0, .int .i64 a1] w fun e w' => e = .returned (.bool true) ∧ Below w.heap.size w w' := core x0 len0 cap0 a1 w (hideIt hx0)

set_option maxRecDepth 100000 in
theorem lifted (os : Os) (started : os.Started) (H : Type) (enc : TypeId × Value → H) :
    ReturnsInHanded {} Try.checked os 7 .any (Rows.revokeCopiesSpec.pre6 enc Try.prog Try.f7 Rows.revokeCopiesRow.domain false) (Rows.revokeCopiesSpec.post enc Try.prog Try.f7 false true false false) := by
  refine returnsInHanded_of_change (C := Try.checked) own started (by kernel_rfl) Try.func7
    (ChangeSpec.witness6 (enc := enc) (C := Try.checked) false ⟨#[], #[.slice none 0 0, .int .i64 0], []⟩ 8 (by kernel_rfl) (by kernel_rfl) (by kernel_rfl) (by kernel_rfl)) ?_
  intro W base args ds gs before hval0 hW hcnd _
  have hval : ∀ (j : Nat) t v, Try.f7.params[j]? = some t → args[j]? = some v → Value.okWide Try.prog W .any base t v := hval0
  have hW' := hW
  obtain ⟨p, q, hA0, hV, rfl, hfz, hnd⟩ := hW
  have hA : DataW.TrodAll enc Try.prog W 0 (fun _ => true) true Try.f7.params.toList args.toList ds p := hA0
  rw [Try.params7] at hA hval
  obtain ⟨v0, vs0, d0, ds0, p0, q0, hargs, rfl, rfl, h0, r0⟩ := trodAll_cons hA
  obtain ⟨v1, vs1, d1, ds1, p1, q1, rfl, rfl, rfl, h1, r1⟩ := trodAll_cons r0
  obtain ⟨rfl, rfl, rfl⟩ := trodAll_nil r1
  obtain rfl : args = #[v0, v1] := by cases args; simp_all
  obtain ⟨rfl, rfl⟩ := trodVars_none hV
  obtain ⟨x0, len0, cap0, rfl⟩ := okWide_slice Try.underlying51 (hval 0 51 v0 rfl rfl)
  have hx0 := intsArg h0
  have k0 := h0
  have lt0 : ∀ x ∈ p0, x.block < W.heap.size := by obtain ⟨m, hm⟩ := k0; exact DataW.trod_lt m _ _ _ hm
  obtain ⟨a1, rfl, rfl, rfl, w1⟩ := open_int Try.underlying3 (hval 1 3 v1 rfl rfl) h1
  clear hA0 hval0
  refine (walk x0 len0 cap0 a1 W hx0).mono fun e W' ⟨he, bel⟩ => ?_
  subst he
  exact ⟨_, rfl, _, _, _, [], _, [], hW', trodAll_mk1 (shut_bool Try.underlying4 _), (trodAll_cons_mk (Below.trod laidOut (by kernel_rfl) (of_decide_eq_true (by kernel_rfl)) k0 bel lt0) (trodAll_cons_mk (shut_int Try.underlying3 w1) trodAll_mk0)), rfl, bel.frame _, fun h => by cases h⟩

theorem over : Rows.revokeCopiesRow.holds Try.pinned (OpenSpec.ofChange Rows.revokeCopiesSpec) :=
  OpenClaim.holds_of_wide 7 Try.f7 rfl rfl rfl rfl rfl rfl rfl ⟨rfl, rfl, rfl, rfl, rfl⟩ rfl rfl rfl rfl rfl (by kernel_rfl) Try.func7 (by kernel_rfl)
    (of_decide_eq_true (by kernel_rfl)) (by unfold Func.isWrapper; first | (rw [if_pos (by decide +kernel)]; kernel_rfl) | (rw [if_neg (by decide +kernel)]; exact ⟨rfl, rfl⟩))
    (fun os started H enc _ => lifted os started H enc)

theorem proved : Rows.RevokeCopiesSaid := over
end Go.Proofs.Ytpfjcfgbecoccaa.revokeCopies
namespace Go.Proofs.Ytpfjcfgbecoccaa
theorem revokeCopies_holds : Rows.RevokeCopiesSaid := revokeCopies.proved
#print axioms revokeCopies_holds
end Go.Proofs.Ytpfjcfgbecoccaa
