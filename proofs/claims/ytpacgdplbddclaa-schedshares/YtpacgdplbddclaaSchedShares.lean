/- SchedShares: in one round of any schedule, and in two, each domain has as many ticks as its entries together; the next entry begins just as often as there are entries, and behind it the schedule is at its first entry with all its ticks. For every input, no condition. -/
import Derived.Test.YtpacgdplbddclaaShr
import Derived.Test.YtpacgdplbddclaaArgs
import Derived.Deep.Cut
import Derived.Deep.DeepCutAuto
import Derived.Deep.CutBlock
import Derived.Deep.RegionHeld3
import Derived.Test.YtpacgdplbddclaaArgs
import Derived.ProofKit
import Derived.OpenShut
import Derived.ShutString
import Derived.ChangeOld
import Derived.Below
import Derived.Deep.Slices
namespace Go.Proofs.Ytpacgdplbddclaa.schedShares
open Go.ChangeShapes Go.WideShapes Go.ChangeAt Go.RowKit
set_option linter.unusedVariables false

theorem own : ownKnob Try.prog.godebug = none := by kernel_rfl
theorem laidOut : laidOutB Try.prog = true := by kernel_rfl

set_option maxHeartbeats 8000000 in
set_option maxRecDepth 100000 in
theorem core (x0 : Option Addr) (len0 cap0 : Nat) (T : List (Int × Int)) (hl0 : T.length = len0) (a1 : Int) (w : World) (hx0 : Pairs w x0 T) :
    Calls Try.prog 6 #[.slice x0 len0 cap0, .int .i64 a1] w fun e w' => e = .returned (.bool true) ∧ w.grownBy w' none := by
  have HP := hideIt hx0
  have HL := hideIt hl0
  clear hx0 hl0
  obtain ⟨U, y, q1, q2, hy⟩ := modArg a1 2 (by decide)
  replace q2 : (U : Int) % 2 = (y : Int) := q2
  obtain ⟨m, hm⟩ : ∃ m : Nat, m = 1 + y := ⟨_, rfl⟩
  have q3 : 1 + (y : Int) = (m : Int) := by omega
  have hm2 : m ≤ 2 := by omega
  have hm1 : 1 ≤ m := by omega
  clear hm
  by_cases c16 : 16 < len0
  · have c16' : (16 : Int) < (len0 : Int) := by omega
    go_enter Try.func6, Try.ntmps6
    go_wp2_with fail
    refine (works_is w).mono ?_
    rintro e wa ⟨rfl, ga⟩
    go_wp2
    go_ret
    exact ⟨rfl, ga⟩
  have c16' : ¬ (16 : Int) < (len0 : Int) := by omega
  go_enter Try.func6, Try.ntmps6
  go_wp2_with fail
  refine (works_is w).mono ?_
  rintro e wa ⟨rfl, ga⟩
  have HPa := hideIt (HP.out.kept ga)
  replace ga := hideIt ga
  go_wp2_with fail
  refine (to_is wa x0 len0 cap0 T HPa HL (by omega)).mono ?_
  rintro e w1 ⟨y1, cy1, rfl, l1, g1⟩
  replace l1 := hideIt l1
  have g1 := hideIt (gbTrans ga.out g1)
  obtain ⟨f, hf⟩ : ∃ f : Int, (if M.ok T then 0 else 1) = f := ⟨_, rfl⟩
  replace hf := hideIt hf
  go_wp2_with fail
  refine (snew_is w1 y1 len0 cy1 T l1.out.pairs HL.out f hf.out).mono ?_
  rintro e w2 ⟨a2, rfl, g2, B1, B2⟩
  replace B1 := hideIt B1
  replace B2 := hideIt B2
  replace g2 := hideIt g2
  by_cases e1 : f = 1
  · obtain ⟨rfl, _⟩ := B1.out e1
    subst e1
    go_wp2
    go_ret
    exact ⟨rfl, gbTrans g1.out g2.out⟩
  obtain ⟨rfl, ok, p, rfl, A2⟩ := B2.out e1
  replace ok := hideIt ok
  have H2 : Hid (On (fun w O => SA w O p T 0 (M.tt T 0) (fun _ => [])) w w2 (fun i => w1.heap.size ≤ i ∧ i < w2.heap.size)) := hideIt (by
    have s1 := g1.out.size
    exact ⟨A2, fun i hi => by omega, gbTrans g1.out g2.out⟩)
  clear A2 B1 B2 hf l1 e1
  obtain ⟨W3, hW3, A3, g3, s3⟩ := A4.new w2
  obtain ⟨W4, hW4, A4', g4, s4⟩ := A4.new W3
  have H4 : Hid (Sx w W4 (fun i => w1.heap.size ≤ i ∧ i < w2.heap.size) p T 0 (M.tt T 0) w2.heap.size (fun _ => 0) W3.heap.size (fun _ => 0)) := hideIt (by
    have s1 := g1.out.size
    have s2 := g2.out.size
    exact ⟨oKept (oKept H2.out g3) g4, A3.kept g4, A4', fun e => by omega, fun e => by omega, by omega, by omega, by omega⟩)
  obtain ⟨a, ha⟩ : ∃ a, w2.heap.size = a := ⟨_, rfl⟩
  obtain ⟨b, hb⟩ : ∃ b, W3.heap.size = b := ⟨_, rfl⟩
  rw [ha, hb] at H4
  have hb2 : a + 1 = b := by omega
  clear A3 A4' g3 g4 H2 s4 g1 g2
  go_wp2_with fail
  clear ha hb hb2 hW3 hW4 s3
  have hb16 : len0 ≤ 16 := by omega
  go_loopg [9, 10] (len0 + 1) (fun gk u i wr => ∃ (c : Nat) (z : Int) (P : Nat → Prop), c + gk = len0 + 1 ∧ c ≤ len0 ∧ u = .int .i64 z ∧ i = .int .i64 c ∧ Hid (z = M.pre T c) ∧ Hid (Sx w wr P p T 0 (M.tt T 0) a (fun d => M.dt T d c) b (fun _ => 0)))
  case atStart => exact ⟨0, 0, _, by omega, by omega, rfl, rfl, hideIt rfl, hideIt (H4.out.same (fun _ _ => rfl) (fun _ _ => rfl))⟩
  case round =>
    obtain ⟨c, z, P, hc, hcn, rfl, rfl, HZ, H⟩ := hrel
    clear H4
    by_cases hlt : c < len0
    · have hlt' : (c : Int) < (len0 : Int) := by omega
      have hcT : c < T.length := by rw [HL.out]; exact hlt
      obtain ⟨x, rfl, e0, e1⟩ := (HP.out.kept H.out.o.gr) c _ (M.at_lt hcT)
      simp only at e0 e1
      have hd := ok.out.dmB hcT
      have hpb := ok.out.pre_bd c (by omega)
      have hps := M.pre_succ hcT
      obtain ⟨k, hk⟩ : ∃ k : Nat, M.dm T c = k := ⟨(M.dm T c).toNat, by omega⟩
      have hk4 : k < 4 := by omega
      have hk4' : (k : Int) < 4 := by omega
      have hk0 : (0 : Int) ≤ (k : Int) := by omega
      obtain ⟨t, ht⟩ : ∃ t, M.tt T c = t := ⟨_, rfl⟩
      have hdb := ok.out.dt_bd (k : Int) c (by omega)
      obtain ⟨v, hv⟩ : ∃ v, M.dt T (k : Int) c = v := ⟨_, rfl⟩
      rw [hk] at e0
      rw [ht] at e1 hps hd
      have eA := H.out.wa.at_ k hk4
      have fA := H.out.wa.fz k
      rw [hv] at eA hdb
      have HS : Hid (∀ d : Nat, d < 4 → upd (fun d : Nat => M.dt T d c) k (v + t) d = M.dt T d (c + 1)) := hideIt (fun d hd4 => by
        rw [M.dt, hk, ht]
        by_cases q : d = k
        · subst q; rw [upd_at, if_pos rfl, hv]
        · rw [upd_ne _ _ q, if_neg (by omega)]; omega)
      obtain ⟨W5, hW5, H5⟩ := (H.out.kept (gbDrew (gbRefl wr none))).setA hk4 (v + t)
      have H6 := hideIt (H5.same HS.out (fun _ _ => rfl))
      obtain ⟨v2, hv2⟩ : ∃ v2, v + t = v2 := ⟨_, rfl⟩
      rw [hv2] at hW5
      obtain ⟨z2, hz2⟩ : ∃ z2, z + t = z2 := ⟨_, rfl⟩
      have HZ2 : Hid (z2 = M.pre T (c + 1)) := hideIt (by rw [hps, ← HZ.out, hz2])
      have hzb : 0 ≤ z ∧ z ≤ 16000 := by have := HZ.out; omega
      have hvb : 0 ≤ v ∧ v ≤ 16000 := by omega
      have e1' := H5.o.gr
      have e2 := (HP.out.kept e1') c _ (M.at_lt hcT)
      obtain ⟨x', ex, _, e3⟩ := e2
      cases ex
      simp only at e3
      rw [ht] at e3
      clear hps hpb hdb HS H5 hk hv ht e1' HZ
      go_upto_region 13 with fail
      go_region
      all_goals
        clear eA fA e0 e1
        go_wp2
        go_roundg (gk - 1)
        case rel => exact ⟨c + 1, z2, _, by omega, by omega, by go_num, by go_num, HZ2, H6⟩
        case measure => omega
    · have hlt' : ¬ (c : Int) < (len0 : Int) := by omega
      obtain rfl : c = len0 := by omega
      obtain ⟨c0, rfl⟩ : ∃ c0, c0 = c := ⟨_, rfl⟩
      have hK := ok.out.tk_bd
      obtain ⟨K, hK2⟩ : ∃ K : Nat, M.tk T = K := ⟨(M.tk T).toNat, by omega⟩
      obtain rfl : z = (K : Int) := by rw [HZ.out, ← hK2, ← M.pre_all, HL.out]
      obtain ⟨S, hS⟩ : ∃ S : Nat, m * K = S := ⟨_, rfl⟩
      have hS1 : (m : Int) * (K : Int) = (S : Int) := by rw [← hS]; push_cast; rfl
      have hS2 : S ≤ 32000 := by
        have : m * K ≤ 2 * 16000 := Nat.mul_le_mul hm2 (by omega)
        omega
      have HSK : Hid ((S : Int) = (m : Int) * M.tk T) := hideIt (by rw [hK2, hS1])
      clear hK hK2 hS HZ
      go_wp2_with fail
      have H5 : Hid (Sx w wr P p T 0 (M.tt T 0) a (fun d => M.dt T d c0) b (fun d => M.got T d 0 (M.tt T 0) 0)) := hideIt (H.out.same (fun _ _ => rfl) (fun d _ => by rw [M.got_zero]; simp))
      have HG0 : Hid (∀ d : Nat, 0 ≤ M.got T d 0 (M.tt T 0) 0 ∧ M.got T d 0 (M.tt T 0) 0 ≤ ((0 : Nat) : Int)) := hideIt (fun d => by rw [M.got_zero]; simp)
      clear H
      go_loopg [11, 12] (S + 1) (fun gk u i wr => ∃ (c n : Nat) (l r z : Int) (P : Nat → Prop), c + gk = S + 1 ∧ c ≤ S ∧ u = .int .i64 z ∧ i = .int .i64 c ∧ Hid (z = r * (T.length : Int) + (n : Int)) ∧ 0 ≤ z ∧ z ≤ c ∧ Hid (M.Sh T c n l r) ∧ Hid (∀ d : Nat, 0 ≤ M.got T d n l r ∧ M.got T d n l r ≤ (c : Int)) ∧ Hid (Sx w wr P p T n l a (fun d => M.dt T d c0) b (fun d => M.got T d n l r)))
      case atStart => exact ⟨0, 0, M.tt T 0, 0, 0, P, by omega, by omega, rfl, rfl, hideIt (by simp), by omega, by omega, hideIt (M.Sh.zero ok.out), HG0, H5⟩
      case round =>
        obtain ⟨c, n, l, r, z, P, hc, hcS, rfl, rfl, HZ, hz0, hzc, HS, HG, H⟩ := hrel
        clear H5 HG0
        obtain ⟨N, ps, _⟩ := id HS.out
        replace ps := hideIt ps
        by_cases hlt : c < S
        · have hlt' : (c : Int) < (S : Int) := by omega
          have hd := ok.out.dmB ps.out.lt
          obtain ⟨k, hk⟩ : ∃ k : Nat, M.dm T n = k := ⟨(M.dm T n).toNat, by omega⟩
          have hk4 : k < 4 := by omega
          have hk4' : (k : Int) < 4 := by omega
          have hk0 : (0 : Int) ≤ (k : Int) := by omega
          obtain ⟨r', hs1, hs2, hs3⟩ := M.Sh.step ok.out HS.out
          have HS1 := hideIt hs1
          have HS2 := hideIt hs2
          have HS3 := hideIt hs3
          have hgk := HG.out k
          obtain ⟨v, hv⟩ : ∃ v, M.got T k n l r = v := ⟨_, rfl⟩
          rw [hv] at hgk
          obtain ⟨v2, hv2⟩ : ∃ v2, v + 1 = v2 := ⟨_, rfl⟩
          have HU : Hid (∀ d : Nat, d < 4 → upd (fun d : Nat => M.got T d n l r) k v2 d = M.got T d (M.tn T n l) (M.tl T n l) r') := hideIt (fun d hd4 => by
            rw [HS2.out, hk]
            by_cases q : d = k
            · subst q; rw [upd_at, if_pos rfl, hv]; omega
            · rw [upd_ne _ _ q, if_neg (by omega)]; omega)
          have HG2 : Hid (∀ d : Nat, 0 ≤ M.got T d (M.tn T n l) (M.tl T n l) r' ∧ M.got T d (M.tn T n l) (M.tl T n l) r' ≤ ((c + 1 : Nat) : Int)) := hideIt (fun d => by
            rw [HS2.out]
            have := HG.out d
            split <;> omega)
          have hkD := hideIt hk
          replace hv := hideIt hv
          clear hs1 hs2 hs3 hd hk HS2
          go_wp2_with fail
          refine (domain_is H.out.o.a ps.out.lt ok.out.l2).mono ?_
          rw [hkD.out]
          rintro e w5 ⟨rfl, g5⟩
          have H5 := H.out.kept g5
          have eB := H5.wb.at_ k hk4
          rw [hv.out] at eB
          have fB := H5.wb.fz k
          obtain ⟨W6, hW6, H6⟩ := H5.setB hk4 v2
          replace H6 := hideIt H6
          clear g5 H H5
          obtain ⟨b', hb'⟩ : ∃ b', decide (l = 1) = b' := ⟨_, rfl⟩
          have hbz : Hid (if l = 1 then b' = true else b' = false) := hideIt (by rw [← hb']; split <;> simp [*])
          replace hb' := hideIt hb'
          go_wp2_with fail
          clear eB fB hW6
          refine (tick_is H6.out.o.a ok.out ps.out b' hb'.out).mono ?_
          rintro e w7 ⟨rfl, Z7, F7⟩
          have H7 := hideIt ((H6.out.turn Z7 F7).same (fun _ _ => rfl) HU.out)
          clear Z7 F7 H6
          cases b' with
          | true =>
            have h1 : l = 1 := by simpa using hb'.out
            have HZ2 : Hid (z + 1 = r' * (T.length : Int) + (M.tn T n l : Int)) := hideIt (by rw [HS3.out, HZ.out, if_pos h1])
            clear h1 hbz hb' HS3
            go_wp2
            go_roundg (gk - 1)
            case rel => exact ⟨c + 1, _, _, r', z + 1, _, by omega, by omega, by go_num, by go_num, HZ2, by omega, by omega, HS1, HG2, H7⟩
            case measure => omega
          | false =>
            have h1 : ¬ l = 1 := by simpa using hb'.out
            have HZ2 : Hid (z = r' * (T.length : Int) + (M.tn T n l : Int)) := hideIt (by rw [HS3.out, HZ.out, if_neg h1]; omega)
            clear h1 hbz hb' HS3
            go_wp2
            go_roundg (gk - 1)
            case rel => exact ⟨c + 1, _, _, r', z, _, by omega, by omega, rfl, by go_num, HZ2, by omega, by omega, HS1, HG2, H7⟩
            case measure => omega
        · have hlt' : ¬ (c : Int) < (S : Int) := by omega
          obtain rfl : c = S := by omega
          have hsd := HS.out
          rw [HSK.out] at hsd
          obtain ⟨rfl, rfl, rfl⟩ := M.Sh.done ok.out hsd
          have H5 : Hid (Sx w wr P p T 0 (M.tt T 0) a (fun d => M.dt T d c0) b (fun d => (m : Int) * M.dt T d c0)) := hideIt (H.out.same (fun _ _ => rfl) (fun d _ => by rw [M.got_zero, HL.out]))
          have HZ2 : Hid ((m : Int) * (c0 : Int) = z) := hideIt (by rw [HZ.out, HL.out]; simp)
          clear hsd H HZ HS HG
          obtain ⟨So, rfl⟩ : ∃ So, So = c := ⟨_, rfl⟩
          obtain ⟨wo, rfl⟩ : ∃ wo, wo = wr := ⟨_, rfl⟩
          go_wp2_with fail
          go_loopg [13] 5 (fun gk i wr => ∃ (c : Nat), c + gk = 5 ∧ c ≤ 4 ∧ i = .int .i64 c ∧ Hid (Sx w wr P p T 0 (M.tt T 0) a (fun d => M.dt T d c0) b (fun d => (m : Int) * M.dt T d c0)))
          case atStart => exact ⟨0, by omega, by omega, rfl, H5⟩
          case round =>
            obtain ⟨c, hc, hc4, rfl, H⟩ := hrel
            clear H5
            by_cases hlt : c < 4
            · have hlt' : (c : Int) < 4 := by omega
              have hc0 : (0 : Int) ≤ (c : Int) := by omega
              have eA := H.out.wa.at_ c hlt
              have eB := H.out.wb.at_ c hlt
              have hdb := ok.out.dt_bd (c : Int) c0 (by rw [HL.out]; exact Nat.le_refl _)
              have hpb := (ok.out.pre_bd c0 (by rw [HL.out]; exact Nat.le_refl _)).2
              obtain ⟨v, hv⟩ : ∃ v, M.dt T (c : Int) c0 = v := ⟨_, rfl⟩
              rw [hv] at eA eB hdb
              obtain ⟨v2, hv2⟩ : ∃ v2, (m : Int) * v = v2 := ⟨_, rfl⟩
              rw [hv2] at eB
              have hv3 : 0 ≤ v2 ∧ v2 ≤ 40000 := by
                have : m = 1 ∨ m = 2 := by omega
                rcases this with rfl | rfl <;> omega
              clear hdb hpb hv
              go_upto_region 26 with fail
              go_region
              all_goals
                clear eA eB
                go_wp2
                go_roundg (gk - 1)
                case rel => exact ⟨c + 1, by omega, by omega, by go_num, hideIt (H.out.kept (gbDrew (gbRefl wr none)))⟩
                case measure => omega
            · have hlt' : ¬ (c : Int) < 4 := by omega
              have hlt0 : 0 < T.length := ok.out.l1
              go_wp2_with fail
              refine (now_is H.out.o.a hlt0).mono ?_
              rintro e w5 ⟨rfl, g5⟩
              have G5 := hideIt (gbTrans H.out.o.gr g5)
              obtain ⟨x, rfl, _, e1⟩ := (HP.out.kept G5.out) 0 _ (M.at_lt hlt0)
              have ez : x.add (0 * 2) = x := by rw [Nat.zero_mul]; unfold Addr.add; simp
              rw [ez] at e1
              simp only at e1
              have hlc : 0 < c0 := by rw [← HL.out]; exact hlt0
              have hlc' : (0 : Int) < (c0 : Int) := by omega
              have hz := HZ2.out
              clear g5 H ez
              go_wp2
              go_ret
              exact ⟨rfl, G5.out⟩

theorem walk (x0 : Option Addr) (len0 cap0 : Nat) (T : List (Int × Int)) (hl0 : T.length = len0) (a1 : Int) (w : World) (hx0 : Pairs w x0 T) :
    Calls Try.prog 6 #[.slice x0 len0 cap0, .int .i64 a1] w fun e w' => e = .returned (.bool true) ∧ Below w.heap.size w w' := endWalk (core x0 len0 cap0 T hl0 a1 w hx0)

set_option maxRecDepth 100000 in
theorem lifted (os : Os) (started : os.Started) (H : Type) (enc : TypeId × Value → H) :
    ReturnsInHanded {} Try.checked os 6 .any (Rows.schedSharesSpec.pre6 enc Try.prog Try.f6 Rows.schedSharesRow.domain false) (Rows.schedSharesSpec.post enc Try.prog Try.f6 false true false false) := by
  refine returnsInHanded_of_change (C := Try.checked) own started (by kernel_rfl) Try.func6
    (ChangeSpec.witness6 (enc := enc) (C := Try.checked) false ⟨#[], #[.slice none 0 0, .int .i64 0], []⟩ 8 (by kernel_rfl) (by kernel_rfl) (by kernel_rfl) (by kernel_rfl)) ?_
  intro W base args ds gs before hval0 hW hcnd _
  have hval : ∀ (j : Nat) t v, Try.f6.params[j]? = some t → args[j]? = some v → Value.okWide Try.prog W .any base t v := hval0
  have hW' := hW
  obtain ⟨p, q, hA0, hV, rfl, hfz, hnd⟩ := hW
  have hA : DataW.TrodAll enc Try.prog W 0 (fun _ => true) true Try.f6.params.toList args.toList ds p := hA0
  rw [Try.params6] at hA hval
  obtain ⟨v0, vs0, d0, ds0, p0, q0, hargs, rfl, rfl, h0, r0⟩ := trodAll_cons hA
  obtain ⟨v1, vs1, d1, ds1, p1, q1, rfl, rfl, rfl, h1, r1⟩ := trodAll_cons r0
  obtain ⟨rfl, rfl, rfl⟩ := trodAll_nil r1
  obtain rfl : args = #[v0, v1] := by cases args; simp_all
  obtain ⟨rfl, rfl⟩ := trodVars_none hV
  obtain ⟨x0, len0, cap0, rfl⟩ := okWide_slice Try.underlying22 (hval 0 22 v0 rfl rfl)
  obtain ⟨L0, hl0, hx0⟩ := timesArg h0
  have k0 := h0
  have lt0 : ∀ x ∈ p0, x.block < W.heap.size := by obtain ⟨m, hm⟩ := k0; exact DataW.trod_lt m _ _ _ hm
  obtain ⟨a1, rfl, rfl, rfl, w1⟩ := open_int Try.underlying3 (hval 1 3 v1 rfl rfl) h1
  clear hA0 hval0
  refine (walk x0 len0 cap0 L0 hl0 a1 W hx0).mono fun e W' ⟨he, bel⟩ => ?_
  subst he
  exact ⟨_, rfl, _, _, _, [], _, [], hW', trodAll_mk1 (shut_bool Try.underlying4 _), (trodAll_cons_mk (Below.trod laidOut (by kernel_rfl) (of_decide_eq_true (by kernel_rfl)) k0 bel lt0) (trodAll_cons_mk (shut_int Try.underlying3 w1) trodAll_mk0)), rfl, bel.frame _, fun h => by cases h⟩

theorem over : Rows.schedSharesRow.holds Try.pinned (OpenSpec.ofChange Rows.schedSharesSpec) :=
  OpenClaim.holds_of_wide 6 Try.f6 rfl rfl rfl rfl rfl rfl rfl ⟨rfl, rfl, rfl, rfl, rfl⟩ rfl rfl rfl rfl rfl (by kernel_rfl) Try.func6 (by kernel_rfl)
    (of_decide_eq_true (by kernel_rfl)) (by unfold Func.isWrapper; first | (rw [if_pos (by decide +kernel)]; kernel_rfl) | (rw [if_neg (by decide +kernel)]; exact ⟨rfl, rfl⟩))
    (fun os started H enc _ => lifted os started H enc)

theorem proved : Rows.SchedSharesSaid := over
end Go.Proofs.Ytpacgdplbddclaa.schedShares
namespace Go.Proofs.Ytpacgdplbddclaa
theorem schedShares_holds : Rows.SchedSharesSaid := schedShares.proved
#print axioms schedShares_holds
end Go.Proofs.Ytpacgdplbddclaa
