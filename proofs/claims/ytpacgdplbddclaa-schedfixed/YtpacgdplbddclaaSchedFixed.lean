/- SchedFixed: it hangs on ticks alone: of any schedule, whichever threads are put, dropped and yielded, behind so many ticks the domain is the one that the schedule has at that tick, over and over. For every input, no condition. -/
import Derived.Test.YtpacgdplbddclaaFix
import Derived.Test.YtpacgdplbddclaaArgs
import Derived.Deep.Cut
import Derived.Deep.DeepCutAuto
import Derived.Deep.CutBlock
import Derived.Deep.RegionHeld3
import Derived.Test.YtpacgdplbddclaaArgs
import Derived.ProofKit
import Derived.OpenShut
import Derived.ShutString
import Derived.ChangeOld
import Derived.Below
import Derived.Deep.Slices
namespace Go.Proofs.Ytpacgdplbddclaa.schedFixed
open Go.ChangeShapes Go.WideShapes Go.ChangeAt Go.RowKit
set_option linter.unusedVariables false

theorem own : ownKnob Try.prog.godebug = none := by kernel_rfl
theorem laidOut : laidOutB Try.prog = true := by kernel_rfl

/-- The schedule and the plan, i ticks gone. -/
structure Fx (w0 w : World) (P R : Nat → Prop) (p : Nat) (T : List (Int × Int)) (n : Nat) (l N : Int) (F : Nat → List (Int × Int)) (v : Value) (i : Nat) : Prop where
  t : SL w0 w P R p T n l F v (M.pln T T.length)
  gf : M.GF F
  ps : M.Ps T n l N
  eq : (i : Int) % M.tk T = N
abbrev Tc (w : World) (y : Addr) (r : Q) : Prop := w.cell? ⟨y.block, y.off + 1, none⟩ = some (.int .i64 r.i) ∧ w.cell? ⟨y.block, y.off + 2, none⟩ = some (.int .i64 r.d) ∧ w.cell? ⟨y.block, y.off + 3, none⟩ = some (.int .i64 r.l)
theorem tcOf {w : World} {y : Addr} {r : Q} (h : El4 w y r) : Tc w y r := ⟨h.at1, h.at2, h.at3⟩

set_option maxHeartbeats 8000000 in
set_option maxRecDepth 100000 in
theorem core (x0 : Option Addr) (len0 cap0 : Nat) (T : List (Int × Int)) (hl0 : T.length = len0) (x1 : Option Addr) (len1 cap1 : Nat) (a2 : Int) (w : World) (hx0 : Pairs w x0 T) (hx1 : Acts4 w x1 len1) :
    Calls Try.prog 4 #[.slice x0 len0 cap0, .slice x1 len1 cap1, .int .i64 a2] w fun e w' => e = .returned (.bool true) ∧ w.grownBy w' none := by
  have HP := hideIt hx0
  have HX := hideIt hx1
  have HL := hideIt hl0
  clear hx0 hx1 hl0
  obtain ⟨U, y, q1, q2, hy⟩ := modArg a2 3000 (by decide)
  replace q2 : (U : Int) % 3000 = (y : Int) := q2
  by_cases c16 : 16 < len0
  · have c16' : (16 : Int) < (len0 : Int) := by omega
    go_enter Try.func4, Try.ntmps4
    go_wp2_with fail
    refine (works_is w).mono ?_
    rintro e wa ⟨rfl, ga⟩
    go_wp2
    go_ret
    exact ⟨rfl, ga⟩
  have c16' : ¬ (16 : Int) < (len0 : Int) := by omega
  go_enter Try.func4, Try.ntmps4
  go_wp2_with fail
  refine (works_is w).mono ?_
  rintro e wa ⟨rfl, ga⟩
  have HPa := hideIt (HP.out.kept ga)
  replace ga := hideIt ga
  go_wp2_with fail
  refine (to_is wa x0 len0 cap0 T HPa HL (by omega)).mono ?_
  rintro e w1 ⟨y1, cy1, rfl, l1, g1⟩
  replace l1 := hideIt l1
  have g1 := hideIt (gbTrans ga.out g1)
  obtain ⟨f, hf⟩ : ∃ f : Int, (if M.ok T then 0 else 1) = f := ⟨_, rfl⟩
  replace hf := hideIt hf
  go_wp2_with fail
  refine (snew_is w1 y1 len0 cy1 T l1.out.pairs HL.out f hf.out).mono ?_
  rintro e w2 ⟨b2, rfl, g2, B1, B2⟩
  replace B1 := hideIt B1
  replace B2 := hideIt B2
  replace g2 := hideIt g2
  by_cases e1 : f = 1
  · obtain ⟨rfl, _⟩ := B1.out e1
    subst e1
    go_wp2
    go_ret
    exact ⟨rfl, gbTrans g1.out g2.out⟩
  obtain ⟨rfl, ok, p, rfl, A2⟩ := B2.out e1
  replace ok := hideIt ok
  have H2 : Hid (SL w w2 (fun i => w1.heap.size ≤ i ∧ i < w2.heap.size) (fun _ => False) p T 0 (M.tt T 0) (fun _ => []) (.slice none 0 0) (M.pln T 0)) := hideIt (by
    have s1 := g1.out.size
    exact Tw.begin ⟨A2, fun i hi => by omega, gbTrans g1.out g2.out⟩)
  clear A2 B1 B2 hf l1 e1 g1 g2 ga
  have hb16 : len0 ≤ 16 := by omega
  obtain ⟨P2, hP2⟩ : ∃ P2, P2 = (fun i => w1.heap.size ≤ i ∧ i < w2.heap.size) := ⟨_, rfl⟩
  rw [← hP2] at H2
  clear hP2
  go_wp2_with fail
  go_loopg [9, 10] (len0 + 1) (fun gk u i wr => ∃ (c : Nat) (x : Option Addr) (n cc : Nat) (R : Nat → Prop), c + gk = len0 + 1 ∧ c ≤ len0 ∧ u = .slice x n cc ∧ i = .int .i64 c ∧ Hid ((M.pln T c).length = n) ∧ Hid (SL w wr P2 R p T 0 (M.tt T 0) (fun _ => []) (.slice x n cc) (M.pln T c)))
  case atStart => exact ⟨0, none, 0, 0, _, by omega, by omega, rfl, rfl, hideIt rfl, H2⟩
  case round =>
    obtain ⟨c, xx, n, cc, R, hc, hcn, rfl, rfl, HN, H⟩ := hrel
    clear H2
    by_cases hlt : c < len0
    · have hlt' : (c : Int) < (len0 : Int) := by omega
      have hcT : c < T.length := by rw [HL.out]; exact hlt
      have hd := ok.out.dmB hcT
      have hpl := ok.out.pln_len c (by omega)
      have hpb := (ok.out.pre_bd c (by omega)).2
      have hn : n ≤ 16000 := by have := HN.out; omega
      obtain ⟨t, ht⟩ : ∃ t : Nat, M.tt T c = t := ⟨(M.tt T c).toNat, by omega⟩
      have ht1 : t ≤ 1000 := by omega
      have HT := hideIt ht
      have HC := hideIt hcT
      have HH : Hid (SL w wr P2 R p T 0 (M.tt T 0) (fun _ => []) (.slice xx n cc) (M.pln T c ++ List.replicate 0 (M.dm T c))) := hideIt (by simpa using H.out)
      clear hd hpl hpb ht hcT H
      obtain ⟨G, rfl⟩ : ∃ G, G = gk := ⟨_, rfl⟩
      obtain ⟨c, rfl⟩ : ∃ c', c' = c := ⟨_, rfl⟩
      go_wp2_with fail
      go_loopg [9, 11] (t + 1) (fun gk u i wx => ∃ (k : Nat) (x : Option Addr) (m cc : Nat) (R : Nat → Prop), k + gk = t + 1 ∧ k ≤ t ∧ u = .slice x m cc ∧ i = .int .i64 k ∧ Hid (m = n + k) ∧ Hid (SL w wx P2 R p T 0 (M.tt T 0) (fun _ => []) (.slice x m cc) (M.pln T c ++ List.replicate k (M.dm T c))))
      case atStart => exact ⟨0, xx, n, cc, R, by omega, by omega, rfl, rfl, hideIt (by omega), HH⟩
      case round =>
        obtain ⟨k, xx, m, cc, R, hk, hkt, rfl, rfl, hm, H⟩ := hrel
        clear HH
        obtain ⟨x, rfl, e0, e1⟩ := (HP.out.kept H.out.gr) c _ (M.at_lt HC.out)
        simp only [HT.out] at e0 e1
        by_cases hlk : k < t
        · have hlk' : (k : Int) < (t : Int) := by omega
          obtain ⟨d, hd⟩ : ∃ d, M.dm T c = d := ⟨_, rfl⟩
          rw [hd] at e0
          have hDn : (M.pln T c ++ List.replicate k (M.dm T c)).length = m := by rw [List.length_append, HN.out, List.length_replicate, hm.out]
          have hmb : m ≤ 20000 := by have := hm.out; omega
          obtain ⟨x6, cap6, w7, hr, H8, F8, G8⟩ := Tw.app (kSA p T 0 _ _) H.out hDn run_append_i (gbAlloc wr (.cells #[.int .i64 d] 3) none) ⟨wr.heap.size, 0, none⟩ 1 d (rowI wr d) hmb
          have H9 : Hid (SL w w7 P2 _ p T 0 (M.tt T 0) (fun _ => []) (.slice x6 (m + 1) cap6) (M.pln T c ++ List.replicate (k + 1) (M.dm T c))) := hideIt (by
            have := H8.out
            rw [← hd, M.pln_more] at this
            exact this)
          clear H8 F8 G8 hDn hd
          go_wp2_with (at_builtin; refine wpList_append_run rfl (.tmp 47) (.tmp 53) rfl (.slice xx m cc) (.slice (some ⟨wr.heap.size, 0, none⟩) 1 1) rfl rfl (.slice x6 (m + 1) cap6) w7 hr ?_)
          go_roundg (gk - 1)
          case rel => exact ⟨k + 1, x6, m + 1, cap6, _, by omega, by omega, rfl, by go_num, hideIt (by have := hm.out; omega), H9⟩
          case measure => omega
        · have hlk' : ¬ (k : Int) < (t : Int) := by omega
          obtain rfl : k = t := by omega
          have H9 : Hid (SL w wr P2 R p T 0 (M.tt T 0) (fun _ => []) (.slice xx m cc) (M.pln T (c + 1))) := hideIt (by
            have := H.out
            rw [M.pln, HT.out, Int.toNat_natCast]
            exact this)
          have HN2 : Hid ((M.pln T (c + 1)).length = m) := hideIt (by rw [M.pln, HT.out, Int.toNat_natCast, List.length_append, HN.out, List.length_replicate, hm.out])
          clear H
          go_wp2
          go_roundg (G - 1)
          case rel => exact ⟨c + 1, xx, m, cc, R, by omega, by omega, rfl, by go_num, HN2, H9⟩
          case measure => omega
    · have hlt' : ¬ (c : Int) < (len0 : Int) := by omega
      obtain rfl : c = len0 := by omega
      obtain ⟨c0, rfl⟩ : ∃ c0, c0 = c := ⟨_, rfl⟩
      have hK := ok.out.tk_bd
      have hnK : (n : Int) = M.tk T := by rw [← HN.out, ok.out.pln_len c0 (by rw [HL.out]; exact Nat.le_refl _), ← M.pre_all, HL.out]
      have HK := hideIt hnK
      have hn0 : 0 < n := by omega
      have hn1 : n ≤ 16000 := by omega
      have H5 : Hid (Fx w wr P2 R p T 0 (M.tt T 0) 0 (fun _ => []) (.slice xx n cc) 0) := hideIt (by
        have h1 := H.out
        refine ⟨by rw [HL.out]; exact h1, M.GF.nil, M.Ps.zero ok.out, by simp⟩)
      clear H hK hnK HN
      go_wp2_with fail
      clear hlt
      go_loopg [12] (y + 1) (fun gk i wr => ∃ (j : Nat) (P R : Nat → Prop) (k : Nat) (l N : Int) (F : Nat → List (Int × Int)), j + gk = y + 1 ∧ j ≤ y ∧ i = .int .i64 j ∧ Hid (Fx w wr P R p T k l N F (.slice xx n cc) j))
      case atStart => exact ⟨0, _, _, 0, _, _, _, by omega, by omega, rfl, H5⟩
      case round =>
        obtain ⟨j, P, R, k, l, N, F, hj, hjy, rfl, H⟩ := hrel
        clear H5
        by_cases hlt : j < y
        · have hlt' : (j : Int) < (y : Int) := by omega
          have hps := hideIt H.out.ps
          have hgf := hideIt H.out.gf
          have hbd := hps.out.bd ok.out
          obtain ⟨m, hm⟩ : ∃ m : Nat, N = m := ⟨N.toNat, by omega⟩
          have hat := ok.out.plan hps.out
          rw [hm, Int.toNat_natCast] at hat
          obtain ⟨d, hd⟩ : ∃ d, M.dm T k = d := ⟨_, rfl⟩
          have hdd := hideIt hd
          obtain ⟨g, rfl, e0⟩ := lbAt H.out.t.b m _ hat
          rw [hd] at e0
          have hmn : m < n := by
            have h1 := (List.getElem?_eq_some_iff.1 hat).1
            have h2 := ok.out.pln_len T.length (Nat.le_refl _)
            rw [M.pre_all, ← HK.out] at h2
            omega
          have z1 : (j : Int) % (n : Int) = (m : Int) := by rw [HK.out, H.out.eq, hm]
          have z2 : (j : Int).tmod (n : Int) = (m : Int) := by rw [Int.tmod_eq_emod_of_nonneg (by omega)]; exact z1
          have z3 : ¬ (n : Int) = 0 := by omega
          have z4 : ¬ n = 0 := by omega
          have z5 : (m : Int) < (n : Int) := by omega
          have z6 : IntKind.i64.wrap (m : Int) = (m : Int) := wI rfl (by omega)
          have z7 : (0 : Int) ≤ (m : Int) := by omega
          have z8 : IntKind.i64.wrap (j : Int) = (j : Int) := wI rfl (by omega)
          have HNX : Hid (((j + 1 : Nat) : Int) % M.tk T = (N + 1) % M.tk T) := hideIt (by rw [← H.out.eq, M.mod_next _ _ (by have := ok.out.tk_bd; omega)]; push_cast; rfl)
          have gd0 := gbDrew (gbRefl wr none)
          have Hd := hideIt (H.out.t.kp gd0)
          have E0 := e0
          have E1 := gd0.cell e0 (by simp)
          have HT := hideIt H.out.t
          have hmm := hideIt hm
          clear hbd hm hat hd H e0 z1 gd0
          go_upto_region 19 with fail
          go_region_held3 (fun w' => w'.cell? ⟨g, m, none⟩ = some (.int .i64 d))
            (first | with_reducible exact E0 | with_reducible exact E1 | with_reducible exact E2 | fail)
            ((go_at_call 23; refine (domain_is Hd.out.a hps.out.lt ok.out.l2).mono ?_; rw [hdd.out]; rintro e w6 ⟨rfl, g6⟩; have H6 := hideIt (Hd.out.kp g6); have E2 := g6.cell E1 (by simp)))
          rename_i hold
          clear hold E0 E1 E2 Hd g6 HT
          go_upto_if 76 with fail
          go_cut [7] from 73 to 119 (fun s wc => s = .pointer (some ⟨p, 0, none⟩) ∧ ∃ (P : Nat → Prop) (F : Nat → List (Int × Int)), Hid (SL w wc P R p T k l F (.slice (some ⟨g, 0, none⟩) n cc) (M.pln T T.length)) ∧ Hid (M.GF F))
          case first =>
            by_cases hl1 : j < len1
            · have hl1' : (j : Int) < (len1 : Int) := by omega
              obtain ⟨x, r, rfl, hE⟩ := HX.out j hl1
              replace hE := hideIt hE
              have hk0 := (hE.out.kept H6.out.gr).at0
              have gd0 := gbDrew (gbRefl w6 none)
              have Hd := hideIt (H6.out.kp gd0)
              have T0 : Tc w6 (x.add (j * 4)) r := tcOf (hE.out.kept H6.out.gr)
              have T1 : Tc w6.drew (x.add (j * 4)) r := tcOf (hE.out.kept Hd.out.gr)
              clear gd0
              go_upto_region 22 with fail
              go_region_held3 (fun w' => Tc w' (x.add (j * 4)) r)
                (first | with_reducible exact T0 | with_reducible exact T1 | with_reducible exact T7 | fail)
                ((go_at_call 11; refine (sput_is Hd.out.a hgf.out r.i r.d r.l _ rfl).mono ?_; rintro e w7 ⟨rfl, Z7, F7⟩; have H7 := hideIt (Hd.out.pr Z7 F7); have T7 : Tc w7 (x.add (j * 4)) r := tcOf (hE.out.kept H7.out.gr); clear Z7 F7))
              rename_i hold
              clear hold T0 T1 T7 Hd H6 hk0
              have hg7 := hideIt (hgf.out.put r.i r.d r.l)
              obtain ⟨r0, r1, _, _⟩ := hE.out.kept H7.out.gr
              by_cases k1 : (r.k == 1) = true
              · have k1 : (r.k == 1) = true := k1
                have k2 : (r.k == 2) = false := by simp at k1 ⊢; omega
                go_wp2_with fail
                refine (sdrop_is H7.out.a hg7.out r.i _ rfl).mono ?_
                rintro e w8 ⟨rfl, Z8, F8⟩
                have H8 := hideIt (H7.out.pr Z8 F8)
                have r0 := (hE.out.kept H8.out.gr).at0
                clear Z8 F8 H7 r1
                go_wp2
                go_meet
                exact ⟨rfl, _, _, H8, hideIt (hg7.out.drop r.i)⟩
              · have k1 : (r.k == 1) = false := by simpa using k1
                by_cases k2 : (r.k == 2) = true
                · have k2 : (r.k == 2) = true := k2
                  go_wp2_with fail
                  refine (syield_is H7.out.a hg7.out r.i _ rfl).mono ?_
                  rintro e w8 ⟨rfl, Z8, F8⟩
                  have H8 := hideIt (H7.out.pr Z8 F8)
                  clear Z8 F8 H7 r1 r0
                  go_wp2
                  go_meet
                  exact ⟨rfl, _, _, H8, hideIt (hg7.out.yield r.i)⟩
                · have k2 : (r.k == 2) = false := by simpa using k2
                  go_wp2
                  go_meet
                  exact ⟨rfl, _, _, H7, hg7⟩
            · have hl1' : ¬ (j : Int) < (len1 : Int) := by omega
              go_wp2
              go_meet
              exact ⟨rfl, _, _, H6, hgf⟩
          case rest =>
            obtain ⟨rfl, P', F', H', hg'⟩ := hcut
            clear H6 hgf
            have hat := ok.out.plan hps.out
            have e0 : wc.cell? ⟨g, m, none⟩ = some (.int .i64 d) := by
              obtain ⟨g', eg, e0⟩ := lbAt H'.out.b m d (by rw [← hdd.out]; have := hmm.out; rw [this, Int.toNat_natCast] at hat; exact hat)
              cases eg
              exact e0
            clear hat
            have gd0 := gbDrew (gbRefl wc none)
            have Hd := hideIt (H'.out.kp gd0)
            have E0 := e0
            have E1 := gd0.cell e0 (by simp)
            clear e0 gd0 H'
            go_upto_region 27 with fail
            go_region_held3 (fun w' => w'.cell? ⟨g, m, none⟩ = some (.int .i64 d))
              (first | with_reducible exact E0 | with_reducible exact E1 | with_reducible exact E2 | fail)
              ((go_at_call 23; refine (domain_is Hd.out.a hps.out.lt ok.out.l2).mono ?_; rw [hdd.out]; rintro e w8 ⟨rfl, g8⟩; have H8 := hideIt (Hd.out.kp g8); have E2 := g8.cell E1 (by simp)))
            rename_i hold
            clear hold E0 E1 E2 Hd g8
            go_wp2_with fail
            refine (tick_is H8.out.a ok.out hps.out _ rfl).mono ?_
            rintro e w9 ⟨rfl, Z9, F9⟩
            have H9 := hideIt (H8.out.pr Z9 F9)
            clear Z9 F9 H8
            go_wp2
            go_roundg (gk - 1)
            case rel => exact ⟨j + 1, _, _, _, _, _, _, by omega, by omega, by go_num, hideIt ⟨H9.out, hg'.out, hps.out.tick ok.out, HNX.out⟩⟩
            case measure => omega
        · have hlt' : ¬ (j : Int) < (y : Int) := by omega
          go_wp2
          go_ret
          exact ⟨rfl, H.out.t.gr⟩

theorem walk (x0 : Option Addr) (len0 cap0 : Nat) (T : List (Int × Int)) (hl0 : T.length = len0) (x1 : Option Addr) (len1 cap1 : Nat) (a2 : Int) (w : World) (hx0 : Pairs w x0 T) (hx1 : Acts4 w x1 len1) :
    Calls Try.prog 4 #[.slice x0 len0 cap0, .slice x1 len1 cap1, .int .i64 a2] w fun e w' => e = .returned (.bool true) ∧ Below w.heap.size w w' := endWalk (core x0 len0 cap0 T hl0 x1 len1 cap1 a2 w hx0 hx1)

set_option maxRecDepth 100000 in
theorem lifted (os : Os) (started : os.Started) (H : Type) (enc : TypeId × Value → H) :
    ReturnsInHanded {} Try.checked os 4 .any (Rows.schedFixedSpec.pre6 enc Try.prog Try.f4 Rows.schedFixedRow.domain false) (Rows.schedFixedSpec.post enc Try.prog Try.f4 false true false false) := by
  refine returnsInHanded_of_change (C := Try.checked) own started (by kernel_rfl) Try.func4
    (ChangeSpec.witness6 (enc := enc) (C := Try.checked) false ⟨#[], #[.slice none 0 0, .slice none 0 0, .int .i64 0], []⟩ 8 (by kernel_rfl) (by kernel_rfl) (by kernel_rfl) (by kernel_rfl)) ?_
  intro W base args ds gs before hval0 hW hcnd _
  have hval : ∀ (j : Nat) t v, Try.f4.params[j]? = some t → args[j]? = some v → Value.okWide Try.prog W .any base t v := hval0
  have hW' := hW
  obtain ⟨p, q, hA0, hV, rfl, hfz, hnd⟩ := hW
  have hA : DataW.TrodAll enc Try.prog W 0 (fun _ => true) true Try.f4.params.toList args.toList ds p := hA0
  rw [Try.params4] at hA hval
  obtain ⟨v0, vs0, d0, ds0, p0, q0, hargs, rfl, rfl, h0, r0⟩ := trodAll_cons hA
  obtain ⟨v1, vs1, d1, ds1, p1, q1, rfl, rfl, rfl, h1, r1⟩ := trodAll_cons r0
  obtain ⟨v2, vs2, d2, ds2, p2, q2, rfl, rfl, rfl, h2, r2⟩ := trodAll_cons r1
  obtain ⟨rfl, rfl, rfl⟩ := trodAll_nil r2
  obtain rfl : args = #[v0, v1, v2] := by cases args; simp_all
  obtain ⟨rfl, rfl⟩ := trodVars_none hV
  obtain ⟨x0, len0, cap0, rfl⟩ := okWide_slice Try.underlying22 (hval 0 22 v0 rfl rfl)
  obtain ⟨L0, hl0, hx0⟩ := timesArg h0
  have k0 := h0
  have lt0 : ∀ x ∈ p0, x.block < W.heap.size := by obtain ⟨m, hm⟩ := k0; exact DataW.trod_lt m _ _ _ hm
  obtain ⟨x1, len1, cap1, rfl⟩ := okWide_slice Try.underlying23 (hval 1 23 v1 rfl rfl)
  have hx1 := opsArg h1
  have k1 := h1
  have lt1 : ∀ x ∈ p1, x.block < W.heap.size := by obtain ⟨m, hm⟩ := k1; exact DataW.trod_lt m _ _ _ hm
  obtain ⟨a2, rfl, rfl, rfl, w2⟩ := open_int Try.underlying3 (hval 2 3 v2 rfl rfl) h2
  clear hA0 hval0
  refine (walk x0 len0 cap0 L0 hl0 x1 len1 cap1 a2 W hx0 hx1).mono fun e W' ⟨he, bel⟩ => ?_
  subst he
  exact ⟨_, rfl, _, _, _, [], _, [], hW', trodAll_mk1 (shut_bool Try.underlying4 _), (trodAll_cons_mk (Below.trod laidOut (by kernel_rfl) (of_decide_eq_true (by kernel_rfl)) k0 bel lt0) (trodAll_cons_mk (Below.trod laidOut (by kernel_rfl) (of_decide_eq_true (by kernel_rfl)) k1 bel lt1) (trodAll_cons_mk (shut_int Try.underlying3 w2) trodAll_mk0))), rfl, bel.frame _, fun h => by cases h⟩

theorem over : Rows.schedFixedRow.holds Try.pinned (OpenSpec.ofChange Rows.schedFixedSpec) :=
  OpenClaim.holds_of_wide 4 Try.f4 rfl rfl rfl rfl rfl rfl rfl ⟨rfl, rfl, rfl, rfl, rfl⟩ rfl rfl rfl rfl rfl (by kernel_rfl) Try.func4 (by kernel_rfl)
    (of_decide_eq_true (by kernel_rfl)) (by unfold Func.isWrapper; first | (rw [if_pos (by decide +kernel)]; kernel_rfl) | (rw [if_neg (by decide +kernel)]; exact ⟨rfl, rfl⟩))
    (fun os started H enc _ => lifted os started H enc)

theorem proved : Rows.SchedFixedSaid := over
end Go.Proofs.Ytpacgdplbddclaa.schedFixed
namespace Go.Proofs.Ytpacgdplbddclaa
theorem schedFixed_holds : Rows.SchedFixedSaid := schedFixed.proved
#print axioms schedFixed_holds
end Go.Proofs.Ytpacgdplbddclaa
