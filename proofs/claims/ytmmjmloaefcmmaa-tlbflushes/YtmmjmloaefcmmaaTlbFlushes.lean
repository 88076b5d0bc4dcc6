/- TlbFlushes: for every list of spaces and of pages, and every space: behind eight Fills at most and a Flush of that space, Get tells of each page of four spaces whether it was filled in and is of another space; and Len is how many. No condition. -/
import Derived.Test.YtmmjmloaefcmmaaFlu
import Derived.Test.YtmmjmloaefcmmaaOpa
import Derived.Deep.CutRange
import Derived.Deep.DeepCutAuto
import Derived.Deep.RegionHeld3
import Derived.Test.YtmmjmloaefcmmaaArgs
import Derived.ProofKit
import Derived.OpenShut
import Derived.ShutString
import Derived.ChangeOld
import Derived.Below
import Derived.Deep.Slices
namespace Go.Proofs.Ytmmjmloaefcmmaa.tlbFlushes
open Go.ChangeShapes Go.WideShapes Go.ChangeAt Go.RowKit
set_option linter.unusedVariables false

theorem own : ownKnob Try.prog.godebug = none := by kernel_rfl
theorem laidOut : laidOutB Try.prog = true := by kernel_rfl

set_option maxHeartbeats 8000000 in
set_option maxRecDepth 100000 in
theorem core (x0 : Option Addr) (len0 cap0 : Nat) (x1 : Option Addr) (len1 cap1 : Nat) (a2 : Int) (fs fp : Nat → Int) (S P U V : Nat → Nat) (U2 sp n : Nat) (w : World)
    (hx0 : ∀ i, i < len0 → ∃ x, x0 = some x ∧ w.cell? (x.add i) = some (.int .i64 (fs i))) (hx1 : ∀ i, i < len1 → ∃ x, x1 = some x ∧ w.cell? (x.add i) = some (.int .i64 (fp i)))
    (hS : ∀ i, IntKind.u64.wrap (fs i) = (U i : Int) ∧ (U i : Int) % 4 = (S i : Int) ∧ S i < 4) (hP : ∀ i, IntKind.u64.wrap (fp i) = (V i : Int) ∧ (V i : Int) % 256 = (P i : Int) ∧ P i < 256)
    (v1 : IntKind.u64.wrap a2 = (U2 : Int)) (v2 : (U2 : Int) % 4 = (sp : Int)) (spl : sp < 4) (hn : n = min (min len0 len1) 8) :
    Calls Try.prog 7 #[.slice x0 len0 cap0, .slice x1 len1 cap1, .int .i64 a2] w fun e w' => e = .returned (.bool true) ∧ w.grownBy w' none := by
  have n8 : n ≤ 8 := by omega
  have nl0 : n ≤ len0 := by omega
  have nl1 : n ≤ len1 := by omega
  have HN := hideIt hn
  have HX0 := hideIt hx0
  have HX1 := hideIt hx1
  have HS := hideIt hS
  have HP := hideIt hP
  clear hx0 hx1 hS hP hn
  go_enter Try.func7, Try.ntmps7
  go_wp2_with fail
  refine (works_is _).mono ?_
  rintro e w1 ⟨rfl, g1⟩
  go_wp2_with fail
  refine (tnew_is w _ g1).mono ?_
  rintro e w2 ⟨t, O, rfl, T2, _, _⟩
  have H2 : Hid (Tp w w2 O t [] ∧ Fls S P 0 []) := hideIt ⟨T2, Fls.nil S P⟩
  clear T2 g1
  go_upto_region 5 with fail
  clear v1 v2
  go_cut [8] from 25 (fun s wc => s = .int .i64 n ∧ wc = w2)
  case first =>
    by_cases k1 : len1 < len0
    · by_cases k2 : 8 < (len1 : Int)
      · have e : (8 : Int) = (n : Int) := by have := HN.out; omega
        go_wp2
        go_meet
        exact ⟨rfl, rfl⟩
      · have e : (len1 : Int) = (n : Int) := by have := HN.out; omega
        go_wp2
        go_meet
        exact ⟨rfl, rfl⟩
    · by_cases k2 : 8 < (len0 : Int)
      · have e : (8 : Int) = (n : Int) := by have := HN.out; omega
        go_wp2
        go_meet
        exact ⟨rfl, rfl⟩
      · have e : (len0 : Int) = (n : Int) := by have := HN.out; omega
        go_wp2
        go_meet
        exact ⟨rfl, rfl⟩
  case rest =>
  obtain ⟨rfl, rfl⟩ := hcut
  clear HN
  go_wp2_with fail
  go_loopg [9] n (fun gk i wr => ∃ (j : Nat) (O : Nat → Prop) (L : List K), j + gk = n ∧ i = .int .i64 j ∧ Hid (Tp w wr O t L ∧ Fls S P j L))
  case atStart => exact ⟨0, O, [], by omega, rfl, H2⟩
  case round =>
    obtain ⟨j, O, L, hj, rfl, H⟩ := hrel
    clear H2
    by_cases hlt : j < n
    · obtain ⟨xa, rfl, ha⟩ := HX0.out j (by omega)
      obtain ⟨xb, rfl, hb⟩ := HX1.out j (by omega)
      have hOl : ∀ z, O z → w.heap.size ≤ z := fun z hz => (H.out.1.lo z hz).1
      have HA := hideIt ha
      have HB := hideIt hb
      have la := World.block_lt_of_cell? w _ ha
      have lb := World.block_lt_of_cell? w _ hb
      have T0 : wr.cell? (xa.add j) = some (.int .i64 (fs j)) ∧ wr.cell? (xb.add j) = some (.int .i64 (fp j)) := ⟨H.out.1.gr.cell ha (by simp), H.out.1.gr.cell hb (by simp)⟩
      obtain ⟨s1, s2, s3⟩ := HS.out j
      obtain ⟨p1, p2, p3⟩ := HP.out j
      have HF := hideIt (H.out.2.next (by omega) ⟨true, false, 16⟩ s3 p3)
      obtain ⟨sj, hsj⟩ : ∃ sj, S j = sj := ⟨_, rfl⟩
      obtain ⟨pj, hpj⟩ : ∃ pj, P j = pj := ⟨_, rfl⟩
      rw [hsj] at s2 s3 HF
      rw [hpj] at p2 p3 HF
      have HK := hideIt (M.kfe_mk (s := (sj : Int)) (p := (pj : Int)) (e := ⟨true, false, 16⟩) (by simp [M.nr]; omega) (by simp [M.np]; omega) rfl (by decide))
      have s5 : ((U j : Nat) : Int).tmod 4 = (sj : Int) := by rw [Int.tmod_eq_emod_of_nonneg (by omega)]; exact s2
      have p5 : ((V j : Nat) : Int).tmod 256 = (pj : Int) := by rw [Int.tmod_eq_emod_of_nonneg (by omega)]; exact p2
      have s4 : IntKind.i64.wrap (sj : Int) = (sj : Int) := by rw [IntKind.wrap_i64]; omega
      have p4 : IntKind.i64.wrap (pj : Int) = (pj : Int) := by rw [IntKind.wrap_i64]; omega
      have j1 : (j : Int) < (len0 : Int) := by omega
      have j2 : (j : Int) < (len1 : Int) := by omega
      clear ha hb hsj hpj s2 p2
      go_wp2_with fail
      have gd : wr.grownBy wr.drew none := gbDrew (gbRefl wr none)
      go_region_held3 (fun w' => w'.cell? (xa.add j) = some (.int .i64 (fs j)) ∧ w'.cell? (xb.add j) = some (.int .i64 (fp j)))
        (first | with_reducible exact T0 | with_reducible exact T5 | go_keep | fail)
        ((go_at_call 12; refine (fill_yes (H.out.1.kept gd) sj pj true false 16 HK.out).mono ?_; rintro e w5 ⟨rfl, T, F⟩; have T5 : (w5.cell? (xa.add j) = some (.int .i64 (fs j)) ∧ w5.cell? (xb.add j) = some (.int .i64 (fp j))) := ⟨T.gr.cell HA.out (by simp), T.gr.cell HB.out (by simp)⟩; have H5 := hideIt (And.intro T HF.out); clear T F))
      rename_i hold
      clear hold T0 T5
      go_wp2
      go_roundg (gk - 1)
      case rel => exact ⟨j + 1, _, _, by omega, by go_num, H5⟩
      case measure => omega
    · obtain rfl : j = n := by omega
      clear hlt hj
      obtain ⟨l, hl⟩ : ∃ l, L.length = l := ⟨_, rfl⟩
      have hl8 : l ≤ 8 := by have := H.out.1.gd.len; omega
      replace hl := hideIt hl
      go_wp2_with fail
      refine (tlen_is H.out.1 hl.out).mono ?_
      rintro e w4 ⟨rfl, rfl⟩
      go_wp2_with fail
      refine (flush_is H.out.1 sp).mono ?_
      rintro e w5 ⟨rfl, T5, F5⟩
      have HT := hideIt T5
      have HF := hideIt H.out.2
      have HU := hideIt (kx_num (s := (sp : Int)) H.out.2.num)
      have HC0 : Hid (0 = cnt (M.kx L (sp : Int)) (0 * 256)) := hideIt (by rw [Nat.zero_mul, cnt_zero]; intro k hk; obtain ⟨a, b, e1, e2, _⟩ := HU.out k hk; omega)
      have HC8 : Hid (∀ m, cnt (M.kx L (sp : Int)) m ≤ 8) := hideIt (fun m => Nat.le_trans (List.length_filter_le _ _) T5.gd.len)
      have HLN : Hid ((M.kx L (sp : Int)).length ≤ l) := hideIt (by rw [← hl.out]; exact kx_len L _)
      have HCA : Hid (cnt (M.kx L (sp : Int)) (4 * 256) = (M.kx L (sp : Int)).length) := hideIt (cnt_all (fun k hk => by obtain ⟨a, b, e1, e2, h1, h2⟩ := HU.out k hk; omega))
      clear H T5 F5 hl
      obtain ⟨LK, hLK⟩ : ∃ LK, M.kx L (sp : Int) = LK := ⟨_, rfl⟩
      have HG : Hid (∀ s p : Nat, (M.kg LK (s : Int) (p : Int)).2 = (inB S P s p j && ((s : Int) != (sp : Int)))) := hideIt (fun s p => by rw [← hLK]; exact HF.out.get sp s p)
      rw [hLK] at HT HU HC0 HC8 HLN HCA
      clear hLK HF
      go_wp2_with fail
      go_loopg [11, 12] 4 (fun gk lf i wr => ∃ c m : Nat, c + gk = 4 ∧ m ≤ 8 ∧ i = .int .i64 c ∧ lf = .int .i64 m ∧ Hid (m = cnt LK (c * 256)) ∧ w5.grownBy wr none)
      case atStart => exact ⟨0, 0, rfl, by omega, rfl, rfl, HC0, gbRefl _ _⟩
      case round =>
        obtain ⟨c, m, hc, hm8, rfl, rfl, hm, gw⟩ := hrel
        clear HC0
        obtain ⟨g2, hg2⟩ : ∃ g2, g2 = gk := ⟨_, rfl⟩
        subst hg2
        by_cases hc4 : c < 4
        · have hc5 : decide ((c : Int) < 4) = true := by simp; omega
          go_wp2_with fail
          go_loopg [11, 13] 256 (fun gk lf i wr => ∃ d m : Nat, d + gk = 256 ∧ m ≤ 8 ∧ i = .int .i64 d ∧ lf = .int .i64 m ∧ Hid (m = cnt LK (c * 256 + d)) ∧ w5.grownBy wr none)
          case atStart => exact ⟨0, m, rfl, hm8, rfl, rfl, hm, gw⟩
          case round =>
            obtain ⟨d, m, hd, hm8, rfl, rfl, hm, gw⟩ := hrel
            obtain ⟨g3, hg3⟩ : ∃ g3, g3 = gk := ⟨_, rfl⟩
            subst hg3
            by_cases hd4 : d < 256
            · have hd5 : decide ((d : Int) < 256) = true := by simp; omega
              obtain ⟨⟨e, o⟩, hk⟩ : ∃ q, M.kg LK (c : Int) (d : Int) = q := ⟨_, rfl⟩
              have ho := HG.out c d
              have hcn := cnt_succ hd4 HT.out.gd.nd HU.out (s := c)
              rw [hk] at ho hcn
              simp only at ho hcn
              have HO := hideIt ho
              have HCN := hideIt hcn
              have HK := hideIt hk
              clear ho hcn hk
              go_wp2_with fail
              refine (get_is (HT.out.kept gw) c d e o HK.out).mono ?_
              rintro x w6 ⟨rfl, g6⟩
              go_upto_region 20 with fail
              obtain ⟨W7, hW7, _, h7⟩ := boxNew w6 e 44
              rw [hW7]
              clear hW7 HK
              have GW := gbTrans (gbTrans gw g6) h7
              clear g6 h7
              go_wp2_with fail
              go_loopg [16, 17] j (fun gk bb i wr => ∃ q : Nat, q + gk = j ∧ i = .int .i64 q ∧ bb = .bool (inB S P c d q) ∧ W7.grownBy wr none)
              case atStart => exact ⟨0, by omega, rfl, rfl, gbRefl _ _⟩
              case round =>
                obtain ⟨q, hq, rfl, rfl, gq⟩ := hrel
                by_cases hqn : q < j
                · obtain ⟨xa, rfl, ha⟩ := HX0.out q (by omega)
                  obtain ⟨xb, rfl, hb⟩ := HX1.out q (by omega)
                  have ga := gbTrans (gbTrans HT.out.gr GW) gq
                  replace ha := ga.cell ha (by simp)
                  replace hb := ga.cell hb (by simp)
                  obtain ⟨s1, s2, s3⟩ := HS.out q
                  obtain ⟨p1, p2, p3⟩ := HP.out q
                  obtain ⟨Sq, hSq⟩ : ∃ Sq, S q = Sq := ⟨_, rfl⟩
                  obtain ⟨Pq, hPq⟩ : ∃ Pq, P q = Pq := ⟨_, rfl⟩
                  have hB : Hid (inB S P c d (q + 1) = (inB S P c d q || ((Sq : Int) == (c : Int) && (Pq : Int) == (d : Int)))) := hideIt (by rw [← hSq, ← hPq]; rfl)
                  rw [hSq] at s2 s3
                  rw [hPq] at p2 p3
                  clear hSq hPq
                  obtain ⟨b0, hb0⟩ : ∃ b0, inB S P c d q = b0 := ⟨_, rfl⟩
                  rw [hb0] at hB
                  rw [hb0]
                  clear hb0
                  cases b0
                  · cases hv1 : ((Sq : Int) == (c : Int))
                    · rw [hv1] at hB
                      go_wp2
                      go_roundg (gk - 1)
                      case rel => exact ⟨q + 1, by omega, by go_num, by rw [hB.out]; rfl, gq⟩
                      case measure => omega
                    · cases hv2 : ((Pq : Int) == (d : Int))
                      all_goals
                        rw [hv1, hv2] at hB
                        go_wp2
                        go_roundg (gk - 1)
                        case rel => exact ⟨q + 1, by omega, by go_num, by rw [hB.out]; rfl, gq⟩
                        case measure => omega
                  · go_wp2
                    go_roundg (gk - 1)
                    case rel => exact ⟨q + 1, by omega, by go_num, by rw [hB.out]; rfl, gq⟩
                    case measure => omega
                · obtain rfl : q = j := by omega
                  have GQ := gbTrans GW gq
                  replace HO := HO.out
                  clear hq hqn
                  obtain ⟨b0, hb0⟩ : ∃ b0, inB S P c d q = b0 := ⟨_, rfl⟩
                  rw [hb0] at HO
                  rw [hb0]
                  clear hb0
                  have e1 := hideIt (show c * 256 + (d + 1) = c * 256 + d + 1 by omega)
                  cases b0
                  · replace HO : o = false := HO
                    subst HO
                    have hm2 : Hid (m = cnt LK (c * 256 + (d + 1))) := hideIt (by rw [e1.out, HCN.out]; exact hm.out)
                    go_wp2
                    go_roundg (g3 - 1)
                    case rel => exact ⟨d + 1, m, by omega, hm8, by go_num, rfl, hm2, GQ⟩
                    case measure => omega
                  · cases hv : ((c : Int) != (sp : Int))
                    · rw [hv] at HO
                      replace HO : o = false := HO
                      subst HO
                      have hm2 : Hid (m = cnt LK (c * 256 + (d + 1))) := hideIt (by rw [e1.out, HCN.out]; exact hm.out)
                      go_wp2
                      go_roundg (g3 - 1)
                      case rel => exact ⟨d + 1, m, by omega, hm8, by go_num, rfl, hm2, GQ⟩
                      case measure => omega
                    · rw [hv] at HO
                      replace HO : o = true := HO
                      subst HO
                      have hm2 : Hid (m + 1 = cnt LK (c * 256 + (d + 1))) := hideIt (by rw [e1.out, HCN.out, hm.out]; rfl)
                      have hm9 : m + 1 ≤ 8 := by rw [hm2.out]; exact HC8.out _
                      go_wp2
                      go_roundg (g3 - 1)
                      case rel => exact ⟨d + 1, m + 1, by omega, hm9, by go_num, by go_num, hm2, GQ⟩
                      case measure => omega
            · have e1 : c * 256 + d = (c + 1) * 256 := by omega
              rw [e1] at hm
              go_wp2
              go_roundg (g2 - 1)
              case rel => exact ⟨c + 1, m, by omega, hm8, by go_num, rfl, hm, gw⟩
              case measure => omega
        · obtain rfl : c = 4 := by omega
          have hlen := hideIt (hm.out.trans HCA.out).symm
          have hle : (m : Int) ≤ (l : Int) := by have := hlen.out; have := HLN.out; omega
          have hld : decide ((m : Int) ≤ (l : Int)) = true := by simp; omega
          go_wp2_with fail
          refine (tlen_is (HT.out.kept gw) hlen.out).mono ?_
          rintro e w6 ⟨rfl, rfl⟩
          go_wp2
          go_ret
          exact ⟨rfl, gbTrans HT.out.gr gw⟩

theorem walk (x0 : Option Addr) (len0 cap0 : Nat) (x1 : Option Addr) (len1 cap1 : Nat) (a2 : Int) (w : World) (hx0 : ∀ i, i < len0 → ∃ x z, x0 = some x ∧ w.cell? (x.add i) = some (.int .i64 z)) (hx1 : ∀ i, i < len1 → ∃ x z, x1 = some x ∧ w.cell? (x.add i) = some (.int .i64 z)) :
    Calls Try.prog 7 #[.slice x0 len0 cap0, .slice x1 len1 cap1, .int .i64 a2] w fun e w' => e = .returned (.bool true) ∧ Below w.heap.size w w' := by
  refine endWalk ?_
  obtain ⟨fs, hs⟩ := numsArg hx0
  obtain ⟨fp, hp⟩ := numsArg hx1
  obtain ⟨U2, sp, u1, u2, u3⟩ := modArg a2 4 (by omega)
  have hS : ∀ i, IntKind.u64.wrap (fs i) = (((IntKind.u64.wrap (fs i)).toNat : Nat) : Int) ∧ (((IntKind.u64.wrap (fs i)).toNat : Nat) : Int) % 4 = (((IntKind.u64.wrap (fs i)).toNat % 4 : Nat) : Int) ∧ (IntKind.u64.wrap (fs i)).toNat % 4 < 4 := fun i => by
    rw [IntKind.wrap_u64]; omega
  have hP : ∀ i, IntKind.u64.wrap (fp i) = (((IntKind.u64.wrap (fp i)).toNat : Nat) : Int) ∧ (((IntKind.u64.wrap (fp i)).toNat : Nat) : Int) % 256 = (((IntKind.u64.wrap (fp i)).toNat % 256 : Nat) : Int) ∧ (IntKind.u64.wrap (fp i)).toNat % 256 < 256 := fun i => by
    rw [IntKind.wrap_u64]; omega
  exact core x0 len0 cap0 x1 len1 cap1 a2 fs fp _ _ _ _ U2 sp _ w hs hp hS hP u1 u2 u3 rfl

set_option maxRecDepth 100000 in
theorem lifted (os : Os) (started : os.Started) (H : Type) (enc : TypeId × Value → H) :
    ReturnsInHanded {} Try.checked os 7 .any (Rows.tlbFlushesSpec.pre6 enc Try.prog Try.f7 Rows.tlbFlushesRow.domain false) (Rows.tlbFlushesSpec.post enc Try.prog Try.f7 false true false false) := by
  refine returnsInHanded_of_change (C := Try.checked) own started (by kernel_rfl) Try.func7
    (ChangeSpec.witness6 (enc := enc) (C := Try.checked) false ⟨#[], #[.slice none 0 0, .slice none 0 0, .int .i64 0], []⟩ 8 (by kernel_rfl) (by kernel_rfl) (by kernel_rfl) (by kernel_rfl)) ?_
  intro W base args ds gs before hval0 hW hcnd _
  have hval : ∀ (j : Nat) t v, Try.f7.params[j]? = some t → args[j]? = some v → Value.okWide Try.prog W .any base t v := hval0
  have hW' := hW
  obtain ⟨p, q, hA0, hV, rfl, hfz, hnd⟩ := hW
  have hA : DataW.TrodAll enc Try.prog W 0 (fun _ => true) true Try.f7.params.toList args.toList ds p := hA0
  rw [Try.params7] at hA hval
  obtain ⟨v0, vs0, d0, ds0, p0, q0, hargs, rfl, rfl, h0, r0⟩ := trodAll_cons hA
  obtain ⟨v1, vs1, d1, ds1, p1, q1, rfl, rfl, rfl, h1, r1⟩ := trodAll_cons r0
  obtain ⟨v2, vs2, d2, ds2, p2, q2, rfl, rfl, rfl, h2, r2⟩ := trodAll_cons r1
  obtain ⟨rfl, rfl, rfl⟩ := trodAll_nil r2
  obtain rfl : args = #[v0, v1, v2] := by cases args; simp_all
  obtain ⟨rfl, rfl⟩ := trodVars_none hV
  obtain ⟨x0, len0, cap0, rfl⟩ := okWide_slice Try.underlying63 (hval 0 63 v0 rfl rfl)
  have hx0 := intsArg h0
  have k0 := h0
  have lt0 : ∀ x ∈ p0, x.block < W.heap.size := by obtain ⟨m, hm⟩ := k0; exact DataW.trod_lt m _ _ _ hm
  obtain ⟨x1, len1, cap1, rfl⟩ := okWide_slice Try.underlying63 (hval 1 63 v1 rfl rfl)
  have hx1 := intsArg h1
  have k1 := h1
  have lt1 : ∀ x ∈ p1, x.block < W.heap.size := by obtain ⟨m, hm⟩ := k1; exact DataW.trod_lt m _ _ _ hm
  obtain ⟨a2, rfl, rfl, rfl, w2⟩ := open_int Try.underlying3 (hval 2 3 v2 rfl rfl) h2
  clear hA0 hval0
  refine (walk x0 len0 cap0 x1 len1 cap1 a2 W hx0 hx1).mono fun e W' ⟨he, bel⟩ => ?_
  subst he
  exact ⟨_, rfl, _, _, _, [], _, [], hW', trodAll_mk1 (shut_bool Try.underlying4 _), (trodAll_cons_mk (Below.trod laidOut (by kernel_rfl) (of_decide_eq_true (by kernel_rfl)) k0 bel lt0) (trodAll_cons_mk (Below.trod laidOut (by kernel_rfl) (of_decide_eq_true (by kernel_rfl)) k1 bel lt1) (trodAll_cons_mk (shut_int Try.underlying3 w2) trodAll_mk0))), rfl, bel.frame _, fun h => by cases h⟩

theorem over : Rows.tlbFlushesRow.holds Try.pinned (OpenSpec.ofChange Rows.tlbFlushesSpec) :=
  OpenClaim.holds_of_wide 7 Try.f7 rfl rfl rfl rfl rfl rfl rfl ⟨rfl, rfl, rfl, rfl, rfl⟩ rfl rfl rfl rfl rfl (by kernel_rfl) Try.func7 (by kernel_rfl)
    (of_decide_eq_true (by kernel_rfl)) (by unfold Func.isWrapper; first | (rw [if_pos (by decide +kernel)]; kernel_rfl) | (rw [if_neg (by decide +kernel)]; exact ⟨rfl, rfl⟩))
    (fun os started H enc _ => lifted os started H enc)

theorem proved : Rows.TlbFlushesSaid := over
end Go.Proofs.Ytmmjmloaefcmmaa.tlbFlushes
namespace Go.Proofs.Ytmmjmloaefcmmaa
theorem tlbFlushes_holds : Rows.TlbFlushesSaid := tlbFlushes.proved
#print axioms tlbFlushes_holds
end Go.Proofs.Ytmmjmloaefcmmaa
