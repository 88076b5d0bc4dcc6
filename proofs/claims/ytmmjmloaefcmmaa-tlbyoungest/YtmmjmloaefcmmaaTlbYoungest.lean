/- TlbYoungest: for every list of spaces and of pages: of all pages that were filled in, the eight youngest are kept, and no other one. No condition. -/
import Derived.Test.YtmmjmloaefcmmaaKys
import Derived.Test.YtmmjmloaefcmmaaOpa
import Derived.Deep.CutRange
import Derived.Deep.DeepCutAuto
import Derived.Deep.RegionHeld3
import Derived.Test.YtmmjmloaefcmmaaArgs
import Derived.ProofKit
import Derived.OpenShut
import Derived.ShutString
import Derived.ChangeOld
import Derived.Below
import Derived.Deep.Slices
namespace Go.Proofs.Ytmmjmloaefcmmaa.tlbYoungest
open Go.ChangeShapes Go.WideShapes Go.ChangeAt Go.RowKit
set_option linter.unusedVariables false

theorem own : ownKnob Try.prog.godebug = none := by kernel_rfl
theorem laidOut : laidOutB Try.prog = true := by kernel_rfl

theorem ce16 (j : Nat) (hj : j < 60) : M.ce ⟨true, false, ((16 * j : Nat) : Int)⟩ = 0 := by
  have : M.pg ((16 * j : Nat) : Int) = true := by
    simp only [M.pg, Bool.and_eq_true, decide_eq_true_eq, beq_iff_eq]
    omega
  simp only [M.ce, this, if_true]

set_option maxHeartbeats 8000000 in
set_option maxRecDepth 100000 in
theorem core (x0 : Option Addr) (len0 cap0 : Nat) (x1 : Option Addr) (len1 cap1 : Nat) (fs fp : Nat → Int) (S P U V : Nat → Nat) (w : World)
    (hx0 : ∀ i, i < len0 → ∃ x, x0 = some x ∧ w.cell? (x.add i) = some (.int .i64 (fs i))) (hx1 : ∀ i, i < len1 → ∃ x, x1 = some x ∧ w.cell? (x.add i) = some (.int .i64 (fp i)))
    (hS : ∀ i, IntKind.u64.wrap (fs i) = (U i : Int) ∧ (U i : Int) % 64 = (S i : Int) ∧ S i < 64) (hP : ∀ i, IntKind.u64.wrap (fp i) = (V i : Int) ∧ (V i : Int) % 256 = (P i : Int) ∧ P i < 256) :
    Calls Try.prog 6 #[.slice x0 len0 cap0, .slice x1 len1 cap1] w fun e w' => e = .returned (.bool true) ∧ w.grownBy w' none := by
  have HX0 := hideIt hx0
  have HX1 := hideIt hx1
  have HS := hideIt hS
  have HP := hideIt hP
  have qe := eqGuard_key
  have qn := run_neq_key
  clear hx0 hx1 hS hP
  go_enter Try.func6, Try.ntmps6
  go_wp2_with fail
  refine (works_is _).mono ?_
  rintro e w1 ⟨rfl, g1⟩
  go_wp2_with fail
  refine (tnew_is w _ g1).mono ?_
  rintro e w2 ⟨t, O, rfl, T2, _, _⟩
  have H2 : Hid (Ky w w2 O t [] (.slice none 0 0) (M.pl [])) := hideIt ⟨T2, Lst.nil _ _, fun k hk => by cases hk⟩
  clear T2 g1
  go_wp2_with fail
  go_loopg [6, 7] 60 (fun gk vin i wr => ∃ (j : Nat) (O : Nat → Prop) (L : List K), j + gk = 60 ∧ i = .int .i64 j ∧ Hid (Ky w wr O t L vin (M.pl L)))
  case atStart => exact ⟨0, O, [], rfl, rfl, H2⟩
  case round =>
    obtain ⟨j, O, L, hj, rfl, H⟩ := hrel
    clear H2
    by_cases hlt : j < len0 ∧ j < len1 ∧ j < 60
    · obtain ⟨c1, c2, c3⟩ := hlt
      obtain ⟨xa, rfl, ha⟩ := HX0.out j c1
      obtain ⟨xb, rfl, hb⟩ := HX1.out j c2
      replace ha := H.out.tb.gr.cell ha (by simp)
      replace hb := H.out.tb.gr.cell hb (by simp)
      have hd3 : decide ((j : Int) < 60) = true := by simp; omega
      have hd2 : decide ((j : Int) < (len1 : Int)) = true := by simp; omega
      obtain ⟨s1, s2, s3⟩ := HS.out j
      obtain ⟨p1, p2, p3⟩ := HP.out j
      obtain ⟨sj, hsj⟩ : ∃ sj, S j = sj := ⟨_, rfl⟩
      obtain ⟨pj, hpj⟩ : ∃ pj, P j = pj := ⟨_, rfl⟩
      rw [hsj] at s2 s3
      rw [hpj] at p2 p3
      clear hsj hpj
      have ga := gbAlloc wr (.cells #[.int .i64 0, .int .i64 0] 72) none
      have ha2 := ga.cell ha (by simp)
      have hb2 := ga.cell hb (by simp)
      go_upto_region 8 with fail
      go_region
      clear s1 s2 p1 p2 ha hb ha2 hb2 ga
      obtain ⟨W, hW⟩ : ∃ W, (wr.alloc (.cells #[.int .i64 (sj : Int), .int .i64 (pj : Int)] 72)).drew = W := ⟨_, rfl⟩
      have gW : wr.grownBy W none := by rw [← hW]; exact gbDrew (gbAlloc _ _ _)
      have Y : SBox W wr.heap.size sj pj := by rw [← hW]; exact ⟨by simp, by simp, by simp⟩
      rw [hW]
      clear hW
      have hYO : ¬ O wr.heap.size := fun e => by have := (H.out.tb.lo _ e).2; omega
      have H3 := hideIt (H.out.kept gW)
      obtain ⟨n, hn⟩ : ∃ n, (M.pl L).length = n := ⟨_, rfl⟩
      have hn8 : n ≤ 8 := by rw [← hn]; unfold M.pl; rw [List.length_map]; exact H.out.tb.gd.len
      replace hn := hideIt hn
      obtain ⟨xi, ci, hvi, hci, hci2⟩ := H.out.ls.shape hn.out
      subst hvi
      clear H
      obtain ⟨B, hB, eB⟩ : ∃ B : Nat, Hid (B = 16 * j) ∧ 16 * (j : Int) = (B : Int) := ⟨16 * j, hideIt rfl, by omega⟩
      have bB : B ≤ 1000 := by have := hB.out; omega
      have HK : Hid (M.kfe (sj : Int) (pj : Int) ⟨true, false, (B : Int)⟩ = 0) := hideIt (M.kfe_mk (by simp [M.nr]; omega) (by simp [M.np]; omega) rfl (by rw [hB.out]; exact ce16 j c3))
      have HY := hideIt (M.young H3.out.tb.gd HK.out)
      obtain ⟨y0, y1, yl⟩ := id Y
      go_wp2_with fail
      refine (fill_yes H3.out.tb sj pj true false B HK.out).mono ?_
      rintro e w4 ⟨rfl, T4, F4⟩
      have H4 := hideIt (H3.out.call T4 F4)
      have Y4 := F4.sbox Y hYO
      clear H3 T4 F4 Y y0 y1 yl eB hB
      obtain ⟨L', hL'⟩ : ∃ L', M.kput L (sj : Int) (pj : Int) ⟨true, false, (B : Int)⟩ = L' := ⟨_, rfl⟩
      rw [hL'] at H4 HY
      clear hL' HK
      obtain ⟨I, hI⟩ : ∃ I, M.pl L = I := ⟨_, rfl⟩
      rw [hI] at H4 HY hn
      clear hI
      obtain ⟨O4, hO4⟩ : ∃ O4, wide O W w4 = O4 := ⟨_, rfl⟩
      rw [hO4] at H4
      clear hO4 hYO
      obtain ⟨g1, hg1⟩ : ∃ g1, g1 = gk := ⟨_, rfl⟩
      subst hg1
      go_wp2_with fail
      go_loopg [9, 10] n (fun gk vr i wr => ∃ q : Nat, q + gk = n ∧ i = .int .i64 q ∧ Hid (Lst wr w4.heap.size vr (M.oth (I.take q) sj pj)) ∧ w4.grownBy wr none)
      case atStart => exact ⟨0, by omega, rfl, hideIt (by rw [List.take_zero]; exact Lst.nil _ _), gbRefl _ _⟩
      case round =>
        obtain ⟨q, hq, rfl, HR, gw⟩ := hrel
        by_cases hqn : q < n
        · obtain ⟨g, cap, hv, hcap, _, hgl, _⟩ := H4.out.ls.some hn.out (by omega)
          simp only [Value.slice.injEq] at hv
          obtain ⟨rfl, _, rfl⟩ := hv
          obtain ⟨⟨a, c⟩, hac⟩ : ∃ x, I[q]? = some x := ⟨I[q]'(by rw [hn.out]; exact hqn), List.getElem?_eq_getElem _⟩
          obtain ⟨k0, k1⟩ := (H4.out.ls.kept gw).el hn.out q _ hac
          have HO := hideIt (M.oth_snoc (s := (sj : Int)) (p := (pj : Int)) hac)
          simp only at k0 k1
          obtain ⟨y0, y1, yl⟩ := Y4.kept gw
          have q1 : (q : Int) < (n : Int) := by omega
          clear hac
          go_wp2_with fail
          go_region
          cases hs : M.seq a c (sj : Int) (pj : Int)
          · have gd : w4.grownBy wr.drew none := gbTrans gw (gbDrewN wr 1 none)
            have ga : w4.grownBy (wr.drew.alloc (.cells #[.int .i64 a, .int .i64 c] 72)) none := gbAllocN gd _
            obtain ⟨xr, nr, cr, w6, hr, HL6, G6⟩ := (HR.out.kept (gbTrans (gbDrewN wr 1 none) (gbAlloc wr.drew (.cells #[.int .i64 a, .int .i64 c] 72) none))).push ga ⟨wr.drew.heap.size, 0, none⟩ 1 1 [(a, c)] rfl (rowKey wr.drew a c) (by have := List.length_filter_le (fun x => !M.seq x.1 x.2 (sj : Int) (pj : Int)) (I.take q); unfold M.oth; rw [List.length_take] at this; simp; omega)
            go_wp2_with (at_builtin; refine wpList_append_key rfl (.tmp 70) (.tmp 75) rfl _ _ rfl rfl (.slice xr nr cr) w6 hr ?_)
            have e6 : M.oth (I.take (q + 1)) (sj : Int) (pj : Int) = M.oth (I.take q) (sj : Int) (pj : Int) ++ [(a, c)] := by rw [HO.out, hs]; rfl
            rw [← e6] at HL6
            clear e6
            go_roundg (gk - 1)
            case rel => exact ⟨q + 1, by omega, by go_num, HL6, G6.out⟩
            case measure => omega
          · have gd : w4.grownBy wr.drew none := gbTrans gw (gbDrewN wr 1 none)
            have HR2 : Hid (Lst wr.drew w4.heap.size u9 (M.oth (I.take (q + 1)) (sj : Int) (pj : Int))) := hideIt (by rw [HO.out, hs]; simp only [if_true, List.append_nil]; exact HR.out.kept (gbDrewN wr 1 none))
            go_wp2
            go_roundg (gk - 1)
            case rel => exact ⟨q + 1, by omega, by go_num, HR2, gd⟩
            case measure => omega
        · obtain rfl : q = n := by omega
          have e0 : I.take q = I := List.take_of_length_le (by rw [hn.out]; exact Nat.le_refl _)
          rw [e0] at HR
          clear e0 hq hqn
          obtain ⟨R, hR⟩ : ∃ R, M.oth I (sj : Int) (pj : Int) = R := ⟨_, rfl⟩
          rw [hR] at HR HY
          have hRl : Hid (R.length ≤ 8) := hideIt (by have := HY.out.1; rw [List.length_append] at this; simp at this; omega)
          clear hR
          obtain ⟨y0, y1, yl⟩ := Y4.kept gw
          have ga : w4.grownBy (wr.alloc (.cells #[.int .i64 (sj : Int), .int .i64 (pj : Int)] 72)) none := gbAllocN gw _
          obtain ⟨xr, nr, cr, w5, hr, HL5, G5⟩ := (HR.out.kept (gbAlloc wr (.cells #[.int .i64 (sj : Int), .int .i64 (pj : Int)] 72) none)).push ga ⟨wr.heap.size, 0, none⟩ 1 1 [((sj : Int), (pj : Int))] rfl (rowKey wr sj pj) (by have := hRl.out; omega)
          have H5 := hideIt (H4.out.other G5.out HL5.out)
          obtain ⟨I5, hI5⟩ : ∃ I5, R ++ [((sj : Int), (pj : Int))] = I5 := ⟨_, rfl⟩
          rw [hI5] at H5 HY HL5
          have hpos : 0 < I5.length := by rw [← hI5, List.length_append]; simp
          clear hI5 hRl
          obtain ⟨n5, hn5⟩ : ∃ n5, I5.length = n5 := ⟨_, rfl⟩
          rw [hn5] at hpos HY
          replace hn5 := hideIt hn5
          have hn9 := HY.out.1
          obtain ⟨g5, c5, hv5, hc5, _, _, hc6⟩ := HL5.out.some hn5.out hpos
          simp only [Value.slice.injEq] at hv5
          obtain ⟨rfl, rfl, rfl⟩ := hv5
          clear HL5 G5 H4 HR
          go_upto_region 18 with (at_builtin; refine wpList_append_key rfl (.tmp 77) (.tmp 79) rfl _ _ rfl rfl (.slice (some ⟨g5, 0, none⟩) nr cr) w5 hr ?_)
          clear hr y0 y1 yl Y4 ga gw
          go_wp2_with fail
          go_loopg [11] nr (fun gk i wr => ∃ q : Nat, q + gk = nr ∧ i = .int .i64 q ∧ w5.grownBy wr none)
          case atStart => exact ⟨0, by omega, rfl, gbRefl _ _⟩
          case round =>
            obtain ⟨z, hz, rfl, gz⟩ := hrel
            by_cases hzn : z < nr
            · obtain ⟨⟨a, c⟩, hac⟩ : ∃ x, I5[z]? = some x := ⟨I5[z]'(by rw [hn5.out]; exact hzn), List.getElem?_eq_getElem _⟩
              have T0 := (H5.out.ls.kept gz).el hn5.out z _ hac
              simp only at T0
              obtain ⟨⟨e, o⟩, hk⟩ : ∃ y, M.kg L' a c = y := ⟨_, rfl⟩
              have ho := HY.out.2.1 z _ hac
              simp only at ho
              rw [hk] at ho
              simp only at ho
              obtain ⟨D, hD, eD⟩ : ∃ D : Nat, Hid (D = nr - z) ∧ (nr : Int) - (z : Int) = (D : Int) := ⟨nr - z, hideIt rfl, by omega⟩
              have hDo : decide ((D : Int) ≤ 8) = o := by rw [ho, ← hD.out]; exact decide_eq_decide.2 (by omega)
              have z1 : (z : Int) < (nr : Int) := by omega
              have bD : D ≤ 9 := by have := hD.out; omega
              clear ho
              have HG := fun w' (k : w5.grownBy w' none) => get_is (H5.out.tb.kept k) a c e o hk
              have HT : ∀ w', w5.grownBy w' none → (w'.cell? ⟨g5, z * 2, none⟩ = some (.int .i64 a) ∧ w'.cell? ⟨g5, z * 2 + 1, none⟩ = some (.int .i64 c)) := fun w' k => by have := (H5.out.ls.kept k).el hn5.out z _ hac; simpa using this
              have gd : w5.grownBy wr.drew none := gbTrans gz (gbDrew (gbRefl _ _))
              clear hac hk
              go_upto_region 21 with fail
              go_cut [12, 13] from 87 to 101 (fun _ s wc => s = .bool o ∧ w5.grownBy wc none)
              case first =>
                go_region_held3 (fun w' => w'.cell? ⟨g5, z * 2, none⟩ = some (.int .i64 a) ∧ w'.cell? ⟨g5, z * 2 + 1, none⟩ = some (.int .i64 c))
                  (first | with_reducible exact T0 | with_reducible exact T7 | (refine HT _ ?_; (repeat (first | with_reducible exact gd | with_reducible exact gz | with_reducible exact G7 | with_reducible refine gbDrew ?_ | with_reducible refine gbAllocN ?_ _ | with_reducible refine gbSetNew ?_ _ _ _ (by with_reducible first | exact gz.size | exact G7.size))); done) | go_keep | fail)
                  ((go_at_call 21; refine (HG _ (by repeat (first | with_reducible exact gd | with_reducible exact gz | with_reducible refine gbDrew ?_ | with_reducible refine gbAllocN ?_ _))).mono ?_; rintro e7 w7 ⟨rfl, g7⟩; have hc3 := gcell g7; have hf3 := gfroz g7; have G7 : w5.grownBy w7 none := gbTrans (by repeat (first | with_reducible exact gd | with_reducible exact gz | with_reducible refine gbDrew ?_ | with_reducible refine gbAllocN ?_ _)) g7; have T7 := HT w7 G7))
                all_goals
                  rename_i hold
                  clear hold hc3 hf3
                  go_wp2
                  go_meet
                  exact ⟨rfl, by repeat (first | with_reducible exact G7 | with_reducible refine gbDrew ?_ | with_reducible refine gbAllocN ?_ _ | with_reducible refine gbSetNew ?_ _ _ _ (by with_reducible exact gz.size))⟩
              case rest =>
              obtain ⟨rfl, gc⟩ := hcut
              clear HG HT T0 gd
              go_wp2
              go_roundg (gk - 1)
              case rel => exact ⟨z + 1, by omega, by go_num, gc⟩
              case measure => omega
            · have hzi : ¬ (z : Int) < (nr : Int) := by omega
              clear hz
              have H6 := hideIt (H5.out.kept gz)
              clear H5
              by_cases h8 : 8 < nr
              · obtain ⟨e9, hd⟩ := HY.out.2.2.1 h8
                subst e9
                have ga : wr.grownBy (wr.alloc (.cells #[] 72)) none := gbAlloc _ _ _
                have L0 : Lst (wr.alloc (.cells #[] 72)) wr.heap.size (.slice (some ⟨wr.heap.size, 0, none⟩) 0 0) [] := World.ownsRow_lit (base := wr.heap.size) (e := 72) (size := 2) wr #[] 0 (Nat.le_refl _) (by decide) rfl
                have e8 : (I5.drop 1).length = 8 := by rw [List.length_drop, hn5.out]
                obtain ⟨x8, n8, c8, w8, hr, HL8, G8⟩ := L0.push ga ⟨g5, 1 * 2, none⟩ 8 (cr - 1) (I5.drop 1) e8 ((H6.out.ls.kept ga).tail hn5.out 1) (by simp)
                rw [List.nil_append] at HL8
                have H8 : Hid (Ky w w8 _ t L' (.slice x8 n8 c8) (M.pl L')) := hideIt (by have := H6.out.other G8.out HL8.out; rw [hd] at this; exact this)
                have hl8 : Hid (L'.length = 8) := hideIt (by rw [← e8, hd]; unfold M.pl; rw [List.length_map])
                obtain ⟨x9, c9, hv9, _, _⟩ := HL8.out.shape e8
                simp only [Value.slice.injEq] at hv9
                obtain ⟨rfl, rfl, rfl⟩ := hv9
                have hc9 : (9 : Int) ≤ (cr : Int) := by omega
                have hc10 : (1 : Int) ≤ (cr : Int) := by omega
                clear L0 HL8 H6 HY hd e8 ga
                go_upto_region 26 with (at_builtin; refine wpList_append_key rfl (.tmp 112) (.tmp 117) rfl _ _ rfl rfl (.slice x8 8 c8) w8 hr ?_)
                clear hr
                go_wp2_with fail
                refine (tlen_is H8.out.tb hl8.out).mono ?_
                rintro e w9 ⟨rfl, rfl⟩
                go_wp2
                go_roundg (g1 - 1)
                case rel => exact ⟨j + 1, _, L', by omega, by go_num, H8⟩
                case measure => omega
              · have hd := HY.out.2.2.2 h8
                have hl8 : Hid (L'.length = nr) := hideIt (by rw [← hn5.out, hd]; unfold M.pl; rw [List.length_map])
                rw [hd] at H6
                clear HY hd
                have hgt : ¬ 8 < (nr : Int) := by omega
                go_wp2_with fail
                refine (tlen_is H6.out.tb hl8.out).mono ?_
                rintro e w9 ⟨rfl, rfl⟩
                go_wp2
                go_roundg (g1 - 1)
                case rel => exact ⟨j + 1, _, L', by omega, by go_num, H6⟩
                case measure => omega
    · go_upto_region 6 with fail
      go_cut [30] from 17 to 30 (fun s wc => s = .bool false ∧ wc = wr)
      case first =>
        obtain ⟨n0, hn0⟩ : ∃ n0, (M.pl L).length = n0 := ⟨_, rfl⟩
        by_cases k1 : (j : Int) < (len0 : Int)
        · by_cases k2 : (j : Int) < (len1 : Int)
          · have k3 : ¬ (j : Int) < 60 := by omega
            go_wp2
            go_meet
            exact ⟨rfl, rfl⟩
          · go_wp2
            go_meet
            exact ⟨rfl, rfl⟩
        · go_wp2
          go_meet
          exact ⟨rfl, rfl⟩
      case rest =>
      obtain ⟨rfl, rfl⟩ := hcut
      go_wp2
      go_ret
      exact ⟨rfl, H.out.tb.gr⟩

theorem walk (x0 : Option Addr) (len0 cap0 : Nat) (x1 : Option Addr) (len1 cap1 : Nat) (w : World) (hx0 : ∀ i, i < len0 → ∃ x z, x0 = some x ∧ w.cell? (x.add i) = some (.int .i64 z)) (hx1 : ∀ i, i < len1 → ∃ x z, x1 = some x ∧ w.cell? (x.add i) = some (.int .i64 z)) :
    Calls Try.prog 6 #[.slice x0 len0 cap0, .slice x1 len1 cap1] w fun e w' => e = .returned (.bool true) ∧ Below w.heap.size w w' := by
  refine endWalk ?_
  obtain ⟨fs, hs⟩ := numsArg hx0
  obtain ⟨fp, hp⟩ := numsArg hx1
  have hS : ∀ i, IntKind.u64.wrap (fs i) = (((IntKind.u64.wrap (fs i)).toNat : Nat) : Int) ∧ (((IntKind.u64.wrap (fs i)).toNat : Nat) : Int) % 64 = (((IntKind.u64.wrap (fs i)).toNat % 64 : Nat) : Int) ∧ (IntKind.u64.wrap (fs i)).toNat % 64 < 64 := fun i => by
    rw [IntKind.wrap_u64]; omega
  have hP : ∀ i, IntKind.u64.wrap (fp i) = (((IntKind.u64.wrap (fp i)).toNat : Nat) : Int) ∧ (((IntKind.u64.wrap (fp i)).toNat : Nat) : Int) % 256 = (((IntKind.u64.wrap (fp i)).toNat % 256 : Nat) : Int) ∧ (IntKind.u64.wrap (fp i)).toNat % 256 < 256 := fun i => by
    rw [IntKind.wrap_u64]; omega
  exact core x0 len0 cap0 x1 len1 cap1 fs fp _ _ _ _ w hs hp hS hP

set_option maxRecDepth 100000 in
theorem lifted (os : Os) (started : os.Started) (H : Type) (enc : TypeId × Value → H) :
    ReturnsInHanded {} Try.checked os 6 .any (Rows.tlbYoungestSpec.pre6 enc Try.prog Try.f6 Rows.tlbYoungestRow.domain false) (Rows.tlbYoungestSpec.post enc Try.prog Try.f6 false true false false) := by
  refine returnsInHanded_of_change (C := Try.checked) own started (by kernel_rfl) Try.func6
    (ChangeSpec.witness6 (enc := enc) (C := Try.checked) false ⟨#[], #[.slice none 0 0, .slice none 0 0], []⟩ 8 (by kernel_rfl) (by kernel_rfl) (by kernel_rfl) (by kernel_rfl)) ?_
  intro W base args ds gs before hval0 hW hcnd _
  have hval : ∀ (j : Nat) t v, Try.f6.params[j]? = some t → args[j]? = some v → Value.okWide Try.prog W .any base t v := hval0
  have hW' := hW
  obtain ⟨p, q, hA0, hV, rfl, hfz, hnd⟩ := hW
  have hA : DataW.TrodAll enc Try.prog W 0 (fun _ => true) true Try.f6.params.toList args.toList ds p := hA0
  rw [Try.params6] at hA hval
  obtain ⟨v0, vs0, d0, ds0, p0, q0, hargs, rfl, rfl, h0, r0⟩ := trodAll_cons hA
  obtain ⟨v1, vs1, d1, ds1, p1, q1, rfl, rfl, rfl, h1, r1⟩ := trodAll_cons r0
  obtain ⟨rfl, rfl, rfl⟩ := trodAll_nil r1
  obtain rfl : args = #[v0, v1] := by cases args; simp_all
  obtain ⟨rfl, rfl⟩ := trodVars_none hV
  obtain ⟨x0, len0, cap0, rfl⟩ := okWide_slice Try.underlying63 (hval 0 63 v0 rfl rfl)
  have hx0 := intsArg h0
  have k0 := h0
  have lt0 : ∀ x ∈ p0, x.block < W.heap.size := by obtain ⟨m, hm⟩ := k0; exact DataW.trod_lt m _ _ _ hm
  obtain ⟨x1, len1, cap1, rfl⟩ := okWide_slice Try.underlying63 (hval 1 63 v1 rfl rfl)
  have hx1 := intsArg h1
  have k1 := h1
  have lt1 : ∀ x ∈ p1, x.block < W.heap.size := by obtain ⟨m, hm⟩ := k1; exact DataW.trod_lt m _ _ _ hm
  clear hA0 hval0
  refine (walk x0 len0 cap0 x1 len1 cap1 W hx0 hx1).mono fun e W' ⟨he, bel⟩ => ?_
  subst he
  exact ⟨_, rfl, _, _, _, [], _, [], hW', trodAll_mk1 (shut_bool Try.underlying4 _), (trodAll_cons_mk (Below.trod laidOut (by kernel_rfl) (of_decide_eq_true (by kernel_rfl)) k0 bel lt0) (trodAll_cons_mk (Below.trod laidOut (by kernel_rfl) (of_decide_eq_true (by kernel_rfl)) k1 bel lt1) trodAll_mk0)), rfl, bel.frame _, fun h => by cases h⟩

theorem over : Rows.tlbYoungestRow.holds Try.pinned (OpenSpec.ofChange Rows.tlbYoungestSpec) :=
  OpenClaim.holds_of_wide 6 Try.f6 rfl rfl rfl rfl rfl rfl rfl ⟨rfl, rfl, rfl, rfl, rfl⟩ rfl rfl rfl rfl rfl (by kernel_rfl) Try.func6 (by kernel_rfl)
    (of_decide_eq_true (by kernel_rfl)) (by unfold Func.isWrapper; first | (rw [if_pos (by decide +kernel)]; kernel_rfl) | (rw [if_neg (by decide +kernel)]; exact ⟨rfl, rfl⟩))
    (fun os started H enc _ => lifted os started H enc)

theorem proved : Rows.TlbYoungestSaid := over
end Go.Proofs.Ytmmjmloaefcmmaa.tlbYoungest
namespace Go.Proofs.Ytmmjmloaefcmmaa
theorem tlbYoungest_holds : Rows.TlbYoungestSaid := tlbYoungest.proved
#print axioms tlbYoungest_holds
end Go.Proofs.Ytmmjmloaefcmmaa
