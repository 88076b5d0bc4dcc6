/- EndpointRow: for every two numbers and either side, and every fate of the machine, the call ends and answers true: as many as come wait, and are met by the other side in their order; without waiting nobody does; State and Clear tell who is left. No condition beyond the statement's own. -/
import Derived.Test.YtenljiciiocagaaRow
import Derived.Deep.Cut
import Derived.Deep.DeepCutAuto
import Derived.Deep.CutBlock
import Derived.Deep.RegionHeld3
import Derived.ProofKit
import Derived.OpenShut
import Derived.ShutString
import Derived.ChangeOld
import Derived.Below
import Derived.Deep.Slices
namespace Go.Proofs.Ytenljiciiocagaa.endpointRow
open Go.ChangeShapes Go.WideShapes Go.ChangeAt Go.RowKit
set_option linter.unusedVariables false

theorem own : ownKnob Try.prog.godebug = none := by kernel_rfl
theorem laidOut : laidOutB Try.prog = true := by kernel_rfl

abbrev OP (w0 w : World) (P : Nat → Prop) (p : Nat) (k : Int) (L : List Int) : Prop := On (fun w O => PA w O p k L) w0 w P

set_option maxHeartbeats 8000000 in
set_option maxRecDepth 100000 in
theorem core_false (a0 a1 : Int) (w : World) (U0 n : Nat) (hu0 : IntKind.u64.wrap a0 = (U0 : Int)) (hy0 : (U0 : Int) % 30 = (n : Int)) (hn30 : n < 30) (U1 m : Nat) (hu1 : IntKind.u64.wrap a1 = (U1 : Int)) (hy1 : (U1 : Int) % 30 = (m : Int)) (hm30 : m < 30) :
    Calls Try.prog 5 #[.int .i64 a0, .int .i64 a1, .bool false] w fun e w' => e = .returned (.bool true) ∧ w.grownBy w' none := by
  go_enter Try.func5, Try.ntmps5
  go_wp2_with fail
  refine (works_is w).mono ?_
  rintro e wa ⟨rfl, ga⟩
  replace ga := hideIt ga
  go_wp2_with fail
  clear hu0 hu1 hy0 hy1
  refine (enew_is wa).mono ?_
  rintro e wb ⟨p, rfl, A1, g1⟩
  have H1 : Hid (OP w wb (fun i => wa.heap.size ≤ i ∧ i < wb.heap.size) p (M.rk 1 0 0) (M.rg 0 0)) := hideIt ⟨A1, fun i hi => by have := ga.out.size; omega, gbTrans ga.out g1⟩
  clear A1 g1 ga
  go_wp2_with fail
  go_loopg [8] (n + 1) (fun gk i wr => ∃ (j : Nat) (P : Nat → Prop), j + gk = n + 1 ∧ j ≤ n ∧ i = .int .i64 j ∧ Hid (OP w wr P p (M.rk 1 0 j) (M.rg 0 j)))
  case atStart => exact ⟨0, _, by omega, by omega, rfl, H1⟩
  case round =>
    obtain ⟨j, P, hj, hjn, rfl, H⟩ := hrel
    clear H1
    by_cases hlt : j < n
    · have hlt' : (j : Int) < (n : Int) := by omega
      have f := hideIt (M.row_push (s := 1) (o := 2) (by decide) (by decide) j (by omega))
      go_wp2_with fail
      refine (send_is H.out.a (by rw [M.rg_len]; omega) (M.rg_nodup _ _) j true 0 false 0 f.out.2.2.1 f.out.2.1 f.out.1).mono ?_
      rintro e w6 ⟨rfl, Z, F⟩
      rw [f.out.2.2.2.1, f.out.2.2.2.2] at Z
      have H6 := hideIt (oTurn H.out Z F)
      clear Z F f H
      go_wp2
      go_roundg (gk - 1)
      case rel => exact ⟨j + 1, _, by omega, by omega, by go_num, H6⟩
      case measure => omega
    · have hlt' : ¬ (j : Int) < (n : Int) := by omega
      obtain rfl : j = n := by omega
      clear hlt hj hjn
      go_wp2_with fail
      go_loopg [11] (m + 1) (fun gk i wr => ∃ (c : Nat) (P : Nat → Prop), c + gk = m + 1 ∧ c ≤ m ∧ i = .int .i64 c ∧ Hid (OP w wr P p (M.rk 1 c j) (M.rg c j)))
      case atStart => exact ⟨0, _, by omega, by omega, rfl, H⟩
      case round =>
        obtain ⟨c, P2, hc, hcm, rfl, H2⟩ := hrel
        clear H
        by_cases hcl : c < m
        · have hcl' : (c : Int) < (m : Int) := by omega
          have f := M.row_step (s := 1) (t := 2) (by decide) c j hn30 (by omega)
          obtain ⟨a, ha⟩ : ∃ a : Nat, 32 + c = a := ⟨_, rfl⟩
          rw [ha] at f
          have hA : (32 : Int) + (c : Int) = (a : Int) := by omega
          have hAw : IntKind.i64.wrap (a : Int) = (a : Int) := wI rfl (by omega)
          obtain ⟨xv, hxv⟩ : ∃ v, M.ex (M.rk 1 c j) (M.rg c j) 1 (a : Int) = v := ⟨_, rfl⟩
          rw [hxv] at f
          replace f := hideIt f
          replace hxv := hideIt hxv
          clear ha
          by_cases hcj : c < j
          · have hcj' : (c : Int) < (j : Int) := by omega
            obtain rfl : xv = (c : Int) := f.out.2.2.1 hcj
            have fb : M.eb (M.rk 1 c j) (M.rg c j) 1 (a : Int) = true := by rw [f.out.2.1]; simp [hcj]
            replace fb := hideIt fb
            go_wp2_with fail
            refine (recv_is H2.out.a (by rw [M.rg_len]; omega) (M.rg_nodup _ _) a false c true 0 hxv.out fb.out f.out.1).mono ?_
            rintro e w6 ⟨rfl, Z, F⟩
            rw [f.out.2.2.2.1, f.out.2.2.2.2] at Z
            have H6 := hideIt (oTurn H2.out Z F)
            clear Z F f H2 fb hxv hA hAw
            go_wp2
            go_roundg (gk - 1)
            case rel => exact ⟨c + 1, _, by omega, by omega, by go_num, H6⟩
            case measure => omega
          · have hcj' : ¬ (c : Int) < (j : Int) := by omega
            have fb : M.eb (M.rk 1 c j) (M.rg c j) 1 (a : Int) = false := by rw [f.out.2.1]; simp; omega
            replace fb := hideIt fb
            go_wp2_with fail
            refine (recv_is H2.out.a (by rw [M.rg_len]; omega) (M.rg_nodup _ _) a false xv false 0 hxv.out fb.out f.out.1).mono ?_
            rintro e w6 ⟨rfl, Z, F⟩
            rw [f.out.2.2.2.1, f.out.2.2.2.2] at Z
            have H6 := hideIt (oTurn H2.out Z F)
            clear Z F f H2 fb hxv hA hAw
            go_wp2
            go_roundg (gk - 1)
            case rel => exact ⟨c + 1, _, by omega, by omega, by go_num, H6⟩
            case measure => omega
        · have hcl' : ¬ (c : Int) < (m : Int) := by omega
          obtain rfl : c = m := by omega
          clear hcl hc hcm
          go_wp2_with fail
          refine (state_is H2.out.a (by rw [M.rg_len]; omega)).mono ?_
          rintro e w3 ⟨v3, rfl, l3, g3⟩
          have H3 := hideIt (oKept H2.out g3)
          obtain ⟨x3, c3, rfl, _⟩ := l3.arr
          obtain ⟨n3, hn3⟩ : ∃ n3, (M.rg c j).length = n3 := ⟨_, rfl⟩
          rw [hn3] at l3
          rw [hn3]
          replace l3 := hideIt l3
          replace hn3 := hideIt hn3
          clear g3 H2
          obtain ⟨kk, hkk⟩ : ∃ kk, M.rk 1 c j = kk := ⟨_, rfl⟩
          rw [hkk] at H3
          rw [hkk]
          replace hkk := hideIt hkk
          go_wp2_with fail
          go_loopg [16, 17] (j - c + 1) (fun gk v i wr => ∃ (d : Nat) (x : Option Addr) (cp : Nat), d + gk = j - c + 1 ∧ d ≤ j - c ∧ i = .int .i64 ((c + d : Nat) : Int) ∧ v = .slice x d cp ∧ Hid (IL wr w3.heap.size (.slice x d cp) (M.rg c (c + d))) ∧ w3.grownBy wr none)
          case atStart => exact ⟨0, none, 0, by omega, by omega, by simp, rfl, hideIt (by rw [M.rg_nil (by omega)]; exact Ls.nil _ _ _ _ _), gbRefl _ _⟩
          case round =>
            obtain ⟨d, x, cp, hd, hdm, rfl, rfl, HL, gw⟩ := hrel
            by_cases hdl : d < j - c
            · obtain ⟨y, hy⟩ : ∃ y, c + d = y := ⟨_, rfl⟩
              have hyl : (y : Int) < (j : Int) := by omega
              have hs : M.rg c (c + (d + 1)) = M.rg c (c + d) ++ [((c + d : Nat) : Int)] := M.rg_snoc (a := c) (b := c + d) (Nat.le_add_right _ _)
              rw [hy] at hs
              rw [hy] at HL
              rw [hy]
              obtain ⟨v1, w1, hr, l1, g1, o1⟩ := run_append_i (wr.alloc (.cells #[.int .i64 (y : Int)] 3)) w3.heap.size (.slice x d cp) (M.rg c y) (HL.out.kept (gbAlloc _ _ _)) 26 (some ⟨wr.heap.size, 0, none⟩) 1 1 [(y : Int)] rfl (by simp) (by rintro ad ⟨⟩; exact rowI wr y) (by rw [M.rg_len]; omega) (by have := gw.size; simp; omega)
              rw [← hs] at l1
              obtain ⟨x1, d1, e3, _⟩ := l1.arr
              rw [M.rg_len, show c + (d + 1) - c = d + 1 by omega] at e3
              subst e3
              have G1 : w3.grownBy w1 none := gbNews (gbTrans (gbAny (gbAllocN gw _) _) g1) (fun k' hk' => (HL.out.lt k' hk').1)
              replace l1 := hideIt l1
              clear g1 o1 hs
              have hy1 : y = c + d := hy.symm
              replace hy1 := hideIt hy1
              clear hy
              go_wp2_with (at_builtin; refine wpList_append_run rfl (.tmp 101) (.tmp 103) rfl (.slice x d cp) (.slice (some ⟨wr.heap.size, 0, none⟩) 1 1) rfl rfl (.slice x1 (d + 1) d1) w1 hr ?_)
              clear hr
              go_roundg (gk - 1)
              case rel => exact ⟨d + 1, x1, d1, by omega, by omega, by rw [show c + (d + 1) = y + 1 by have := hy1.out; omega]; go_num, rfl, l1, G1⟩
              case measure => omega
            · obtain rfl : d = j - c := by omega
              have hyl : ¬ ((c + (j - c) : Nat) : Int) < (j : Int) := by omega
              have hL : M.rg c (c + (j - c)) = M.rg c j := by
                by_cases e : c ≤ j
                · rw [show c + (j - c) = j by omega]
                · rw [M.rg_nil (by omega), M.rg_nil (by omega)]
              rw [hL] at HL
              have hn4 : n3 = j - c := by rw [← hn3.out, M.rg_len]
              obtain ⟨y, hy⟩ : ∃ y, c + (j - c) = y := ⟨_, rfl⟩
              rw [hy] at hyl
              rw [hy]
              rw [← hn4] at HL
              rw [← hn4]
              clear hy hL hd hdm hdl
              have hkn : Hid (kk = if n3 = 0 then 0 else 1) := hideIt (by
                rw [← hkk.out, hn4]
                unfold M.rk
                by_cases e : c < j
                · rw [if_pos e, if_neg (by omega)]
                · rw [if_neg e, if_pos (by omega)])
              clear hn4 hkk
              have H4 := hideIt (oKept H3.out gw)
              have l34 := hideIt (l3.out.kept gw)
              have hP4 := hideIt (fun i hi => (H3.out.lo i hi).2)
              have hlen : (M.rg c j).length ≤ 900 := by rw [M.rg_len]; omega
              clear H3 l3 gw
              by_cases h0 : n3 = 0
              · subst h0
                obtain rfl : kk = 0 := hkn.out
                clear hkn
                go_wp2_with fail
                refine (same_is l34.out HL.out (by omega)).mono ?_
                rintro e w5 ⟨rfl, g5⟩
                have H5 := hideIt (oKept H4.out g5)
                have HL5 := hideIt (HL.out.kept g5)
                clear g5 l34 H4
                go_wp2_with fail
                refine (clear_is H5.out.a hlen).mono ?_
                rintro e w6 ⟨v6, rfl, l6, o6, Z6, F6⟩
                have H6 := hideIt (oTurn H5.out Z6 F6)
                have HL6 := hideIt (HL5.out.fr F6 (fun k' hk' e => by have := hP4.out k' e; have := (HL5.out.lt k' hk').1; omega))
                replace l6 := hideIt l6
                clear o6 Z6 F6 H5 HL5 hP4
                go_wp2_with fail
                refine (same_is l6.out HL6.out (by omega)).mono ?_
                rintro e w7 ⟨rfl, g7⟩
                have H7 := hideIt (oKept H6.out g7)
                clear g7 H6 l6 HL6
                go_wp2_with fail
                refine (clear_is H7.out.a (by simp)).mono ?_
                rintro e w8 ⟨v8, rfl, l8, o8, Z8, F8⟩
                obtain ⟨x8, c8, rfl, _⟩ := l8.arr
                have H8 := hideIt (oTurn H7.out Z8 F8)
                clear l8 o8 Z8 F8 H7
                go_wp2
                go_ret
                exact ⟨rfl, H8.out.gr⟩
              · have h0' : ((n3 : Int) == 0) = false := by simp; omega
                obtain rfl : kk = 1 := by rw [hkn.out, if_neg h0]
                clear hkn
                go_wp2_with fail
                refine (same_is l34.out HL.out (by omega)).mono ?_
                rintro e w5 ⟨rfl, g5⟩
                have H5 := hideIt (oKept H4.out g5)
                have HL5 := hideIt (HL.out.kept g5)
                clear g5 l34 H4
                go_wp2_with fail
                refine (clear_is H5.out.a hlen).mono ?_
                rintro e w6 ⟨v6, rfl, l6, o6, Z6, F6⟩
                have H6 := hideIt (oTurn H5.out Z6 F6)
                have HL6 := hideIt (HL5.out.fr F6 (fun k' hk' e => by have := hP4.out k' e; have := (HL5.out.lt k' hk').1; omega))
                replace l6 := hideIt l6
                clear o6 Z6 F6 H5 HL5 hP4
                go_wp2_with fail
                refine (same_is l6.out HL6.out (by omega)).mono ?_
                rintro e w7 ⟨rfl, g7⟩
                have H7 := hideIt (oKept H6.out g7)
                clear g7 H6 l6 HL6
                go_wp2_with fail
                refine (clear_is H7.out.a (by simp)).mono ?_
                rintro e w8 ⟨v8, rfl, l8, o8, Z8, F8⟩
                obtain ⟨x8, c8, rfl, _⟩ := l8.arr
                have H8 := hideIt (oTurn H7.out Z8 F8)
                clear l8 o8 Z8 F8 H7
                go_wp2
                go_ret
                exact ⟨rfl, H8.out.gr⟩


set_option maxHeartbeats 8000000 in
set_option maxRecDepth 100000 in
theorem core_true (a0 a1 : Int) (w : World) (U0 n : Nat) (hu0 : IntKind.u64.wrap a0 = (U0 : Int)) (hy0 : (U0 : Int) % 30 = (n : Int)) (hn30 : n < 30) (U1 m : Nat) (hu1 : IntKind.u64.wrap a1 = (U1 : Int)) (hy1 : (U1 : Int) % 30 = (m : Int)) (hm30 : m < 30) :
    Calls Try.prog 5 #[.int .i64 a0, .int .i64 a1, .bool true] w fun e w' => e = .returned (.bool true) ∧ w.grownBy w' none := by
  go_enter Try.func5, Try.ntmps5
  go_wp2_with fail
  refine (works_is w).mono ?_
  rintro e wa ⟨rfl, ga⟩
  replace ga := hideIt ga
  go_wp2_with fail
  clear hu0 hu1 hy0 hy1
  refine (enew_is wa).mono ?_
  rintro e wb ⟨p, rfl, A1, g1⟩
  have H1 : Hid (OP w wb (fun i => wa.heap.size ≤ i ∧ i < wb.heap.size) p (M.rk 2 0 0) (M.rg 0 0)) := hideIt ⟨A1, fun i hi => by have := ga.out.size; omega, gbTrans ga.out g1⟩
  clear A1 g1 ga
  go_wp2_with fail
  go_loopg [8] (n + 1) (fun gk i wr => ∃ (j : Nat) (P : Nat → Prop), j + gk = n + 1 ∧ j ≤ n ∧ i = .int .i64 j ∧ Hid (OP w wr P p (M.rk 2 0 j) (M.rg 0 j)))
  case atStart => exact ⟨0, _, by omega, by omega, rfl, H1⟩
  case round =>
    obtain ⟨j, P, hj, hjn, rfl, H⟩ := hrel
    clear H1
    by_cases hlt : j < n
    · have hlt' : (j : Int) < (n : Int) := by omega
      have f := hideIt (M.row_push (s := 2) (o := 1) (by decide) (by decide) j (by omega))
      go_wp2_with fail
      refine (recv_is H.out.a (by rw [M.rg_len]; omega) (M.rg_nodup _ _) j true 0 false 0 f.out.2.2.1 f.out.2.1 f.out.1).mono ?_
      rintro e w6 ⟨rfl, Z, F⟩
      rw [f.out.2.2.2.1, f.out.2.2.2.2] at Z
      have H6 := hideIt (oTurn H.out Z F)
      clear Z F f H
      go_wp2
      go_roundg (gk - 1)
      case rel => exact ⟨j + 1, _, by omega, by omega, by go_num, H6⟩
      case measure => omega
    · have hlt' : ¬ (j : Int) < (n : Int) := by omega
      obtain rfl : j = n := by omega
      clear hlt hj hjn
      go_wp2_with fail
      go_loopg [11] (m + 1) (fun gk i wr => ∃ (c : Nat) (P : Nat → Prop), c + gk = m + 1 ∧ c ≤ m ∧ i = .int .i64 c ∧ Hid (OP w wr P p (M.rk 2 c j) (M.rg c j)))
      case atStart => exact ⟨0, _, by omega, by omega, rfl, H⟩
      case round =>
        obtain ⟨c, P2, hc, hcm, rfl, H2⟩ := hrel
        clear H
        by_cases hcl : c < m
        · have hcl' : (c : Int) < (m : Int) := by omega
          have f := M.row_step (s := 2) (t := 1) (by decide) c j hn30 (by omega)
          obtain ⟨a, ha⟩ : ∃ a : Nat, 32 + c = a := ⟨_, rfl⟩
          rw [ha] at f
          have hA : (32 : Int) + (c : Int) = (a : Int) := by omega
          have hAw : IntKind.i64.wrap (a : Int) = (a : Int) := wI rfl (by omega)
          obtain ⟨xv, hxv⟩ : ∃ v, M.ex (M.rk 2 c j) (M.rg c j) 2 (a : Int) = v := ⟨_, rfl⟩
          rw [hxv] at f
          replace f := hideIt f
          replace hxv := hideIt hxv
          clear ha
          by_cases hcj : c < j
          · have hcj' : (c : Int) < (j : Int) := by omega
            obtain rfl : xv = (c : Int) := f.out.2.2.1 hcj
            have fb : M.eb (M.rk 2 c j) (M.rg c j) 2 (a : Int) = true := by rw [f.out.2.1]; simp [hcj]
            replace fb := hideIt fb
            go_wp2_with fail
            refine (send_is H2.out.a (by rw [M.rg_len]; omega) (M.rg_nodup _ _) a false c true 0 hxv.out fb.out f.out.1).mono ?_
            rintro e w6 ⟨rfl, Z, F⟩
            rw [f.out.2.2.2.1, f.out.2.2.2.2] at Z
            have H6 := hideIt (oTurn H2.out Z F)
            clear Z F f H2 fb hxv hA hAw
            go_wp2
            go_roundg (gk - 1)
            case rel => exact ⟨c + 1, _, by omega, by omega, by go_num, H6⟩
            case measure => omega
          · have hcj' : ¬ (c : Int) < (j : Int) := by omega
            have fb : M.eb (M.rk 2 c j) (M.rg c j) 2 (a : Int) = false := by rw [f.out.2.1]; simp; omega
            replace fb := hideIt fb
            go_wp2_with fail
            refine (send_is H2.out.a (by rw [M.rg_len]; omega) (M.rg_nodup _ _) a false xv false 0 hxv.out fb.out f.out.1).mono ?_
            rintro e w6 ⟨rfl, Z, F⟩
            rw [f.out.2.2.2.1, f.out.2.2.2.2] at Z
            have H6 := hideIt (oTurn H2.out Z F)
            clear Z F f H2 fb hxv hA hAw
            go_wp2
            go_roundg (gk - 1)
            case rel => exact ⟨c + 1, _, by omega, by omega, by go_num, H6⟩
            case measure => omega
        · have hcl' : ¬ (c : Int) < (m : Int) := by omega
          obtain rfl : c = m := by omega
          clear hcl hc hcm
          go_wp2_with fail
          refine (state_is H2.out.a (by rw [M.rg_len]; omega)).mono ?_
          rintro e w3 ⟨v3, rfl, l3, g3⟩
          have H3 := hideIt (oKept H2.out g3)
          obtain ⟨x3, c3, rfl, _⟩ := l3.arr
          obtain ⟨n3, hn3⟩ : ∃ n3, (M.rg c j).length = n3 := ⟨_, rfl⟩
          rw [hn3] at l3
          rw [hn3]
          replace l3 := hideIt l3
          replace hn3 := hideIt hn3
          clear g3 H2
          obtain ⟨kk, hkk⟩ : ∃ kk, M.rk 2 c j = kk := ⟨_, rfl⟩
          rw [hkk] at H3
          rw [hkk]
          replace hkk := hideIt hkk
          go_wp2_with fail
          go_loopg [16, 17] (j - c + 1) (fun gk v i wr => ∃ (d : Nat) (x : Option Addr) (cp : Nat), d + gk = j - c + 1 ∧ d ≤ j - c ∧ i = .int .i64 ((c + d : Nat) : Int) ∧ v = .slice x d cp ∧ Hid (IL wr w3.heap.size (.slice x d cp) (M.rg c (c + d))) ∧ w3.grownBy wr none)
          case atStart => exact ⟨0, none, 0, by omega, by omega, by simp, rfl, hideIt (by rw [M.rg_nil (by omega)]; exact Ls.nil _ _ _ _ _), gbRefl _ _⟩
          case round =>
            obtain ⟨d, x, cp, hd, hdm, rfl, rfl, HL, gw⟩ := hrel
            by_cases hdl : d < j - c
            · obtain ⟨y, hy⟩ : ∃ y, c + d = y := ⟨_, rfl⟩
              have hyl : (y : Int) < (j : Int) := by omega
              have hs : M.rg c (c + (d + 1)) = M.rg c (c + d) ++ [((c + d : Nat) : Int)] := M.rg_snoc (a := c) (b := c + d) (Nat.le_add_right _ _)
              rw [hy] at hs
              rw [hy] at HL
              rw [hy]
              obtain ⟨v1, w1, hr, l1, g1, o1⟩ := run_append_i (wr.alloc (.cells #[.int .i64 (y : Int)] 3)) w3.heap.size (.slice x d cp) (M.rg c y) (HL.out.kept (gbAlloc _ _ _)) 26 (some ⟨wr.heap.size, 0, none⟩) 1 1 [(y : Int)] rfl (by simp) (by rintro ad ⟨⟩; exact rowI wr y) (by rw [M.rg_len]; omega) (by have := gw.size; simp; omega)
              rw [← hs] at l1
              obtain ⟨x1, d1, e3, _⟩ := l1.arr
              rw [M.rg_len, show c + (d + 1) - c = d + 1 by omega] at e3
              subst e3
              have G1 : w3.grownBy w1 none := gbNews (gbTrans (gbAny (gbAllocN gw _) _) g1) (fun k' hk' => (HL.out.lt k' hk').1)
              replace l1 := hideIt l1
              clear g1 o1 hs
              have hy1 : y = c + d := hy.symm
              replace hy1 := hideIt hy1
              clear hy
              go_wp2_with (at_builtin; refine wpList_append_run rfl (.tmp 101) (.tmp 103) rfl (.slice x d cp) (.slice (some ⟨wr.heap.size, 0, none⟩) 1 1) rfl rfl (.slice x1 (d + 1) d1) w1 hr ?_)
              clear hr
              go_roundg (gk - 1)
              case rel => exact ⟨d + 1, x1, d1, by omega, by omega, by rw [show c + (d + 1) = y + 1 by have := hy1.out; omega]; go_num, rfl, l1, G1⟩
              case measure => omega
            · obtain rfl : d = j - c := by omega
              have hyl : ¬ ((c + (j - c) : Nat) : Int) < (j : Int) := by omega
              have hL : M.rg c (c + (j - c)) = M.rg c j := by
                by_cases e : c ≤ j
                · rw [show c + (j - c) = j by omega]
                · rw [M.rg_nil (by omega), M.rg_nil (by omega)]
              rw [hL] at HL
              have hn4 : n3 = j - c := by rw [← hn3.out, M.rg_len]
              obtain ⟨y, hy⟩ : ∃ y, c + (j - c) = y := ⟨_, rfl⟩
              rw [hy] at hyl
              rw [hy]
              rw [← hn4] at HL
              rw [← hn4]
              clear hy hL hd hdm hdl
              have hkn : Hid (kk = if n3 = 0 then 0 else 2) := hideIt (by
                rw [← hkk.out, hn4]
                unfold M.rk
                by_cases e : c < j
                · rw [if_pos e, if_neg (by omega)]
                · rw [if_neg e, if_pos (by omega)])
              clear hn4 hkk
              have H4 := hideIt (oKept H3.out gw)
              have l34 := hideIt (l3.out.kept gw)
              have hP4 := hideIt (fun i hi => (H3.out.lo i hi).2)
              have hlen : (M.rg c j).length ≤ 900 := by rw [M.rg_len]; omega
              clear H3 l3 gw
              by_cases h0 : n3 = 0
              · subst h0
                obtain rfl : kk = 0 := hkn.out
                clear hkn
                go_wp2_with fail
                refine (same_is l34.out HL.out (by omega)).mono ?_
                rintro e w5 ⟨rfl, g5⟩
                have H5 := hideIt (oKept H4.out g5)
                have HL5 := hideIt (HL.out.kept g5)
                clear g5 l34 H4
                go_wp2_with fail
                refine (clear_is H5.out.a hlen).mono ?_
                rintro e w6 ⟨v6, rfl, l6, o6, Z6, F6⟩
                have H6 := hideIt (oTurn H5.out Z6 F6)
                have HL6 := hideIt (HL5.out.fr F6 (fun k' hk' e => by have := hP4.out k' e; have := (HL5.out.lt k' hk').1; omega))
                replace l6 := hideIt l6
                clear o6 Z6 F6 H5 HL5 hP4
                go_wp2_with fail
                refine (same_is l6.out HL6.out (by omega)).mono ?_
                rintro e w7 ⟨rfl, g7⟩
                have H7 := hideIt (oKept H6.out g7)
                clear g7 H6 l6 HL6
                go_wp2_with fail
                refine (clear_is H7.out.a (by simp)).mono ?_
                rintro e w8 ⟨v8, rfl, l8, o8, Z8, F8⟩
                obtain ⟨x8, c8, rfl, _⟩ := l8.arr
                have H8 := hideIt (oTurn H7.out Z8 F8)
                clear l8 o8 Z8 F8 H7
                go_wp2
                go_ret
                exact ⟨rfl, H8.out.gr⟩
              · have h0' : ((n3 : Int) == 0) = false := by simp; omega
                obtain rfl : kk = 2 := by rw [hkn.out, if_neg h0]
                clear hkn
                go_wp2_with fail
                refine (same_is l34.out HL.out (by omega)).mono ?_
                rintro e w5 ⟨rfl, g5⟩
                have H5 := hideIt (oKept H4.out g5)
                have HL5 := hideIt (HL.out.kept g5)
                clear g5 l34 H4
                go_wp2_with fail
                refine (clear_is H5.out.a hlen).mono ?_
                rintro e w6 ⟨v6, rfl, l6, o6, Z6, F6⟩
                have H6 := hideIt (oTurn H5.out Z6 F6)
                have HL6 := hideIt (HL5.out.fr F6 (fun k' hk' e => by have := hP4.out k' e; have := (HL5.out.lt k' hk').1; omega))
                replace l6 := hideIt l6
                clear o6 Z6 F6 H5 HL5 hP4
                go_wp2_with fail
                refine (same_is l6.out HL6.out (by omega)).mono ?_
                rintro e w7 ⟨rfl, g7⟩
                have H7 := hideIt (oKept H6.out g7)
                clear g7 H6 l6 HL6
                go_wp2_with fail
                refine (clear_is H7.out.a (by simp)).mono ?_
                rintro e w8 ⟨v8, rfl, l8, o8, Z8, F8⟩
                obtain ⟨x8, c8, rfl, _⟩ := l8.arr
                have H8 := hideIt (oTurn H7.out Z8 F8)
                clear l8 o8 Z8 F8 H7
                go_wp2
                go_ret
                exact ⟨rfl, H8.out.gr⟩

theorem walk (a0 a1 : Int) (b2 : Bool) (w : World) :
    Calls Try.prog 5 #[.int .i64 a0, .int .i64 a1, .bool b2] w fun e w' => e = .returned (.bool true) ∧ Below w.heap.size w w' := by
  refine endWalk ?_
  obtain ⟨U0, n, hu0, hy0, hn⟩ := modArg a0 30 (by decide)
  obtain ⟨U1, m, hu1, hy1, hm⟩ := modArg a1 30 (by decide)
  cases b2
  · exact core_false a0 a1 w U0 n hu0 hy0 hn U1 m hu1 hy1 hm
  · exact core_true a0 a1 w U0 n hu0 hy0 hn U1 m hu1 hy1 hm

set_option maxRecDepth 100000 in
theorem lifted (os : Os) (started : os.Started) (H : Type) (enc : TypeId × Value → H) :
    ReturnsInHanded {} Try.checked os 5 .any (Rows.endpointRowSpec.pre6 enc Try.prog Try.f5 Rows.endpointRowRow.domain false) (Rows.endpointRowSpec.post enc Try.prog Try.f5 false true false false) := by
  refine returnsInHanded_of_change (C := Try.checked) own started (by kernel_rfl) Try.func5
    (ChangeSpec.witness6 (enc := enc) (C := Try.checked) false ⟨#[], #[.int .i64 0, .int .i64 0, .bool false], []⟩ 8 (by kernel_rfl) (by kernel_rfl) (by kernel_rfl) (by kernel_rfl)) ?_
  intro W base args ds gs before hval0 hW hcnd _
  have hval : ∀ (j : Nat) t v, Try.f5.params[j]? = some t → args[j]? = some v → Value.okWide Try.prog W .any base t v := hval0
  have hW' := hW
  obtain ⟨p, q, hA0, hV, rfl, hfz, hnd⟩ := hW
  have hA : DataW.TrodAll enc Try.prog W 0 (fun _ => true) true Try.f5.params.toList args.toList ds p := hA0
  rw [Try.params5] at hA hval
  obtain ⟨v0, vs0, d0, ds0, p0, q0, hargs, rfl, rfl, h0, r0⟩ := trodAll_cons hA
  obtain ⟨v1, vs1, d1, ds1, p1, q1, rfl, rfl, rfl, h1, r1⟩ := trodAll_cons r0
  obtain ⟨v2, vs2, d2, ds2, p2, q2, rfl, rfl, rfl, h2, r2⟩ := trodAll_cons r1
  obtain ⟨rfl, rfl, rfl⟩ := trodAll_nil r2
  obtain rfl : args = #[v0, v1, v2] := by cases args; simp_all
  obtain ⟨rfl, rfl⟩ := trodVars_none hV
  obtain ⟨a0, rfl, rfl, rfl, w0⟩ := open_int Try.underlying3 (hval 0 3 v0 rfl rfl) h0
  obtain ⟨a1, rfl, rfl, rfl, w1⟩ := open_int Try.underlying3 (hval 1 3 v1 rfl rfl) h1
  obtain ⟨b2, rfl, rfl, rfl⟩ := open_bool Try.underlying4 (hval 2 4 v2 rfl rfl) h2
  clear hA0 hval0
  refine (walk a0 a1 b2 W).mono fun e W' ⟨he, bel⟩ => ?_
  subst he
  exact ⟨_, rfl, _, _, _, [], _, [], hW', trodAll_mk1 (shut_bool Try.underlying4 _), (trodAll_cons_mk (shut_int Try.underlying3 w0) (trodAll_cons_mk (shut_int Try.underlying3 w1) (trodAll_cons_mk (shut_bool Try.underlying4 _) trodAll_mk0))), rfl, bel.frame _, fun h => by cases h⟩

theorem over : Rows.endpointRowRow.holds Try.pinned (OpenSpec.ofChange Rows.endpointRowSpec) :=
  OpenClaim.holds_of_wide 5 Try.f5 rfl rfl rfl rfl rfl rfl rfl ⟨rfl, rfl, rfl, rfl, rfl⟩ rfl rfl rfl rfl rfl (by kernel_rfl) Try.func5 (by kernel_rfl)
    (of_decide_eq_true (by kernel_rfl)) (by unfold Func.isWrapper; first | (rw [if_pos (by decide +kernel)]; kernel_rfl) | (rw [if_neg (by decide +kernel)]; exact ⟨rfl, rfl⟩))
    (fun os started H enc _ => lifted os started H enc)

theorem proved : Rows.EndpointRowSaid := over
end Go.Proofs.Ytenljiciiocagaa.endpointRow
namespace Go.Proofs.Ytenljiciiocagaa
theorem endpointRow_holds : Rows.EndpointRowSaid := endpointRow.proved
#print axioms endpointRow_holds
end Go.Proofs.Ytenljiciiocagaa
