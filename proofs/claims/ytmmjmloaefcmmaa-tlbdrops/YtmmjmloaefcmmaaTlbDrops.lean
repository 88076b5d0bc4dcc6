/- TlbDrops: for every list of pages, every page and every entry: behind walks through one table, a change of that page's entry and a Drop of that page, each To is what a walk tells, and all that is kept agrees. No condition. -/
import Derived.Test.YtmmjmloaefcmmaaAsw
import Derived.Deep.CutRange
import Derived.Deep.DeepCutAuto
import Derived.Test.YtmmjmloaefcmmaaArgs
import Derived.ProofKit
import Derived.OpenShut
import Derived.ShutString
import Derived.ChangeOld
import Derived.Below
import Derived.Deep.Slices
namespace Go.Proofs.Ytmmjmloaefcmmaa.tlbDrops
open Go.ChangeShapes Go.WideShapes Go.ChangeAt Go.RowKit
set_option linter.unusedVariables false

theorem own : ownKnob Try.prog.godebug = none := by kernel_rfl
theorem laidOut : laidOutB Try.prog = true := by kernel_rfl

/-- The words behind j entries of the table at 16. -/
def Fd (j : Nat) : Nat → Nat := fun i => if 16 ≤ i ∧ i < 16 + j then 16 * (i - 14) + 3 else if i = 0 then 17 else 0
theorem Fd_zero : Fd 0 = fun i => if i = 0 then 17 else 0 := by
  funext i
  unfold Fd
  rw [if_neg (by omega)]
theorem Fd_succ (j v : Nat) (hv : v = 32 + 16 * j + 3) : (fun i => if i = 16 + j then v else Fd j i) = Fd (j + 1) := by
  funext i
  unfold Fd
  by_cases e : i = 16 + j
  · subst e
    rw [if_pos rfl, if_pos (by omega)]
    omega
  · rw [if_neg e]
    by_cases c : 16 ≤ i ∧ i < 16 + j
    · rw [if_pos c, if_pos (by omega)]
    · simp only [if_neg c, if_neg (show ¬ (16 ≤ i ∧ i < 16 + (j + 1)) by omega)]
theorem pe_one {F : Nat → Nat} (h0 : F 0 = 17) (q : Nat) (hq : q < 16) (hF : F (16 + q) = 16 * (q + 2) + 3) : M.pe 400 F 0 ((16 * q : Nat) : Int) = (⟨true, true, ((16 * (q + 2) : Nat) : Int)⟩, 0) := by
  have e1 : 0 + 16 * q / 256 = 0 := by omega
  have e2 : 16 * 1 + 16 * q / 16 % 16 = 16 + q := by omega
  have h := M.pe_mk (n := 400) (F := F) (A := 16 * q) (D := 0) (P := 1) (Q := q + 2) (v := true) (by omega) (by omega) (by omega) (by rw [e1, h0]; exact M.up_word 1 false (by omega)) (by omega) (by rw [e2, hF]; exact M.up_word (q + 2) true (by omega)) (by omega)
  exact h
/-- The pages that are kept. -/
def Pg (L : List K) : Prop := ∀ k ∈ L, k.s = 5 ∧ ∃ q : Nat, k.p = (q : Int) ∧ q < 16
theorem dropped {L : List K} {page v : Nat} (h : Agr 400 (Fd 16) L (fun _ => 0)) (hp : Pg L) : Agr 400 (fun i => if i = 16 + page then v else Fd 16 i) (M.kd L 5 page) (fun _ => 0) ∧ Pg (M.kd L 5 page) := by
  have hm : ∀ k ∈ M.kd L 5 (page : Int), k ∈ L := fun k hk => (List.mem_filter.1 hk).1
  refine ⟨fun k hk => ?_, fun k hk => hp k (hm k hk)⟩
  obtain ⟨h5, q, hq, hq'⟩ := hp k (hm k hk)
  have hne : q ≠ page := fun e => M.kd_not hk ⟨h5, by rw [hq, e]⟩
  have e := h k (hm k hk)
  simp only at e ⊢
  rw [hq] at e ⊢
  have c : (q : Int) * 16 = ((16 * q : Nat) : Int) := by omega
  rw [c] at e ⊢
  have F1 : Fd 16 (16 + q) = 16 * (q + 2) + 3 := by unfold Fd; rw [if_pos (by omega)]; omega
  rw [pe_one (F := Fd 16) rfl q hq' F1] at e
  rw [← e]
  exact pe_one (F := fun i => if i = 16 + page then v else Fd 16 i) (by show (if 0 = 16 + page then v else Fd 16 0) = 17; rw [if_neg (by omega)]; rfl) q hq' (by show (if 16 + q = 16 + page then v else Fd 16 (16 + q)) = _; rw [if_neg (by omega)]; exact F1)
theorem more {L L' : List K} {s a : Int} (h : Pg L) (hs : s = 5) (A : Nat) (ha : a = (A : Int)) (hA : A < 256) (hL : ∀ k ∈ L', k ∈ L ∨ (k.s = s ∧ k.p = a / 16 ∧ M.isA a = true)) : Pg L' := fun k hk => by
  rcases hL k hk with e | ⟨e1, e2, _⟩
  · exact h k e
  · exact ⟨e1.trans hs, A / 16, by rw [e2, ha]; omega, by omega⟩

set_option maxHeartbeats 4000000 in
set_option maxRecDepth 100000 in
theorem core (x0 : Option Addr) (len0 cap0 : Nat) (a1 a2 : Int) (b3 : Bool) (U1 pg U2 u V V2 X2 : Nat) (w : World) (hx0 : ∀ i, i < len0 → ∃ x z, x0 = some x ∧ w.cell? (x.add i) = some (.int .i64 z))
    (v1 : IntKind.u64.wrap a1 = (U1 : Int)) (v2 : (U1 : Int) % 16 = (pg : Int)) (pl : pg < 16) (v3 : IntKind.u64.wrap a2 = (U2 : Int)) (v4 : (U2 : Int) % 20 = (u : Int)) (ul : u < 20) (v5 : 2 + (u : Int) = (V : Int)) (vl : V < 22) (v6 : 16 * (V : Int) = (V2 : Int)) (vl2 : V2 < 352) (v7 : 16 + (pg : Int) = (X2 : Int)) (hX : Hid (X2 = 16 + pg)) (xl : X2 < 32) :
    Calls Try.prog 5 #[.slice x0 len0 cap0, .int .i64 a1, .int .i64 a2, .bool b3] w fun e w' => e = .returned (.bool true) ∧ w.grownBy w' none := by
  have HX := hideIt hx0
  clear hx0
  go_enter Try.func5, Try.ntmps5
  go_wp2_with fail
  refine (works_is _).mono ?_
  rintro e w1 ⟨rfl, g1⟩
  go_wp2_with fail
  refine (Y2.new_yes _ 400 (by omega) (by omega)).mono ?_
  rintro e w2 ⟨p, b, rfl, hm2, g2, hp, hb⟩
  have m2 : Mm w2 p b 400 (fun _ => 0) := ⟨hm2, fun _ => by omega⟩
  have G2 := gbTrans g1 g2
  have hp0 : w.heap.size ≤ p := Nat.le_trans g1.size hp
  have hb0 : w.heap.size ≤ b := Nat.le_trans g1.size hb
  clear hm2 g1 g2 hp hb
  go_wp2_with fail
  refine (m2.put 0 17 (by omega) (by omega)).mono ?_
  rintro e w3 ⟨rfl, m3, g3⟩
  have H3 : Hid (Mm w3 p b 400 (Fd 0) ∧ w.grownBy w3 none) := hideIt ⟨by rw [Fd_zero]; exact m3, gbNew (gbTrans (gbAny G2 _) g3) hb0⟩
  clear m2 m3 G2 g3
  go_wp2_with fail
  go_loopg [11] 16 (fun gk i wr => ∃ j : Nat, j + gk = 16 ∧ i = .int .i64 j ∧ Hid (Mm wr p b 400 (Fd j) ∧ w.grownBy wr none))
  case atStart => exact ⟨0, rfl, rfl, H3⟩
  case round =>
    obtain ⟨j, hj, rfl, H⟩ := hrel
    clear H3
    by_cases hlt : j < 16
    · obtain ⟨A, hA, eA⟩ : ∃ A : Nat, Hid (A = 16 + j) ∧ 16 + (j : Int) = (A : Int) := ⟨16 + j, hideIt rfl, by omega⟩
      obtain ⟨B, hB, eB⟩ : ∃ B : Nat, Hid (B = 16 * j) ∧ 16 * (j : Int) = (B : Int) := ⟨16 * j, hideIt rfl, by omega⟩
      obtain ⟨C, hC, eC⟩ : ∃ C : Nat, Hid (C = 32 + 16 * j) ∧ 32 + (B : Int) = (C : Int) := ⟨32 + 16 * j, hideIt rfl, by have := hB.out; omega⟩
      obtain ⟨D, hD, eD⟩ : ∃ D : Nat, Hid (D = 32 + 16 * j + 3) ∧ (C : Int) + 3 = (D : Int) := ⟨32 + 16 * j + 3, hideIt rfl, by have := hC.out; omega⟩
      have bA : A ≤ 1000 := by have := hA.out; omega
      have bB : B ≤ 1000 := by have := hB.out; omega
      have bC : C ≤ 1000 := by have := hC.out; omega
      have bD : D ≤ 1000 := by have := hD.out; omega
      go_wp2_with fail
      refine (H.out.1.put A D (by have := hA.out; omega) (by omega)).mono ?_
      rintro e w4 ⟨rfl, m4, g4⟩
      have H4 : Hid (Mm w4 p b 400 (Fd (j + 1)) ∧ w.grownBy w4 none) := hideIt ⟨by rw [← Fd_succ j D hD.out, ← hA.out]; exact m4, gbNew (gbTrans (gbAny H.out.2 _) g4) hb0⟩
      clear H m4 g4
      go_wp2
      go_roundg (gk - 1)
      case rel => exact ⟨j + 1, by omega, by go_num, H4⟩
      case measure => omega
    · obtain rfl : j = 16 := by omega
      clear hlt hj
      go_wp2_with fail
      refine (tnew_is w _ H.out.2).mono ?_
      rintro e w4 ⟨t, O, rfl, T4, g4, l4⟩
      have H4 : Hid (Tw w w4 O t [] p b 400 (Fd 16) ∧ Agr 400 (Fd 16) [] (fun _ => 0) ∧ Pg []) := hideIt ⟨⟨T4, H.out.1.kept g4, fun e => by have := l4 _ e; have := H.out.1.plt; omega, fun e => by have := l4 _ e; have := H.out.1.blt; omega, hp0, hb0⟩, fun k hk => by simp at hk, fun k hk => by simp at hk⟩
      clear H T4 g4 l4
      go_wp2_with fail
      go_loopg [13] 30 (fun gk i wr => ∃ (j : Nat) (O : Nat → Prop) (L : List K), j + gk = 30 ∧ i = .int .i64 j ∧ Hid (Tw w wr O t L p b 400 (Fd 16) ∧ Agr 400 (Fd 16) L (fun _ => 0) ∧ Pg L))
      case atStart => exact ⟨0, O, [], rfl, rfl, H4⟩
      case round =>
        obtain ⟨j, O, L, hj, rfl, H⟩ := hrel
        clear H4
        by_cases hlt : j < len0 ∧ j < 30
        · obtain ⟨c1, c2⟩ := hlt
          · obtain ⟨x, z, rfl, hz⟩ := HX.out j c1
            replace hz := H.out.1.tb.gr.cell hz (by simp)
            obtain ⟨U, q, q1, q2, q3⟩ := modArg z 16 (by omega)
            replace q2 : (U : Int) % 16 = (q : Int) := q2
            obtain ⟨A, hA, eA⟩ : ∃ A : Nat, Hid (A = 16 * q) ∧ 16 * (q : Int) = (A : Int) := ⟨16 * q, hideIt rfl, by omega⟩
            have bA : A < 256 := by have := hA.out; omega
            obtain ⟨L', k1, k2, k3⟩ := M.kt_as (dir := 0) (a := (A : Int)) (wr := false) H.out.1.tb.gd H.out.2.1 (show M.nr 5 = true by decide) (rfl : (fun _ => (0 : Int)) 5 = 0)
            obtain ⟨⟨y, f⟩, hto⟩ : ∃ y, M.to 400 (Fd 16) 0 (A : Int) false = y := ⟨_, rfl⟩
            rw [hto] at k1
            clear hto
            have P' := more H.out.2.2 rfl A rfl bA k3
            have HK := hideIt k1
            have HA' := hideIt k2
            have HP' := hideIt P'
            clear k1 k2 k3 P'
            go_wp2_with fail
            refine (tto_is H.out.1.tb H.out.1.mm 5 0 A false y f HK.out).mono ?_
            rintro e w5 ⟨rfl, T5, F5⟩
            have H5 := hideIt (And.intro (H.out.1.call T5 F5) (And.intro HA'.out HP'.out))
            clear H T5 F5
            go_wp2
            go_roundg (gk - 1)
            case rel => exact ⟨j + 1, _, L', by omega, by go_num, H5⟩
            case measure => omega
        · go_upto_region 13 with fail
          go_cut [56] from 49 to 56 (fun s wc => s = .bool false ∧ wc = wr)
          case first =>
            by_cases k1 : (j : Int) < (len0 : Int)
            · have k2 : ¬ (j : Int) < 30 := by omega
              go_wp2
              go_meet
              exact ⟨rfl, rfl⟩
            · go_wp2
              go_meet
              exact ⟨rfl, rfl⟩
          case rest =>
          obtain ⟨rfl, rfl⟩ := hcut
          clear hlt hj
          cases b3
          · obtain ⟨V3, hV3, eV3⟩ : ∃ V3 : Nat, Hid (V3 = V2 + 1) ∧ (V2 : Int) + 1 = (V3 : Int) := ⟨V2 + 1, hideIt rfl, by omega⟩
            have bV3 : V3 ≤ 1000 := by have := hV3.out; omega
            go_wp2_with fail
            refine (H.out.1.mm.put X2 V3 (by omega) (by omega)).mono ?_
            rintro e w5 ⟨rfl, m5, g5⟩
            have H5 := hideIt (H.out.1.put m5 g5)
            clear m5 g5
            go_wp2_with fail
            refine (drop_is H5.out.tb 5 pg).mono ?_
            rintro e w6 ⟨rfl, T6, F6⟩
            have H6 : Hid (Tw w w6 _ t _ p b 400 (fun i => if i = X2 then V3 else Fd 16 i) ∧ Agr 400 (fun i => if i = X2 then V3 else Fd 16 i) (M.kd L 5 pg) (fun _ => 0)) := hideIt ⟨H5.out.call T6 F6, by rw [hX.out]; exact (dropped H.out.2.1 H.out.2.2).1⟩
            clear H H5 T6 F6 v1 v2 v3 v4 v5 v6 v7
            obtain ⟨Fx, hFx⟩ : ∃ Fx, (fun i => if i = X2 then V3 else Fd 16 i) = Fx := ⟨_, rfl⟩
            rw [hFx] at H6
            clear hFx
            go_wp2_with fail
            go_loopg [16] 16 (fun gk i wr => ∃ (j : Nat) (O : Nat → Prop) (L : List K), j + gk = 16 ∧ i = .int .i64 j ∧ Hid (Tw w wr O t L p b 400 Fx ∧ Agr 400 Fx L (fun _ => 0)))
            case atStart => exact ⟨0, _, _, rfl, rfl, H6⟩
            case round =>
              obtain ⟨j, O, L, hj, rfl, H⟩ := hrel
              clear H6
              by_cases hlt : j < 16
              · obtain ⟨B, hB, eB⟩ : ∃ B : Nat, Hid (B = 16 * j) ∧ 16 * (j : Int) = (B : Int) := ⟨16 * j, hideIt rfl, by omega⟩
                have bB : B ≤ 256 := by have := hB.out; omega
                obtain ⟨A, hA, eA⟩ : ∃ A : Nat, Hid (A = B + 3) ∧ (B : Int) + 3 = (A : Int) := ⟨B + 3, hideIt rfl, by omega⟩
                have bA : A ≤ 260 := by have := hA.out; omega
                obtain ⟨q, hq⟩ : ∃ q, ((j : Int) % 2 == 0) = q := ⟨_, rfl⟩
                obtain ⟨⟨x, f⟩, hto⟩ : ∃ y, M.to 400 Fx 0 (A : Int) q = y := ⟨_, rfl⟩
                obtain ⟨L', k1, k2, k3⟩ := M.kt_as (dir := 0) (a := (A : Int)) (wr := q) H.out.1.tb.gd H.out.2 (show M.nr 5 = true by decide) (rfl : (fun _ => (0 : Int)) 5 = 0)
                rw [hto] at k1
                have HK := hideIt k1
                have HA' := hideIt k2
                replace hto := hideIt hto
                clear k1 k2 k3
                go_wp2_with fail
                refine (tto_is H.out.1.tb H.out.1.mm 5 0 A q x f HK.out).mono ?_
                rintro e w7 ⟨rfl, T7, F7⟩
                have H7 := hideIt (And.intro (H.out.1.call T7 F7) HA'.out)
                clear H T7 F7
                go_wp2_with fail
                refine (to_is _ p b 400 Fx 0 A q x f H7.out.1.mm hto.out).mono ?_
                rintro e w8 ⟨rfl, g8⟩
                have H8 := hideIt (And.intro (H7.out.1.kept g8) H7.out.2)
                clear H7 g8
                go_wp2
                go_roundg (gk - 1)
                case rel => exact ⟨j + 1, _, L', by omega, by go_num, H8⟩
                case measure => omega
              · go_wp2_with fail
                refine (agrees_is H.out.1.tb H.out.1.mm 5 0 true (H.out.2.ka 5 0 rfl)).mono ?_
                rintro e w7 ⟨rfl, g7⟩
                go_wp2
                go_ret
                exact ⟨rfl, gbTrans H.out.1.tb.gr g7⟩
          · obtain ⟨V3, hV3, eV3⟩ : ∃ V3 : Nat, Hid (V3 = V2 + 1) ∧ (V2 : Int) + 1 = (V3 : Int) := ⟨V2 + 1, hideIt rfl, by omega⟩
            have bV3 : V3 ≤ 1000 := by have := hV3.out; omega
            obtain ⟨V4, hV4, eV4⟩ : ∃ V4 : Nat, Hid (V4 = V3 + 2) ∧ (V3 : Int) + 2 = (V4 : Int) := ⟨V3 + 2, hideIt rfl, by omega⟩
            have bV4 : V4 ≤ 1010 := by have := hV4.out; omega
            go_wp2_with fail
            refine (H.out.1.mm.put X2 V4 (by omega) (by omega)).mono ?_
            rintro e w5 ⟨rfl, m5, g5⟩
            have H5 := hideIt (H.out.1.put m5 g5)
            clear m5 g5
            go_wp2_with fail
            refine (drop_is H5.out.tb 5 pg).mono ?_
            rintro e w6 ⟨rfl, T6, F6⟩
            have H6 : Hid (Tw w w6 _ t _ p b 400 (fun i => if i = X2 then V4 else Fd 16 i) ∧ Agr 400 (fun i => if i = X2 then V4 else Fd 16 i) (M.kd L 5 pg) (fun _ => 0)) := hideIt ⟨H5.out.call T6 F6, by rw [hX.out]; exact (dropped H.out.2.1 H.out.2.2).1⟩
            clear H H5 T6 F6 v1 v2 v3 v4 v5 v6 v7
            obtain ⟨Fx, hFx⟩ : ∃ Fx, (fun i => if i = X2 then V4 else Fd 16 i) = Fx := ⟨_, rfl⟩
            rw [hFx] at H6
            clear hFx
            go_wp2_with fail
            go_loopg [16] 16 (fun gk i wr => ∃ (j : Nat) (O : Nat → Prop) (L : List K), j + gk = 16 ∧ i = .int .i64 j ∧ Hid (Tw w wr O t L p b 400 Fx ∧ Agr 400 Fx L (fun _ => 0)))
            case atStart => exact ⟨0, _, _, rfl, rfl, H6⟩
            case round =>
              obtain ⟨j, O, L, hj, rfl, H⟩ := hrel
              clear H6
              by_cases hlt : j < 16
              · obtain ⟨B, hB, eB⟩ : ∃ B : Nat, Hid (B = 16 * j) ∧ 16 * (j : Int) = (B : Int) := ⟨16 * j, hideIt rfl, by omega⟩
                have bB : B ≤ 256 := by have := hB.out; omega
                obtain ⟨A, hA, eA⟩ : ∃ A : Nat, Hid (A = B + 3) ∧ (B : Int) + 3 = (A : Int) := ⟨B + 3, hideIt rfl, by omega⟩
                have bA : A ≤ 260 := by have := hA.out; omega
                obtain ⟨q, hq⟩ : ∃ q, ((j : Int) % 2 == 0) = q := ⟨_, rfl⟩
                obtain ⟨⟨x, f⟩, hto⟩ : ∃ y, M.to 400 Fx 0 (A : Int) q = y := ⟨_, rfl⟩
                obtain ⟨L', k1, k2, k3⟩ := M.kt_as (dir := 0) (a := (A : Int)) (wr := q) H.out.1.tb.gd H.out.2 (show M.nr 5 = true by decide) (rfl : (fun _ => (0 : Int)) 5 = 0)
                rw [hto] at k1
                have HK := hideIt k1
                have HA' := hideIt k2
                replace hto := hideIt hto
                clear k1 k2 k3
                go_wp2_with fail
                refine (tto_is H.out.1.tb H.out.1.mm 5 0 A q x f HK.out).mono ?_
                rintro e w7 ⟨rfl, T7, F7⟩
                have H7 := hideIt (And.intro (H.out.1.call T7 F7) HA'.out)
                clear H T7 F7
                go_wp2_with fail
                refine (to_is _ p b 400 Fx 0 A q x f H7.out.1.mm hto.out).mono ?_
                rintro e w8 ⟨rfl, g8⟩
                have H8 := hideIt (And.intro (H7.out.1.kept g8) H7.out.2)
                clear H7 g8
                go_wp2
                go_roundg (gk - 1)
                case rel => exact ⟨j + 1, _, L', by omega, by go_num, H8⟩
                case measure => omega
              · go_wp2_with fail
                refine (agrees_is H.out.1.tb H.out.1.mm 5 0 true (H.out.2.ka 5 0 rfl)).mono ?_
                rintro e w7 ⟨rfl, g7⟩
                go_wp2
                go_ret
                exact ⟨rfl, gbTrans H.out.1.tb.gr g7⟩

theorem walk (x0 : Option Addr) (len0 cap0 : Nat) (a1 a2 : Int) (b3 : Bool) (w : World) (hx0 : ∀ i, i < len0 → ∃ x z, x0 = some x ∧ w.cell? (x.add i) = some (.int .i64 z)) :
    Calls Try.prog 5 #[.slice x0 len0 cap0, .int .i64 a1, .int .i64 a2, .bool b3] w fun e w' => e = .returned (.bool true) ∧ Below w.heap.size w w' := by
  refine endWalk ?_
  obtain ⟨U1, pg, u1, u2, u3⟩ := modArg a1 16 (by omega)
  obtain ⟨U2, u, u4, u5, u6⟩ := modArg a2 20 (by omega)
  exact core x0 len0 cap0 a1 a2 b3 U1 pg U2 u (2 + u) (16 * (2 + u)) (16 + pg) w hx0 u1 u2 u3 u4 u5 u6 (by omega) (by omega) (by omega) (by omega) (by omega) (hideIt rfl) (by omega)

set_option maxRecDepth 100000 in
theorem lifted (os : Os) (started : os.Started) (H : Type) (enc : TypeId × Value → H) :
    ReturnsInHanded {} Try.checked os 5 .any (Rows.tlbDropsSpec.pre6 enc Try.prog Try.f5 Rows.tlbDropsRow.domain false) (Rows.tlbDropsSpec.post enc Try.prog Try.f5 false true false false) := by
  refine returnsInHanded_of_change (C := Try.checked) own started (by kernel_rfl) Try.func5
    (ChangeSpec.witness6 (enc := enc) (C := Try.checked) false ⟨#[], #[.slice none 0 0, .int .i64 0, .int .i64 0, .bool false], []⟩ 8 (by kernel_rfl) (by kernel_rfl) (by kernel_rfl) (by kernel_rfl)) ?_
  intro W base args ds gs before hval0 hW hcnd _
  have hval : ∀ (j : Nat) t v, Try.f5.params[j]? = some t → args[j]? = some v → Value.okWide Try.prog W .any base t v := hval0
  have hW' := hW
  obtain ⟨p, q, hA0, hV, rfl, hfz, hnd⟩ := hW
  have hA : DataW.TrodAll enc Try.prog W 0 (fun _ => true) true Try.f5.params.toList args.toList ds p := hA0
  rw [Try.params5] at hA hval
  obtain ⟨v0, vs0, d0, ds0, p0, q0, hargs, rfl, rfl, h0, r0⟩ := trodAll_cons hA
  obtain ⟨v1, vs1, d1, ds1, p1, q1, rfl, rfl, rfl, h1, r1⟩ := trodAll_cons r0
  obtain ⟨v2, vs2, d2, ds2, p2, q2, rfl, rfl, rfl, h2, r2⟩ := trodAll_cons r1
  obtain ⟨v3, vs3, d3, ds3, p3, q3, rfl, rfl, rfl, h3, r3⟩ := trodAll_cons r2
  obtain ⟨rfl, rfl, rfl⟩ := trodAll_nil r3
  obtain rfl : args = #[v0, v1, v2, v3] := by cases args; simp_all
  obtain ⟨rfl, rfl⟩ := trodVars_none hV
  obtain ⟨x0, len0, cap0, rfl⟩ := okWide_slice Try.underlying63 (hval 0 63 v0 rfl rfl)
  have hx0 := intsArg h0
  have k0 := h0
  have lt0 : ∀ x ∈ p0, x.block < W.heap.size := by obtain ⟨m, hm⟩ := k0; exact DataW.trod_lt m _ _ _ hm
  obtain ⟨a1, rfl, rfl, rfl, w1⟩ := open_int Try.underlying3 (hval 1 3 v1 rfl rfl) h1
  obtain ⟨a2, rfl, rfl, rfl, w2⟩ := open_int Try.underlying3 (hval 2 3 v2 rfl rfl) h2
  obtain ⟨b3, rfl, rfl, rfl⟩ := open_bool Try.underlying4 (hval 3 4 v3 rfl rfl) h3
  clear hA0 hval0
  refine (walk x0 len0 cap0 a1 a2 b3 W hx0).mono fun e W' ⟨he, bel⟩ => ?_
  subst he
  exact ⟨_, rfl, _, _, _, [], _, [], hW', trodAll_mk1 (shut_bool Try.underlying4 _), (trodAll_cons_mk (Below.trod laidOut (by kernel_rfl) (of_decide_eq_true (by kernel_rfl)) k0 bel lt0) (trodAll_cons_mk (shut_int Try.underlying3 w1) (trodAll_cons_mk (shut_int Try.underlying3 w2) (trodAll_cons_mk (shut_bool Try.underlying4 _) trodAll_mk0)))), rfl, bel.frame _, fun h => by cases h⟩

theorem over : Rows.tlbDropsRow.holds Try.pinned (OpenSpec.ofChange Rows.tlbDropsSpec) :=
  OpenClaim.holds_of_wide 5 Try.f5 rfl rfl rfl rfl rfl rfl rfl ⟨rfl, rfl, rfl, rfl, rfl⟩ rfl rfl rfl rfl rfl (by kernel_rfl) Try.func5 (by kernel_rfl)
    (of_decide_eq_true (by kernel_rfl)) (by unfold Func.isWrapper; first | (rw [if_pos (by decide +kernel)]; kernel_rfl) | (rw [if_neg (by decide +kernel)]; exact ⟨rfl, rfl⟩))
    (fun os started H enc _ => lifted os started H enc)

theorem proved : Rows.TlbDropsSaid := over
end Go.Proofs.Ytmmjmloaefcmmaa.tlbDrops
namespace Go.Proofs.Ytmmjmloaefcmmaa
theorem tlbDrops_holds : Rows.TlbDropsSaid := tlbDrops.proved
#print axioms tlbDrops_holds
end Go.Proofs.Ytmmjmloaefcmmaa
