/- CapFields (the section Words): for every kind, object, rights, badge and guard (each brought into its bounds), a right capability with rights, a badge or a guard that its kind does not have is not right, and with one that it has it is. No condition. -/
import Derived.Test.YtkgjcolimceogaaThree
import Derived.RegionTactic
import Derived.ChangeAlike
import Derived.Deep.RegionHeld3
import Derived.ProofKit
import Derived.OpenShut
import Derived.ShutString
import Derived.ChangeOld
import Derived.Below
import Derived.Deep.Slices
namespace Go.Proofs.Ytkgjcolimceogaa.capFields
open Go.ChangeShapes Go.WideShapes Go.ChangeAt Go.RowKit
set_option linter.unusedVariables false

theorem own : ownKnob Try.prog.godebug = none := by kernel_rfl
theorem laidOut : laidOutB Try.prog = true := by kernel_rfl

set_option maxHeartbeats 4000000 in
theorem some_of (a0 a1 a2 a3 a4 : Int) (U0 U1 U2 K O R D G : Nat) (c0 : ((K : Int) == 0) = false) (c10 : ((K : Int) == 10) = false) (e0 : IntKind.u64.wrap a0 = (U0 : Int)) (e1 : IntKind.u64.wrap a1 = (U1 : Int)) (e2 : IntKind.u64.wrap a2 = (U2 : Int))
    (f0 : (U0 : Int) % 12 = (K : Int)) (f1 : (U1 : Int) % 64 = (O : Int)) (f2 : 1 + (U2 : Int) % 7 = (R : Int)) (f3 : 1 + a3 % 1000 = (D : Int)) (f4 : a4 % 8 = (G : Int)) (hK : K < 12) (hO : O < 64) (hR : R < 8) (hD : D < 1001) (hG : G < 8)
    (p3 : 0 ≤ a3) (p4 : 0 ≤ a4) (q3 : a3 < 18446744073709551616) (q4 : a4 < 18446744073709551616) (fr fb fg : Int) (v4 v5 v6 v2 : Bool) (k4 : ((K : Int) == 4) = v4) (k5 : ((K : Int) == 5) = v5) (k6 : ((K : Int) == 6) = v6) (k2 : ((K : Int) == 2) = v2)
    (hv : (v4 = true ∧ v5 = false ∧ v6 = false) ∨ (v4 = false ∧ v5 = true ∧ v6 = false) ∨ (v4 = false ∧ v5 = false ∧ v6 = true) ∨ (v4 = false ∧ v5 = false ∧ v6 = false))
    (hr : (fr == 0) = (v4 || v5 || v6)) (hb : (fb == 0) = (v4 || v5)) (hg : (fg == 0) = v2)
    (HC : ∀ w, Calls Try.prog 13 #[cv ⟨K, O, 0, 0, 0, 0⟩] w fun e w' => e = .returned (.int .i64 0) ∧ w.grownBy w' none)
    (HR : ∀ w, Calls Try.prog 13 #[cv ⟨K, O, R, 0, 0, 0⟩] w fun e w' => e = .returned (.int .i64 fr) ∧ w.grownBy w' none)
    (HB : ∀ w, Calls Try.prog 13 #[cv ⟨K, O, 0, D, 0, 0⟩] w fun e w' => e = .returned (.int .i64 fb) ∧ w.grownBy w' none)
    (HG : ∀ w, Calls Try.prog 13 #[cv ⟨K, O, 0, 0, G, 3⟩] w fun e w' => e = .returned (.int .i64 fg) ∧ w.grownBy w' none) (w : World) :
    Calls Try.prog 8 #[.int .i64 a0, .int .i64 a1, .int .i64 a2, .int .u64 a3, .int .u64 a4] w fun e w' => e = .returned (.bool true) ∧ w.grownBy w' none := by
  go_enter Try.func8, Try.ntmps8
  go_wp2_with fail
  refine (works_any _).mono ?_
  rintro e w1 ⟨rfl, G1⟩
  go_upto_region 6 with fail
  obtain ⟨W1, hW1, X, h1⟩ := boxNew w1 ⟨K, O, 0, 0, 0, 0⟩
  simp only at hW1
  rw [hW1]
  clear hW1
  have G2 := gbTrans G1 h1
  clear h1
  have lw := G1.size
  clear G1 f0 f1 f2 f3
  obtain ⟨x0, x1, x2, x3, x4, x5, _, _⟩ := id X
  go_wp2_with fail
  refine (HC _).mono ?_
  rintro e w2 ⟨rfl, g2⟩
  clear x0 x1 x2 x3 x4 x5
  replace X := X.kept g2
  have G3 := gbTrans G2 g2
  clear G2 g2
  go_upto_region 12 with fail
  obtain ⟨x0, x1, x2, x3, x4, x5, xl, xf⟩ := id X
  simp only at x0 x1 x2 x3 x4 x5
  go_cut [12, 13, 14] from 56 (fun s t u wc => ∃ p q r : Nat, s = .pointer (some ⟨p, 0, none⟩) ∧ t = .pointer (some ⟨q, 0, none⟩) ∧ u = .pointer (some ⟨r, 0, none⟩) ∧ w2.grownBy wc none ∧ Box wc p ⟨K, O, 0, 0, 0, 0⟩ ∧ Box wc q ⟨K, O, 0, 0, 0, 0⟩ ∧ Box wc r ⟨K, O, 0, 0, 0, 0⟩ ∧ p ≠ q ∧ p ≠ r ∧ q ≠ r ∧ w2.heap.size ≤ p ∧ w2.heap.size ≤ q ∧ w2.heap.size ≤ r)
  case first =>
    go_region_held3 (fun w' => w'.cell? ⟨w1.heap.size, 0, none⟩ = some (.int .i64 K) ∧ w'.cell? ⟨w1.heap.size, 1, none⟩ = some (.int .i64 O) ∧ w'.cell? ⟨w1.heap.size, 2, none⟩ = some (.int .i64 0) ∧ w'.cell? ⟨w1.heap.size, 3, none⟩ = some (.int .u64 0) ∧ w'.cell? ⟨w1.heap.size, 4, none⟩ = some (.int .u64 0) ∧ w'.cell? ⟨w1.heap.size, 5, none⟩ = some (.int .i64 0)) (exact X.six (by repeat (first | with_reducible exact gbRefl _ _ | refine gbDrew ?_ | refine gbAllocN ?_ _ | refine gbSetNew ?_ _ _ _ (by simp <;> omega)))) (fail)
    all_goals
      go_wp2_with fail
      go_meet
      obtain ⟨Z0, Z1, Z2, gZ⟩ := threeNew w2 ⟨K, O, 0, 0, 0, 0⟩ _ rfl
      refine ⟨_, _, _, rfl, rfl, rfl, gZ, ?_, ?_, ?_, ?_, ?_, ?_, ?_, ?_, ?_⟩
      all_goals first | with_reducible assumption | omega
  case rest =>
    obtain ⟨p, q, r, rfl, rfl, rfl, g4, P, Q, S, n1, n2, n3, l1, l2, l3⟩ := hcut
    clear x0 x1 x2 x3 x4 x5 xl xf X
    have ls := G3.size
    have G4 := gbTrans G3 g4
    clear G3 g4
    obtain ⟨x0, x1, x2, x3, x4, x5, _, _⟩ := id P
    go_upto_region 14 with fail
    clear x0 x1 x2 x3 x4 x5
    obtain ⟨W5, hW5, P5, h5⟩ := P.setR R
    rw [hW5]
    clear hW5
    replace Q := Q.keep h5 (by simp; omega)
    replace S := S.keep h5 (by simp; omega)
    have G5 := gbNew (gbTrans (gbAny G4 _) h5) (by omega)
    clear P h5 G4
    obtain ⟨x0, x1, x2, x3, x4, x5, _, _⟩ := id Q
    go_upto_region 15 with fail
    clear x0 x1 x2 x3 x4 x5
    obtain ⟨Q6, h6⟩ := Q.set1 D
    obtain ⟨W6, hW6⟩ : ∃ W, W5.setCell ⟨q, 3, none⟩ (.int .u64 D) = W := ⟨_, rfl⟩
    rw [hW6] at Q6 h6 ⊢
    clear hW6
    have P6 := P5.keep h6 (by simp; omega)
    replace S := S.keep h6 (by simp; omega)
    have G6 := gbNew (gbTrans (gbAny G5 _) h6) (by omega)
    clear P5 Q h6 G5
    obtain ⟨x0, x1, x2, x3, x4, x5, _, _⟩ := id S
    go_upto_region 16 with fail
    clear x0 x1 x2 x3 x4 x5
    obtain ⟨W7, hW7, S7, h7⟩ := S.setGN G 3
    rw [hW7]
    clear hW7
    have P7 := P6.keep h7 (by simp; omega)
    have Q7 := Q6.keep h7 (by simp; omega)
    have G7 := gbNew (gbTrans (gbAny G6 _) h7) (by omega)
    clear P6 Q6 S h7 G6
    simp only at P7 Q7 S7
    rcases hv with ⟨rfl, rfl, rfl⟩ | ⟨rfl, rfl, rfl⟩ | ⟨rfl, rfl, rfl⟩ | ⟨rfl, rfl, rfl⟩
    all_goals
      simp only [Bool.or_true, Bool.or_false] at hr hb
      obtain ⟨x0, x1, x2, x3, x4, x5, _, _⟩ := id P7
      go_wp2_with fail
      refine (HR _).mono ?_
      rintro e u1 ⟨rfl, g1⟩
      clear x0 x1 x2 x3 x4 x5
      have Q8 := Q7.kept g1
      have S8 := S7.kept g1
      have G8 := gbTrans G7 g1
      obtain ⟨x0, x1, x2, x3, x4, x5, _, _⟩ := id Q8
      go_wp2_with fail
      refine (HB _).mono ?_
      rintro e u2 ⟨rfl, g2⟩
      clear x0 x1 x2 x3 x4 x5
      have S9 := S8.kept g2
      have G9 := gbTrans G8 g2
      obtain ⟨x0, x1, x2, x3, x4, x5, _, _⟩ := id S9
      go_wp2_with fail
      refine (HG _).mono ?_
      rintro e u3 ⟨rfl, g3⟩
      go_wp2
      go_ret
      exact ⟨rfl, gbTrans G9 g3⟩

set_option maxHeartbeats 4000000 in
theorem none_of (a0 a1 a2 a3 a4 : Int) (U0 U1 U2 K O R D G : Nat) (f : Int) (c0 : ((K : Int) == 0) = true ∨ ((K : Int) == 0) = false ∧ ((K : Int) == 10) = true) (ho : ((f != 10) = false) ∨ ((f != 10) = true ∧ ((O : Int) != 0) = false))
    (HZ : ∀ w, Calls Try.prog 13 #[cv ⟨K, O, 0, 0, 0, 0⟩] w fun e w' => e = .returned (.int .i64 f) ∧ w.grownBy w' none) (e0 : IntKind.u64.wrap a0 = (U0 : Int)) (e1 : IntKind.u64.wrap a1 = (U1 : Int)) (e2 : IntKind.u64.wrap a2 = (U2 : Int))
    (f0 : (U0 : Int) % 12 = (K : Int)) (f1 : (U1 : Int) % 64 = (O : Int)) (f2 : 1 + (U2 : Int) % 7 = (R : Int)) (f3 : 1 + a3 % 1000 = (D : Int)) (f4 : a4 % 8 = (G : Int)) (hK : K < 12) (hO : O < 64) (hR : R < 8) (hD : D < 1001) (hG : G < 8)
    (p3 : 0 ≤ a3) (p4 : 0 ≤ a4) (q3 : a3 < 18446744073709551616) (q4 : a4 < 18446744073709551616) (fr fb fg : Int) (v4 v5 v6 v2 : Bool) (k4 : ((K : Int) == 4) = v4) (k5 : ((K : Int) == 5) = v5) (k6 : ((K : Int) == 6) = v6) (k2 : ((K : Int) == 2) = v2)
    (hv : v4 = false ∧ v5 = false ∧ v6 = false)
    (hr : (fr == 0) = (v4 || v5 || v6)) (hb : (fb == 0) = (v4 || v5)) (hg : (fg == 0) = v2)
    (HC : ∀ w, Calls Try.prog 13 #[cv ⟨K, 0, 0, 0, 0, 0⟩] w fun e w' => e = .returned (.int .i64 0) ∧ w.grownBy w' none)
    (HR : ∀ w, Calls Try.prog 13 #[cv ⟨K, 0, R, 0, 0, 0⟩] w fun e w' => e = .returned (.int .i64 fr) ∧ w.grownBy w' none)
    (HB : ∀ w, Calls Try.prog 13 #[cv ⟨K, 0, 0, D, 0, 0⟩] w fun e w' => e = .returned (.int .i64 fb) ∧ w.grownBy w' none)
    (HG : ∀ w, Calls Try.prog 13 #[cv ⟨K, 0, 0, 0, G, 3⟩] w fun e w' => e = .returned (.int .i64 fg) ∧ w.grownBy w' none) (w : World) :
    Calls Try.prog 8 #[.int .i64 a0, .int .i64 a1, .int .i64 a2, .int .u64 a3, .int .u64 a4] w fun e w' => e = .returned (.bool true) ∧ w.grownBy w' none := by
  obtain c0 | ⟨c0, c10⟩ := c0
  all_goals
    rcases ho with ho | ⟨ho, ho'⟩
    all_goals
      go_enter Try.func8, Try.ntmps8
      go_wp2_with fail
      refine (works_any _).mono ?_
      rintro e w1 ⟨rfl, G1⟩
      go_upto_region 6 with fail
      obtain ⟨W1, hW1, X, h1⟩ := boxNew w1 ⟨K, O, 0, 0, 0, 0⟩
      simp only at hW1
      rw [hW1]
      clear hW1
      have G2 := gbTrans G1 h1
      clear h1
      have lw := G1.size
      clear G1 f0 f1 f2 f3
      obtain ⟨x0, x1, x2, x3, x4, x5, _, _⟩ := id X
      go_wp2_with fail
      refine (HZ _).mono ?_
      rintro e w9 ⟨rfl, g9⟩
      clear x0 x1 x2 x3 x4 x5
      replace X := X.kept g9
      replace G2 := gbTrans G2 g9
      clear g9
      obtain ⟨x0, x1, x2, x3, x4, x5, xl, xf⟩ := id X
      go_upto_region 10 with fail
      clear x0 x1 x2 x3 x4 x5 xl xf
      obtain ⟨W8, hW8, X8, h8⟩ := X.setO 0
      rw [hW8]
      clear hW8
      replace G2 := gbNew (gbTrans (gbAny G2 _) h8) lw
      clear X h8
      obtain ⟨x0, x1, x2, x3, x4, x5, _, _⟩ := id X8
      simp only at x0 x1 x2 x3 x4 x5
      have X := X8
      clear X8
      go_wp2_with fail
      refine (HC _).mono ?_
      rintro e w2 ⟨rfl, g2⟩
      clear x0 x1 x2 x3 x4 x5
      replace X := X.kept g2
      have G3 := gbTrans G2 g2
      clear G2 g2
      go_upto_region 12 with fail
      obtain ⟨x0, x1, x2, x3, x4, x5, xl, xf⟩ := id X
      simp only at x0 x1 x2 x3 x4 x5
      go_cut [12, 13, 14] from 56 (fun s t u wc => ∃ p q r : Nat, s = .pointer (some ⟨p, 0, none⟩) ∧ t = .pointer (some ⟨q, 0, none⟩) ∧ u = .pointer (some ⟨r, 0, none⟩) ∧ w2.grownBy wc none ∧ Box wc p ⟨K, 0, 0, 0, 0, 0⟩ ∧ Box wc q ⟨K, 0, 0, 0, 0, 0⟩ ∧ Box wc r ⟨K, 0, 0, 0, 0, 0⟩ ∧ p ≠ q ∧ p ≠ r ∧ q ≠ r ∧ w2.heap.size ≤ p ∧ w2.heap.size ≤ q ∧ w2.heap.size ≤ r)
      case first =>
        go_region_held3 (fun w' => w'.cell? ⟨w1.heap.size, 0, none⟩ = some (.int .i64 K) ∧ w'.cell? ⟨w1.heap.size, 1, none⟩ = some (.int .i64 0) ∧ w'.cell? ⟨w1.heap.size, 2, none⟩ = some (.int .i64 0) ∧ w'.cell? ⟨w1.heap.size, 3, none⟩ = some (.int .u64 0) ∧ w'.cell? ⟨w1.heap.size, 4, none⟩ = some (.int .u64 0) ∧ w'.cell? ⟨w1.heap.size, 5, none⟩ = some (.int .i64 0)) (exact X.six (by repeat (first | with_reducible exact gbRefl _ _ | refine gbDrew ?_ | refine gbAllocN ?_ _ | refine gbSetNew ?_ _ _ _ (by simp <;> omega)))) (fail)
        all_goals
          go_wp2_with fail
          go_meet
          obtain ⟨Z0, Z1, Z2, gZ⟩ := threeNew w2 ⟨K, 0, 0, 0, 0, 0⟩ _ rfl
          refine ⟨_, _, _, rfl, rfl, rfl, gZ, ?_, ?_, ?_, ?_, ?_, ?_, ?_, ?_, ?_⟩
          all_goals first | with_reducible assumption | omega
      case rest =>
        obtain ⟨p, q, r, rfl, rfl, rfl, g4, P, Q, S, n1, n2, n3, l1, l2, l3⟩ := hcut
        clear x0 x1 x2 x3 x4 x5 xl xf X
        have ls := G3.size
        have G4 := gbTrans G3 g4
        clear G3 g4
        obtain ⟨x0, x1, x2, x3, x4, x5, _, _⟩ := id P
        go_upto_region 14 with fail
        clear x0 x1 x2 x3 x4 x5
        obtain ⟨W5, hW5, P5, h5⟩ := P.setR R
        rw [hW5]
        clear hW5
        replace Q := Q.keep h5 (by simp; omega)
        replace S := S.keep h5 (by simp; omega)
        have G5 := gbNew (gbTrans (gbAny G4 _) h5) (by omega)
        clear P h5 G4
        obtain ⟨x0, x1, x2, x3, x4, x5, _, _⟩ := id Q
        go_upto_region 15 with fail
        clear x0 x1 x2 x3 x4 x5
        obtain ⟨Q6, h6⟩ := Q.set1 D
        obtain ⟨W6, hW6⟩ : ∃ W, W5.setCell ⟨q, 3, none⟩ (.int .u64 D) = W := ⟨_, rfl⟩
        rw [hW6] at Q6 h6 ⊢
        clear hW6
        have P6 := P5.keep h6 (by simp; omega)
        replace S := S.keep h6 (by simp; omega)
        have G6 := gbNew (gbTrans (gbAny G5 _) h6) (by omega)
        clear P5 Q h6 G5
        obtain ⟨x0, x1, x2, x3, x4, x5, _, _⟩ := id S
        go_upto_region 16 with fail
        clear x0 x1 x2 x3 x4 x5
        obtain ⟨W7, hW7, S7, h7⟩ := S.setGN G 3
        rw [hW7]
        clear hW7
        have P7 := P6.keep h7 (by simp; omega)
        have Q7 := Q6.keep h7 (by simp; omega)
        have G7 := gbNew (gbTrans (gbAny G6 _) h7) (by omega)
        clear P6 Q6 S h7 G6
        simp only at P7 Q7 S7
        obtain ⟨rfl, rfl, rfl⟩ := hv
        all_goals
          simp only [Bool.or_false] at hr hb
          obtain ⟨x0, x1, x2, x3, x4, x5, _, _⟩ := id P7
          go_wp2_with fail
          refine (HR _).mono ?_
          rintro e u1 ⟨rfl, g1⟩
          clear x0 x1 x2 x3 x4 x5
          have Q8 := Q7.kept g1
          have S8 := S7.kept g1
          have G8 := gbTrans G7 g1
          obtain ⟨x0, x1, x2, x3, x4, x5, _, _⟩ := id Q8
          go_wp2_with fail
          refine (HB _).mono ?_
          rintro e u2 ⟨rfl, g2⟩
          clear x0 x1 x2 x3 x4 x5
          have S9 := S8.kept g2
          have G9 := gbTrans G8 g2
          obtain ⟨x0, x1, x2, x3, x4, x5, _, _⟩ := id S9
          go_wp2_with fail
          refine (HG _).mono ?_
          rintro e u3 ⟨rfl, g3⟩
          go_wp2
          go_ret
          exact ⟨rfl, gbTrans G9 g3⟩

theorem fld_base (k o : Int) (hk : M.knd k = true) (o0 : 0 ≤ o) (o1 : o ≤ 63) (hn : M.nul k = true → o = 0) : M.chk ⟨k, o, 0, 0, 0, 0⟩ = 0 := by
  refine M.chk_iff.2 ⟨hk, M.bnd_iff.2 ⟨o0, o1, rfl, rfl, rfl⟩, ?_⟩
  unfold M.fit
  cases h : M.nul k
  · simp
  · simp [hn h]
theorem fld_null (k o : Int) (hk : M.knd k = true) (hn : M.nul k = true) (ho : o ≠ 0) : M.chk ⟨k, o, 0, 0, 0, 0⟩ = 10 := by
  unfold M.chk
  rw [hk]
  have : M.fit ⟨k, o, 0, 0, 0, 0⟩ = false := by unfold M.fit; simp [hn, ho]
  rw [this]
  simp
theorem fld_of (c : C) (v : Bool) (hk : M.knd c.k = true) (hb : M.bnd c = true) (hf : M.fit c = v) : (M.chk c == 0) = v := by
  unfold M.chk
  rw [hk, hb, hf]
  cases v <;> rfl
theorem fld_rights (k o : Int) (R : Nat) (hk : M.knd k = true) (o0 : 0 ≤ o) (o1 : o ≤ 63) (hn : M.nul k = true → o = 0) (r0 : 1 ≤ R) (r1 : R < 8) : (M.chk ⟨k, o, R, 0, 0, 0⟩ == 0) = M.rgd k := by
  refine fld_of _ _ hk (M.bnd_iff.2 ⟨o0, o1, M.nat_ck r1, rfl, rfl⟩) ?_
  have e : ((R : Int) == 0) = false := by simp; omega
  unfold M.fit
  cases h : M.nul k <;> cases h2 : M.rgd k <;> cases h3 : M.bgd k <;> simp [e] <;> exact hn h
theorem fld_badge (k o : Int) (D : Nat) (hk : M.knd k = true) (o0 : 0 ≤ o) (o1 : o ≤ 63) (hn : M.nul k = true → o = 0) (d0 : 1 ≤ D) (d1 : D < 1001) : (M.chk ⟨k, o, 0, D, 0, 0⟩ == 0) = M.bgd k := by
  have hb : M.blw (D : Int) 28 = true := by unfold M.blw; simp; omega
  refine fld_of _ _ hk (M.bnd_iff.2 ⟨o0, o1, rfl, hb, rfl⟩) ?_
  have e : ((D : Int) == 0) = false := by simp; omega
  unfold M.fit
  cases h : M.nul k <;> cases h3 : M.bgd k <;> simp [e] <;> exact hn h
theorem fld_guard (k o : Int) (G : Nat) (hk : M.knd k = true) (o0 : 0 ≤ o) (o1 : o ≤ 63) (hn : M.nul k = true → o = 0) (d1 : G < 8) : (M.chk ⟨k, o, 0, 0, G, 3⟩ == 0) = (k == 2) := by
  have hb : M.grd (G : Int) 3 = true := by unfold M.grd M.blw; simp; omega
  refine fld_of _ _ hk (M.bnd_iff.2 ⟨o0, o1, rfl, rfl, hb⟩) ?_
  unfold M.fit
  cases h : M.nul k <;> simp <;> exact fun _ => hn h

theorem walk (a0 : Int) (a1 : Int) (a2 : Int) (a3 : Int) (w3 : (Lit.int .u64 a3).wf = true) (a4 : Int) (w4 : (Lit.int .u64 a4).wf = true) (w : World) :
    Calls Try.prog 8 #[.int .i64 a0, .int .i64 a1, .int .i64 a2, .int .u64 a3, .int .u64 a4] w fun e w' => e = .returned (.bool true) ∧ Below w.heap.size w w' := by
  refine endWalk ?_
  obtain ⟨p3, q3⟩ := u64_wf w3
  obtain ⟨p4, q4⟩ := u64_wf w4
  have hw : ∀ a : Int, ∃ U : Nat, IntKind.u64.wrap a = (U : Int) := fun a => ⟨(IntKind.u64.wrap a).toNat, by rw [IntKind.wrap_u64]; omega⟩
  obtain ⟨U0, e0⟩ := hw a0
  obtain ⟨U1, e1⟩ := hw a1
  obtain ⟨U2, e2⟩ := hw a2
  obtain ⟨K, f0, hK⟩ : ∃ K : Nat, (U0 : Int) % 12 = (K : Int) ∧ K < 12 := ⟨U0 % 12, by omega, by omega⟩
  obtain ⟨O, f1, hO⟩ : ∃ O : Nat, (U1 : Int) % 64 = (O : Int) ∧ O < 64 := ⟨U1 % 64, by omega, by omega⟩
  obtain ⟨R, f2, r0, hR⟩ : ∃ R : Nat, 1 + (U2 : Int) % 7 = (R : Int) ∧ 1 ≤ R ∧ R < 8 := ⟨1 + U2 % 7, by omega, by omega, by omega⟩
  obtain ⟨D, f3, d0, hD⟩ : ∃ D : Nat, 1 + a3 % 1000 = (D : Int) ∧ 1 ≤ D ∧ D < 1001 := ⟨(1 + a3 % 1000).toNat, by omega, by omega, by omega⟩
  obtain ⟨G, f4, hG⟩ : ∃ G : Nat, a4 % 8 = (G : Int) ∧ G < 8 := ⟨(a4 % 8).toNat, by omega, by omega⟩
  have hk : M.knd (K : Int) = true := by unfold M.knd; simp; omega
  have z0 : (0 : Int) ≤ 0 := Int.le_refl 0
  have n0 : ∀ x : Nat, (0 : Int) ≤ (x : Int) := fun x => Int.natCast_nonneg x
  have er : M.rgd (K : Int) = (((K : Int) == 4) || ((K : Int) == 5) || ((K : Int) == 6)) := rfl
  have eb : M.bgd (K : Int) = (((K : Int) == 4) || ((K : Int) == 5)) := rfl
  cases hn : M.nul (K : Int)
  · have hno : M.nul (K : Int) = true → (O : Int) = 0 := by rw [hn]; intro h; cases h
    simp only [M.nul, Bool.or_eq_false_iff] at hn
    refine some_of a0 a1 a2 a3 a4 U0 U1 U2 K O R D G hn.1 hn.2 e0 e1 e2 f0 f1 f2 f3 f4 hK hO hR hD hG p3 p4 q3 q4 _ _ _ _ _ _ _ rfl rfl rfl rfl ?_
      ((fld_rights K O R hk (n0 O) (by omega) hno r0 hR).trans er) ((fld_badge K O D hk (n0 O) (by omega) hno d0 hD).trans eb) (fld_guard K O G hk (n0 O) (by omega) hno hG)
      (fun w => check_is K O 0 0 0 0 0 z0 z0 (fld_base K O hk (n0 O) (by omega) hno) w) (fun w => check_any K O R 0 0 0 z0 z0 w) (fun w => check_any K O 0 D 0 0 (n0 D) z0 w) (fun w => check_any K O 0 0 G 3 z0 (n0 G) w) w
    simp only [beq_iff_eq, beq_eq_false_iff_ne, ne_eq]
    omega
  · have hno : M.nul (K : Int) = true → (0 : Int) = 0 := fun _ => rfl
    have hkk : K = 0 ∨ K = 10 := by simp [M.nul] at hn; omega
    refine none_of a0 a1 a2 a3 a4 U0 U1 U2 K O R D G (M.chk ⟨K, O, 0, 0, 0, 0⟩) ?_ ?_ (fun w => check_any K O 0 0 0 0 z0 z0 w) e0 e1 e2 f0 f1 f2 f3 f4 hK hO hR hD hG p3 p4 q3 q4 _ _ _ _ _ _ _ rfl rfl rfl rfl ?_
      ((fld_rights K 0 R hk z0 (by omega) hno r0 hR).trans er) ((fld_badge K 0 D hk z0 (by omega) hno d0 hD).trans eb) (fld_guard K 0 G hk z0 (by omega) hno hG)
      (fun w => check_is K 0 0 0 0 0 0 z0 z0 (fld_base K 0 hk z0 (by omega) hno) w) (fun w => check_any K 0 R 0 0 0 z0 z0 w) (fun w => check_any K 0 0 D 0 0 (n0 D) z0 w) (fun w => check_any K 0 0 0 G 3 z0 (n0 G) w) w
    · rcases hkk with rfl | rfl
      · exact .inl rfl
      · exact .inr ⟨rfl, rfl⟩
    · by_cases ho : O = 0
      · subst ho
        refine .inr ⟨?_, rfl⟩
        have := fld_base K 0 hk z0 (by omega) hno
        rw [show ((0 : Nat) : Int) = 0 from rfl, this]
        rfl
      · refine .inl ?_
        rw [fld_null K O hk hn (by omega)]
        rfl
    · rcases hkk with rfl | rfl <;> exact ⟨rfl, rfl, rfl⟩

set_option maxRecDepth 100000 in
theorem lifted (os : Os) (started : os.Started) (H : Type) (enc : TypeId × Value → H) :
    ReturnsInHanded {} Try.checked os 8 .any (Rows.capFieldsSpec.pre6 enc Try.prog Try.f8 Rows.capFieldsRow.domain false) (Rows.capFieldsSpec.post enc Try.prog Try.f8 false true false false) := by
  refine returnsInHanded_of_change (C := Try.checked) own started (by kernel_rfl) Try.func8
    (ChangeSpec.witness6 (enc := enc) (C := Try.checked) false ⟨#[], #[.int .i64 0, .int .i64 0, .int .i64 0, .int .u64 0, .int .u64 0], []⟩ 8 (by kernel_rfl) (by kernel_rfl) (by kernel_rfl) (by kernel_rfl)) ?_
  intro W base args ds gs before hval0 hW hcnd _
  have hval : ∀ (j : Nat) t v, Try.f8.params[j]? = some t → args[j]? = some v → Value.okWide Try.prog W .any base t v := hval0
  have hW' := hW
  obtain ⟨p, q, hA0, hV, rfl, hfz, hnd⟩ := hW
  have hA : DataW.TrodAll enc Try.prog W 0 (fun _ => true) true Try.f8.params.toList args.toList ds p := hA0
  rw [Try.params8] at hA hval
  obtain ⟨v0, vs0, d0, ds0, p0, q0, hargs, rfl, rfl, h0, r0⟩ := trodAll_cons hA
  obtain ⟨v1, vs1, d1, ds1, p1, q1, rfl, rfl, rfl, h1, r1⟩ := trodAll_cons r0
  obtain ⟨v2, vs2, d2, ds2, p2, q2, rfl, rfl, rfl, h2, r2⟩ := trodAll_cons r1
  obtain ⟨v3, vs3, d3, ds3, p3, q3, rfl, rfl, rfl, h3, r3⟩ := trodAll_cons r2
  obtain ⟨v4, vs4, d4, ds4, p4, q4, rfl, rfl, rfl, h4, r4⟩ := trodAll_cons r3
  obtain ⟨rfl, rfl, rfl⟩ := trodAll_nil r4
  obtain rfl : args = #[v0, v1, v2, v3, v4] := by cases args; simp_all
  obtain ⟨rfl, rfl⟩ := trodVars_none hV
  obtain ⟨a0, rfl, rfl, rfl, w0⟩ := open_int Try.underlying3 (hval 0 3 v0 rfl rfl) h0
  obtain ⟨a1, rfl, rfl, rfl, w1⟩ := open_int Try.underlying3 (hval 1 3 v1 rfl rfl) h1
  obtain ⟨a2, rfl, rfl, rfl, w2⟩ := open_int Try.underlying3 (hval 2 3 v2 rfl rfl) h2
  obtain ⟨a3, rfl, rfl, rfl, w3⟩ := open_int Try.underlying22 (hval 3 22 v3 rfl rfl) h3
  obtain ⟨a4, rfl, rfl, rfl, w4⟩ := open_int Try.underlying22 (hval 4 22 v4 rfl rfl) h4
  clear hA0 hval0
  refine (walk a0 a1 a2 a3 w3 a4 w4 W).mono fun e W' ⟨he, bel⟩ => ?_
  subst he
  exact ⟨_, rfl, _, _, _, [], _, [], hW', trodAll_mk1 (shut_bool Try.underlying4 _), (trodAll_cons_mk (shut_int Try.underlying3 w0) (trodAll_cons_mk (shut_int Try.underlying3 w1) (trodAll_cons_mk (shut_int Try.underlying3 w2) (trodAll_cons_mk (shut_int Try.underlying22 w3) (trodAll_cons_mk (shut_int Try.underlying22 w4) trodAll_mk0))))), rfl, bel.frame _, fun h => by cases h⟩

theorem over : Rows.capFieldsRow.holds Try.pinned (OpenSpec.ofChange Rows.capFieldsSpec) :=
  OpenClaim.holds_of_wide 8 Try.f8 rfl rfl rfl rfl rfl rfl rfl ⟨rfl, rfl, rfl, rfl, rfl⟩ rfl rfl rfl rfl rfl (by kernel_rfl) Try.func8 (by kernel_rfl)
    (of_decide_eq_true (by kernel_rfl)) (by unfold Func.isWrapper; first | (rw [if_pos (by decide +kernel)]; kernel_rfl) | (rw [if_neg (by decide +kernel)]; exact ⟨rfl, rfl⟩))
    (fun os started H enc _ => lifted os started H enc)

theorem proved : Rows.CapFieldsSaid := over
end Go.Proofs.Ytkgjcolimceogaa.capFields
namespace Go.Proofs.Ytkgjcolimceogaa
theorem capFields_holds : Rows.CapFieldsSaid := capFields.proved
#print axioms capFields_holds
end Go.Proofs.Ytkgjcolimceogaa
