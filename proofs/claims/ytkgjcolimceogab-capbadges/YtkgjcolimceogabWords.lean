/-
  THE CONTRACTS of package cap's Words and Of.
-/
import Derived.Test.YtkgjcolimceogabChk
namespace Go.Proofs.Ytkgjcolimceogab
open Go.RowKit

/-- A field that is put above all that is there is added. -/
theorem M.putN_add (W a n v : Nat) (hW : W < 2 ^ a) (h : a + n ≤ 64) (hv : v < 2 ^ n) : M.putN W a n v = W + v * 2 ^ a := by
  have h64 : W < 18446744073709551616 := by
    have : 2 ^ a ≤ 2 ^ 64 := Nat.pow_le_pow_right (by omega) (by omega)
    omega
  apply Nat.eq_of_testBit_eq
  intro i
  rw [M.testBit_putN W a n v i h64 h hv, Nat.add_comm W, Nat.mul_comm v, Nat.testBit_two_pow_mul_add v hW]
  by_cases h1 : i < a
  · rw [if_neg (by omega), if_pos h1]
  · rw [if_neg h1]
    by_cases h2 : i < a + n
    · rw [if_pos ⟨by omega, h2⟩]
    · rw [if_neg (by omega)]
      have e1 : W.testBit i = false := Nat.testBit_lt_two_pow (Nat.lt_of_lt_of_le hW (Nat.pow_le_pow_right (by omega) (by omega)))
      have e2 : v.testBit (i - a) = false := Nat.testBit_lt_two_pow (Nat.lt_of_lt_of_le hv (Nat.pow_le_pow_right (by omega) (by omega)))
      rw [e1, e2]

theorem put1 (W V x : Nat) (w : World) (hW : W < 16) (hV : V < 64) (hx : W + V * 16 = x) :
    Calls Try.prog 13 #[.int .u64 W, .int .i64 4, .int .i64 6, .int .u64 V] w fun e w' => e = .returned (.tuple #[.int .u64 x, .int .i64 0]) ∧ w.grownBy w' none :=
  putW W 4 6 V x w ((M.putN_add W 4 6 V hW (by omega) hV).trans hx) (by omega) (by omega) (by omega) hV
theorem put2 (W V x : Nat) (w : World) (hW : W < 1024) (hV : V < 8) (hx : W + V * 1024 = x) :
    Calls Try.prog 13 #[.int .u64 W, .int .i64 10, .int .i64 3, .int .u64 V] w fun e w' => e = .returned (.tuple #[.int .u64 x, .int .i64 0]) ∧ w.grownBy w' none :=
  putW W 10 3 V x w ((M.putN_add W 10 3 V hW (by omega) hV).trans hx) (by omega) (by omega) (by omega) hV
theorem put3 (W V x : Nat) (w : World) (hW : W < 8192) (hV : V < 32) (hx : W + V * 8192 = x) :
    Calls Try.prog 13 #[.int .u64 W, .int .i64 13, .int .i64 5, .int .u64 V] w fun e w' => e = .returned (.tuple #[.int .u64 x, .int .i64 0]) ∧ w.grownBy w' none :=
  putW W 13 5 V x w ((M.putN_add W 13 5 V hW (by omega) hV).trans hx) (by omega) (by omega) (by omega) hV
theorem put5 (W V x : Nat) (w : World) (hW : W < 4294967296) (hV : V < 65536) (hx : W + V * 4294967296 = x) :
    Calls Try.prog 13 #[.int .u64 W, .int .i64 32, .int .i64 16, .int .u64 V] w fun e w' => e = .returned (.tuple #[.int .u64 x, .int .i64 0]) ∧ w.grownBy w' none :=
  putW W 32 16 V x w ((M.putN_add W 32 16 V hW (by omega) hV).trans hx) (by omega) (by omega) (by omega) hV
theorem put0 (V : Nat) (w : World) (hV : V < 16) :
    Calls Try.prog 13 #[.int .u64 0, .int .i64 0, .int .i64 4, .int .u64 V] w fun e w' => e = .returned (.tuple #[.int .u64 V, .int .i64 0]) ∧ w.grownBy w' none :=
  putW 0 0 4 V V w ((M.putN_add 0 0 4 V (by omega) (by omega) hV).trans (by omega)) (by omega) (by omega) (by omega) hV
theorem put4 (V : Nat) (w : World) (hV : V < 268435456) :
    Calls Try.prog 13 #[.int .u64 0, .int .i64 0, .int .i64 28, .int .u64 V] w fun e w' => e = .returned (.tuple #[.int .u64 V, .int .i64 0]) ∧ w.grownBy w' none :=
  putW 0 0 28 V V w ((M.putN_add 0 0 28 V (by omega) (by omega) hV).trans (by omega)) (by omega) (by omega) (by omega) hV

/-- A right one, in natural numbers. -/
theorem M.chk_ok {k o r b g n : Int} (hb : 0 ≤ b) (hg : 0 ≤ g) (h : M.chk ⟨k, o, r, b, g, n⟩ = 0) :
    ∃ K O R B G N : Nat, k = K ∧ o = O ∧ r = R ∧ b = B ∧ g = G ∧ n = N ∧ K ≤ 11 ∧ O ≤ 63 ∧ R < 8 ∧ B < 268435456 ∧ G < 65536 ∧ N ≤ 16 := by
  unfold M.chk at h
  cases h1 : M.knd k
  · rw [h1] at h; simp at h
  · rw [h1] at h
    cases h2 : M.bnd ⟨k, o, r, b, g, n⟩
    · rw [h2] at h; simp at h
    · simp only [M.knd, Bool.and_eq_true, decide_eq_true_eq] at h1
      simp only [M.bnd, M.grd, M.blw, Bool.and_eq_true, decide_eq_true_eq] at h2
      obtain ⟨⟨⟨⟨o1, o2⟩, h3⟩, h4⟩, ⟨h5, h6⟩, h7⟩ := h2
      obtain ⟨R, rfl, hR⟩ := M.ck_nat h3
      have h8 : (2 : Int) ^ n.toNat ≤ 65536 := by
        have : 2 ^ n.toNat ≤ 2 ^ 16 := Nat.pow_le_pow_right (by omega) (by omega)
        have e : ((2 : Int) ^ n.toNat) = ((2 ^ n.toNat : Nat) : Int) := by simp
        rw [e]; omega
      have h9 : b < 268435456 := h4
      exact ⟨k.toNat, o.toNat, R, b.toNat, g.toNat, n.toNat, by omega, by omega, rfl, by omega, by omega, by omega, by omega, by omega, hR, by omega, by omega, by omega⟩

set_option maxHeartbeats 1000000 in
theorem words_yes (K O R B G N x y z u : Nat) (hK : K ≤ 11) (hO : O ≤ 63) (hR : R < 8) (hB : B < 268435456) (hG : G < 65536) (hN : N ≤ 16)
    (hx : Hid (K + O * 16 = x)) (hy : Hid (x + R * 1024 = y)) (hz : Hid (y + N * 8192 = z)) (hu : Hid (B + G * 4294967296 = u)) (lx : x < 1024) (ly : y < 8192)
    (HC : ∀ w, Calls Try.prog 9 #[cv ⟨K, O, R, B, G, N⟩] w fun e w' => e = .returned (.int .i64 0) ∧ w.grownBy w' none) (w : World) :
    Calls Try.prog 6 #[cv ⟨K, O, R, B, G, N⟩] w fun e w' => e = .returned (.tuple #[.int .u64 z, .int .u64 u, .int .i64 0]) ∧ w.grownBy w' none := by
  have X0 := Box.made w ⟨K, O, R, B, G, N⟩
  go_enter Try.func6, Try.ntmps6
  go_wp2_with fail
  refine (HC _).mono ?_
  rintro e w0 ⟨rfl, g0⟩
  obtain ⟨a0, a1, a2, a3, a4, a5, _, _⟩ := X0.kept g0
  have G0 := gbTrans (gbAlloc w (.cells #[.int .i64 K, .int .i64 O, .int .i64 R, .int .u64 B, .int .u64 G, .int .i64 N] 25) none) g0
  have X1 := X0.kept g0
  clear X0 g0
  go_wp2_with fail
  refine (put0 K _ (by omega)).mono ?_
  rintro e w1 ⟨rfl, g1⟩
  clear a0 a1 a2 a3 a4 a5
  obtain ⟨a0, a1, a2, a3, a4, a5, _, _⟩ := X1.kept g1
  have G1 := gbTrans G0 g1
  have X2 := X1.kept g1
  clear X1 G0 g1
  go_wp2_with fail
  refine (put1 K O x _ (by omega) (by omega) hx.out).mono ?_
  rintro e w2 ⟨rfl, g2⟩
  clear a0 a1 a2 a3 a4 a5
  obtain ⟨a0, a1, a2, a3, a4, a5, _, _⟩ := X2.kept g2
  have G2 := gbTrans G1 g2
  have X3 := X2.kept g2
  clear X2 G1 g2
  go_wp2_with fail
  refine (put2 x R y _ lx hR hy.out).mono ?_
  rintro e w3 ⟨rfl, g3⟩
  clear a0 a1 a2 a3 a4 a5
  obtain ⟨a0, a1, a2, a3, a4, a5, _, _⟩ := X3.kept g3
  have G3 := gbTrans G2 g3
  have X4 := X3.kept g3
  clear X3 G2 g3
  go_wp2_with fail
  refine (put3 y N z _ ly (by omega) hz.out).mono ?_
  rintro e w4 ⟨rfl, g4⟩
  clear a0 a1 a2 a3 a4 a5
  obtain ⟨a0, a1, a2, a3, a4, a5, _, _⟩ := X4.kept g4
  have G4 := gbTrans G3 g4
  have X5 := X4.kept g4
  clear X4 G3 g4
  go_wp2_with fail
  refine (put4 B _ hB).mono ?_
  rintro e w5 ⟨rfl, g5⟩
  clear a0 a1 a2 a3 a4 a5
  obtain ⟨a0, a1, a2, a3, a4, a5, _, _⟩ := X5.kept g5
  have G5 := gbTrans G4 g5
  have X6 := X5.kept g5
  clear X5 G4 g5
  go_wp2_with fail
  refine (put5 B G u _ (by omega) hG hu.out).mono ?_
  rintro e w6 ⟨rfl, g6⟩
  clear a0 a1 a2 a3 a4 a5
  obtain ⟨a0, a1, a2, a3, a4, a5, _, _⟩ := X6.kept g6
  have G6 := gbTrans G5 g6
  have X7 := X6.kept g6
  clear X6 G5 g6
  go_wp2
  go_ret3
  exact ⟨rfl, G6⟩

set_option maxHeartbeats 400000 in
theorem words_no (k o r b g n v : Int) (hv : (v != 0) = true)
    (HC : ∀ w, Calls Try.prog 9 #[cv ⟨k, o, r, b, g, n⟩] w fun e w' => e = .returned (.int .i64 v) ∧ w.grownBy w' none) (w : World) :
    Calls Try.prog 6 #[cv ⟨k, o, r, b, g, n⟩] w fun e w' => e = .returned (.tuple #[.int .u64 0, .int .u64 0, .int .i64 v]) ∧ w.grownBy w' none := by
  go_enter Try.func6, Try.ntmps6
  go_wp2_with fail
  refine (HC _).mono ?_
  rintro e w0 ⟨rfl, g0⟩
  go_wp2
  go_ret3
  exact ⟨rfl, gbTrans (gbAlloc _ _ _) g0⟩

theorem words_is (k o r b g n x y f : Int) (hb : 0 ≤ b) (hg : 0 ≤ g) (h : M.wds ⟨k, o, r, b, g, n⟩ = (x, y, f)) (w : World) :
    Calls Try.prog 6 #[cv ⟨k, o, r, b, g, n⟩] w fun e w' => e = .returned (.tuple #[.int .u64 x, .int .u64 y, .int .i64 f]) ∧ w.grownBy w' none := by
  unfold M.wds at h
  by_cases c : M.chk ⟨k, o, r, b, g, n⟩ = 0
  · rw [if_pos c] at h
    obtain ⟨K, O, R, B, G, N, rfl, rfl, rfl, rfl, rfl, rfl, hK, hO, hR, hB, hG, hN⟩ := M.chk_ok hb hg c
    simp only [Prod.mk.injEq, M.wd1, M.wd2] at h
    obtain ⟨h1, h2, rfl⟩ := h
    have e1 : x = ((K + O * 16 + R * 1024 + N * 8192 : Nat) : Int) := by omega
    have e2 : y = ((B + G * 4294967296 : Nat) : Int) := by omega
    rw [e1, e2]
    exact words_yes K O R B G N _ _ _ _ hK hO hR hB hG hN rfl rfl rfl rfl (by omega) (by omega) (fun w => check_is _ _ _ _ _ _ 0 hb hg c w) w
  · rw [if_neg c] at h
    simp only [Prod.mk.injEq] at h
    obtain ⟨rfl, rfl, rfl⟩ := h
    exact words_no k o r b g n _ (by simpa using c) (fun w => check_any k o r b g n hb hg w) w

/-! ### Of -/
set_option maxHeartbeats 400000 in
theorem field_any (W a n : Nat) (w : World) (hW : W < 18446744073709551616) (h0 : 1 ≤ n) (h1 : a + n ≤ 64) :
    Calls Try.prog 23 #[.int .u64 W, .int .i64 a, .int .i64 n] w fun e w' => e = .returned (.int .u64 (M.getN W a n : Nat)) ∧ w.grownBy w' none := by
  have HG := fun w => getW W a n w hW h0 h1
  generalize M.getN W a n = x at HG ⊢
  go_enter Try.func23, Try.ntmps23
  go_wp2_with fail
  refine (HG _).mono ?_
  rintro e w0 ⟨rfl, g0⟩
  go_wp2
  go_ret
  exact ⟨rfl, g0⟩

set_option maxHeartbeats 1000000 in
theorem fields_is (A B K O R D G N : Nat) (hA : A < 18446744073709551616) (hB : B < 18446744073709551616) (hK : Hid (M.getN A 0 4 = K)) (hO : Hid (M.getN A 4 6 = O)) (hR : Hid (M.getN A 10 3 = R)) (hN : Hid (M.getN A 13 5 = N)) (hD : Hid (M.getN B 0 28 = D)) (hG : Hid (M.getN B 32 16 = G)) (lK : K < 16) (lO : O < 64) (lR : R < 8) (lN : N < 32) (w : World) :
    Calls Try.prog 14 #[.int .u64 A, .int .u64 B] w fun e w' => e = .returned (cv ⟨K, O, R, D, G, N⟩) ∧ w.grownBy w' none := by
  have FK : ∀ w, Calls Try.prog 23 #[.int .u64 A, .int .i64 0, .int .i64 4] w fun e w' => e = .returned (.int .u64 (K : Nat)) ∧ w.grownBy w' none := by intro w; have h := field_any A 0 4 w hA (by omega) (by omega); rw [hK.out] at h; exact h
  have FO : ∀ w, Calls Try.prog 23 #[.int .u64 A, .int .i64 4, .int .i64 6] w fun e w' => e = .returned (.int .u64 (O : Nat)) ∧ w.grownBy w' none := by intro w; have h := field_any A 4 6 w hA (by omega) (by omega); rw [hO.out] at h; exact h
  have FR : ∀ w, Calls Try.prog 23 #[.int .u64 A, .int .i64 10, .int .i64 3] w fun e w' => e = .returned (.int .u64 (R : Nat)) ∧ w.grownBy w' none := by intro w; have h := field_any A 10 3 w hA (by omega) (by omega); rw [hR.out] at h; exact h
  have FN : ∀ w, Calls Try.prog 23 #[.int .u64 A, .int .i64 13, .int .i64 5] w fun e w' => e = .returned (.int .u64 (N : Nat)) ∧ w.grownBy w' none := by intro w; have h := field_any A 13 5 w hA (by omega) (by omega); rw [hN.out] at h; exact h
  have FD : ∀ w, Calls Try.prog 23 #[.int .u64 B, .int .i64 0, .int .i64 28] w fun e w' => e = .returned (.int .u64 (D : Nat)) ∧ w.grownBy w' none := by intro w; have h := field_any B 0 28 w hB (by omega) (by omega); rw [hD.out] at h; exact h
  have FG : ∀ w, Calls Try.prog 23 #[.int .u64 B, .int .i64 32, .int .i64 16] w fun e w' => e = .returned (.int .u64 (G : Nat)) ∧ w.grownBy w' none := by intro w; have h := field_any B 32 16 w hB (by omega) (by omega); rw [hG.out] at h; exact h
  clear hK hO hR hN hD hG
  have X0 : Box (w.alloc (.cells #[.int .i64 0, .int .i64 0, .int .i64 0, .int .u64 0, .int .u64 0, .int .i64 0] 25)) w.heap.size C.zero := Box.made w C.zero
  have G0 := gbAlloc w (.cells #[.int .i64 0, .int .i64 0, .int .i64 0, .int .u64 0, .int .u64 0, .int .i64 0] 25) none
  go_enter Try.func14, Try.ntmps14
  go_wp2_with fail
  refine (FK _).mono ?_
  rintro e w1 ⟨rfl, g1⟩
  have G1 := gbTrans G0 g1
  have X1 := X0.kept g1
  clear X0 G0 g1
  go_wp2_with fail
  refine (FO _).mono ?_
  rintro e w2 ⟨rfl, g2⟩
  have G2 := gbTrans G1 g2
  have X2 := X1.kept g2
  clear X1 G1 g2
  go_wp2_with fail
  refine (FR _).mono ?_
  rintro e w3 ⟨rfl, g3⟩
  have G3 := gbTrans G2 g3
  have X3 := X2.kept g3
  clear X2 G2 g3
  go_wp2_with fail
  refine (FN _).mono ?_
  rintro e w4 ⟨rfl, g4⟩
  have G4 := gbTrans G3 g4
  have X4 := X3.kept g4
  clear X3 G3 g4
  go_wp2_with fail
  refine (FD _).mono ?_
  rintro e w5 ⟨rfl, g5⟩
  have G5 := gbTrans G4 g5
  have X5 := X4.kept g5
  clear X4 G4 g5
  go_wp2_with fail
  refine (FG _).mono ?_
  rintro e w6 ⟨rfl, g6⟩
  have G6 := gbTrans G5 g6
  have X6 := X5.kept g6
  clear X5 G5 g6
  obtain ⟨a0, a1, a2, a3, a4, a5, lt, fr⟩ := X6
  go_wp2
  exact bodyPost_ret (v := cv ⟨K, O, R, D, G, N⟩) (by simp [results, Try.results14, go_sem, a0, a1, a2, a3, a4, a5]) rfl ⟨rfl, by repeat (first | with_reducible exact G6 | refine gbSetNew ?_ _ _ _ (by omega))⟩
end Go.Proofs.Ytkgjcolimceogab
