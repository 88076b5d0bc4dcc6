/-
  THE DOCUMENT'S SIDE (donjonref05): Words, Of.
-/
import Derived.Test.YtkgjcolimceogaaRchk
namespace Go.Proofs.Ytkgjcolimceogaa
open Go.RowKit

set_option maxHeartbeats 1000000 in
theorem rwords_yes (K O R B G N : Nat) (hK : K ≤ 11) (hO : O ≤ 63) (hR : R < 8) (hB : B < 268435456) (hG : G < 65536) (hN : N ≤ 16)
    (HC : ∀ w, Calls Try.prog 14 #[cv ⟨K, O, R, B, G, N⟩] w fun e w' => e = .returned (.int .i64 0) ∧ w.grownBy w' none) (w : World) :
    Calls Try.prog 10 #[cv ⟨K, O, R, B, G, N⟩] w fun e w' => e = .returned (.tuple #[.int .u64 ((K : Int) + (O : Int) * 16 + (R : Int) * 1024 + (N : Int) * 8192), .int .u64 ((B : Int) + (G : Int) * 4294967296), .int .i64 0]) ∧ w.grownBy w' none := by
  have X0 := Box.made w ⟨K, O, R, B, G, N⟩
  go_enter Try.func10, Try.ntmps10
  go_wp2_with fail
  refine (HC _).mono ?_
  rintro e w0 ⟨rfl, g0⟩
  obtain ⟨a0, a1, a2, a3, a4, a5⟩ := (X0.kept g0).all
  have G0 := gbTrans (gbAlloc w (.cells #[.int .i64 K, .int .i64 O, .int .i64 R, .int .u64 B, .int .u64 G, .int .i64 N] 24) none) g0
  clear X0 g0
  go_wp2
  refine wp_region_grown (by kernel_rfl) (by kernel_rfl) fun _ => ?_
  repeat (go_big_quiet_step (fail))
  refine wpQuiet_nil ?_
  rintro _ ⟨⟨w1, g1⟩, rfl⟩
  go_wp2
  go_ret3
  exact ⟨rfl, gbTrans G0 g1⟩

set_option maxHeartbeats 400000 in
theorem rwords_no (k o r b g n v : Int) (hv : (v != 0) = true)
    (HC : ∀ w, Calls Try.prog 14 #[cv ⟨k, o, r, b, g, n⟩] w fun e w' => e = .returned (.int .i64 v) ∧ w.grownBy w' none) (w : World) :
    Calls Try.prog 10 #[cv ⟨k, o, r, b, g, n⟩] w fun e w' => e = .returned (.tuple #[.int .u64 0, .int .u64 0, .int .i64 v]) ∧ w.grownBy w' none := by
  go_enter Try.func10, Try.ntmps10
  go_wp2_with fail
  refine (HC _).mono ?_
  rintro e w0 ⟨rfl, g0⟩
  go_wp2
  go_ret3
  exact ⟨rfl, gbTrans (gbAlloc _ _ _) g0⟩

theorem rwords_is (k o r b g n x y f : Int) (hb : 0 ≤ b) (hg : 0 ≤ g) (h : M.wds ⟨k, o, r, b, g, n⟩ = (x, y, f)) (w : World) :
    Calls Try.prog 10 #[cv ⟨k, o, r, b, g, n⟩] w fun e w' => e = .returned (.tuple #[.int .u64 x, .int .u64 y, .int .i64 f]) ∧ w.grownBy w' none := by
  unfold M.wds at h
  by_cases c : M.chk ⟨k, o, r, b, g, n⟩ = 0
  · rw [if_pos c] at h
    obtain ⟨K, O, R, B, G, N, rfl, rfl, rfl, rfl, rfl, rfl, hK, hO, hR, hB, hG, hN⟩ := M.chk_ok hb hg c
    simp only [Prod.mk.injEq, M.wd1, M.wd2] at h
    obtain ⟨rfl, rfl, rfl⟩ := h
    exact rwords_yes K O R B G N hK hO hR hB hG hN (fun w => rchk_is _ _ _ _ _ _ 0 c w) w
  · rw [if_neg c] at h
    simp only [Prod.mk.injEq] at h
    obtain ⟨rfl, rfl, rfl⟩ := h
    exact rwords_no k o r b g n _ (by simpa using c) (fun w => rchk_is k o r b g n _ rfl w) w

/-! ### Of -/
theorem boxesCC (w : World) (c d : C) : ∃ W, (w.alloc (.cells #[.int .i64 c.k, .int .i64 c.o, .int .i64 c.r, .int .u64 c.b, .int .u64 c.g, .int .i64 c.n] 24)).alloc (.cells #[.int .i64 d.k, .int .i64 d.o, .int .i64 d.r, .int .u64 d.b, .int .u64 d.g, .int .i64 d.n] 24) = W ∧ Box W w.heap.size c ∧ Box W (w.heap.size + 1) d ∧ w.grownBy W none :=
  ⟨_, rfl, boxes2 w c d _ rfl⟩

set_option maxHeartbeats 1000000 in
theorem rof_yes (A B K O R D G N : Nat) (lK : K < 16) (lO : O < 64) (lR : R < 8) (lN : N < 32)
    (FK : ∀ w, Calls Try.prog 22 #[.int .u64 A, .int .i64 0, .int .i64 4] w fun e w' => e = .returned (.tuple #[.int .u64 K, .int .i64 0]) ∧ w' = w)
    (FO : ∀ w, Calls Try.prog 22 #[.int .u64 A, .int .i64 4, .int .i64 6] w fun e w' => e = .returned (.tuple #[.int .u64 O, .int .i64 0]) ∧ w' = w)
    (FR : ∀ w, Calls Try.prog 22 #[.int .u64 A, .int .i64 10, .int .i64 3] w fun e w' => e = .returned (.tuple #[.int .u64 R, .int .i64 0]) ∧ w' = w)
    (FN : ∀ w, Calls Try.prog 22 #[.int .u64 A, .int .i64 13, .int .i64 5] w fun e w' => e = .returned (.tuple #[.int .u64 N, .int .i64 0]) ∧ w' = w)
    (FD : ∀ w, Calls Try.prog 22 #[.int .u64 B, .int .i64 0, .int .i64 28] w fun e w' => e = .returned (.tuple #[.int .u64 D, .int .i64 0]) ∧ w' = w)
    (FG : ∀ w, Calls Try.prog 22 #[.int .u64 B, .int .i64 32, .int .i64 16] w fun e w' => e = .returned (.tuple #[.int .u64 G, .int .i64 0]) ∧ w' = w)
    (HW : ∀ w, Calls Try.prog 10 #[cv ⟨K, O, R, D, G, N⟩] w fun e w' => e = .returned (.tuple #[.int .u64 A, .int .u64 B, .int .i64 0]) ∧ w.grownBy w' none) (w : World) :
    Calls Try.prog 12 #[.int .u64 A, .int .u64 B] w fun e w' => e = .returned (.tuple #[cv ⟨K, O, R, D, G, N⟩, .int .i64 0]) ∧ w.grownBy w' none := by
  go_enter Try.func12, Try.ntmps12
  go_wp2_with fail
  refine (FK _).mono ?_
  rintro e wK ⟨rfl, rfl⟩
  go_wp2_with fail
  refine (FO _).mono ?_
  rintro e wO ⟨rfl, rfl⟩
  go_wp2_with fail
  refine (FR _).mono ?_
  rintro e wR ⟨rfl, rfl⟩
  go_wp2_with fail
  refine (FN _).mono ?_
  rintro e wN ⟨rfl, rfl⟩
  go_wp2_with fail
  refine (FD _).mono ?_
  rintro e wD ⟨rfl, rfl⟩
  go_wp2_with fail
  refine (FG _).mono ?_
  rintro e wG ⟨rfl, rfl⟩
  go_upto_region 8 with fail
  obtain ⟨W1, hW1, X1, Z1, G1⟩ := boxesCC w C.zero ⟨K, O, R, D, G, N⟩
  simp only at hW1
  rw [hW1]
  clear hW1
  obtain ⟨z0, z1, z2, z3, z4, z5, _, _⟩ := id Z1
  go_wp2_with fail
  refine (HW _).mono ?_
  rintro e w2 ⟨rfl, g2⟩
  clear z0 z1 z2 z3 z4 z5
  obtain ⟨z0, z1, z2, z3, z4, z5, _, _⟩ := Z1.kept g2
  obtain ⟨a0, a1, a2, a3, a4, a5, lt, fr⟩ := X1.kept g2
  have G2 := gbTrans G1 g2
  clear G1 g2 X1 Z1
  go_wp2
  exact bodyPost_ret (v := .tuple #[cv ⟨K, O, R, D, G, N⟩, .int .i64 0]) (by simp [results, Try.results12, go_sem, a0, a1, a2, a3, a4, a5]) rfl ⟨rfl, by repeat (first | with_reducible exact G2 | refine gbSetNew ?_ _ _ _ (by omega))⟩

set_option maxHeartbeats 1000000 in
theorem rof_no (A B K O R D G N : Nat) (x y f : Int) (lK : K < 16) (lO : O < 64) (lR : R < 8) (lN : N < 32) (h : (f != 0) = true ∨ ((f != 0) = false ∧ (x != (A : Int)) = true) ∨ ((f != 0) = false ∧ (x != (A : Int)) = false ∧ (y != (B : Int)) = true))
    (FK : ∀ w, Calls Try.prog 22 #[.int .u64 A, .int .i64 0, .int .i64 4] w fun e w' => e = .returned (.tuple #[.int .u64 K, .int .i64 0]) ∧ w' = w)
    (FO : ∀ w, Calls Try.prog 22 #[.int .u64 A, .int .i64 4, .int .i64 6] w fun e w' => e = .returned (.tuple #[.int .u64 O, .int .i64 0]) ∧ w' = w)
    (FR : ∀ w, Calls Try.prog 22 #[.int .u64 A, .int .i64 10, .int .i64 3] w fun e w' => e = .returned (.tuple #[.int .u64 R, .int .i64 0]) ∧ w' = w)
    (FN : ∀ w, Calls Try.prog 22 #[.int .u64 A, .int .i64 13, .int .i64 5] w fun e w' => e = .returned (.tuple #[.int .u64 N, .int .i64 0]) ∧ w' = w)
    (FD : ∀ w, Calls Try.prog 22 #[.int .u64 B, .int .i64 0, .int .i64 28] w fun e w' => e = .returned (.tuple #[.int .u64 D, .int .i64 0]) ∧ w' = w)
    (FG : ∀ w, Calls Try.prog 22 #[.int .u64 B, .int .i64 32, .int .i64 16] w fun e w' => e = .returned (.tuple #[.int .u64 G, .int .i64 0]) ∧ w' = w)
    (HW : ∀ w, Calls Try.prog 10 #[cv ⟨K, O, R, D, G, N⟩] w fun e w' => e = .returned (.tuple #[.int .u64 x, .int .u64 y, .int .i64 f]) ∧ w.grownBy w' none) (w : World) :
    Calls Try.prog 12 #[.int .u64 A, .int .u64 B] w fun e w' => e = .returned (.tuple #[cv C.zero, .int .i64 10]) ∧ w.grownBy w' none := by
  rcases h with h | ⟨h, h'⟩ | ⟨h, h', h''⟩
  all_goals
    go_enter Try.func12, Try.ntmps12
    go_wp2_with fail
    refine (FK _).mono ?_
    rintro e wK ⟨rfl, rfl⟩
    go_wp2_with fail
    refine (FO _).mono ?_
    rintro e wO ⟨rfl, rfl⟩
    go_wp2_with fail
    refine (FR _).mono ?_
    rintro e wR ⟨rfl, rfl⟩
    go_wp2_with fail
    refine (FN _).mono ?_
    rintro e wN ⟨rfl, rfl⟩
    go_wp2_with fail
    refine (FD _).mono ?_
    rintro e wD ⟨rfl, rfl⟩
    go_wp2_with fail
    refine (FG _).mono ?_
    rintro e wG ⟨rfl, rfl⟩
    go_upto_region 8 with fail
    obtain ⟨W1, hW1, X1, Z1, G1⟩ := boxesCC w C.zero ⟨K, O, R, D, G, N⟩
    simp only at hW1
    rw [hW1]
    clear hW1
    obtain ⟨z0, z1, z2, z3, z4, z5, _, _⟩ := id Z1
    go_wp2_with fail
    refine (HW _).mono ?_
    rintro e w2 ⟨rfl, g2⟩
    clear z0 z1 z2 z3 z4 z5
    obtain ⟨z0, z1, z2, z3, z4, z5, _, _⟩ := Z1.kept g2
    obtain ⟨a0, a1, a2, a3, a4, a5, lt, fr⟩ := X1.kept g2
    have G2 := gbTrans G1 g2
    clear G1 g2 X1 Z1
    go_wp2
    exact bodyPost_ret (v := .tuple #[cv C.zero, .int .i64 10]) (by simp [results, Try.results12, go_sem, a0, a1, a2, a3, a4, a5]) rfl ⟨rfl, by repeat (first | with_reducible exact G2 | refine gbSetNew ?_ _ _ _ (by omega))⟩

theorem rof_is (A B : Nat) (c : C) (f : Int) (hA : A < 18446744073709551616) (hB : B < 18446744073709551616) (h : M.off A B = (c, f)) (w : World) :
    Calls Try.prog 12 #[.int .u64 A, .int .u64 B] w fun e w' => e = .returned (.tuple #[cv c, .int .i64 f]) ∧ w.grownBy w' none := by
  have FK : ∀ w, Calls Try.prog 22 #[.int .u64 A, .int .i64 0, .int .i64 4] w fun e w' => e = .returned (.tuple #[.int .u64 (M.getN A 0 4 : Nat), .int .i64 0]) ∧ w' = w := fun w => rget_yes A 0 4 w hA (by omega) (by omega)
  have FO : ∀ w, Calls Try.prog 22 #[.int .u64 A, .int .i64 4, .int .i64 6] w fun e w' => e = .returned (.tuple #[.int .u64 (M.getN A 4 6 : Nat), .int .i64 0]) ∧ w' = w := fun w => rget_yes A 4 6 w hA (by omega) (by omega)
  have FR : ∀ w, Calls Try.prog 22 #[.int .u64 A, .int .i64 10, .int .i64 3] w fun e w' => e = .returned (.tuple #[.int .u64 (M.getN A 10 3 : Nat), .int .i64 0]) ∧ w' = w := fun w => rget_yes A 10 3 w hA (by omega) (by omega)
  have FN : ∀ w, Calls Try.prog 22 #[.int .u64 A, .int .i64 13, .int .i64 5] w fun e w' => e = .returned (.tuple #[.int .u64 (M.getN A 13 5 : Nat), .int .i64 0]) ∧ w' = w := fun w => rget_yes A 13 5 w hA (by omega) (by omega)
  have FD : ∀ w, Calls Try.prog 22 #[.int .u64 B, .int .i64 0, .int .i64 28] w fun e w' => e = .returned (.tuple #[.int .u64 (M.getN B 0 28 : Nat), .int .i64 0]) ∧ w' = w := fun w => rget_yes B 0 28 w hB (by omega) (by omega)
  have FG : ∀ w, Calls Try.prog 22 #[.int .u64 B, .int .i64 32, .int .i64 16] w fun e w' => e = .returned (.tuple #[.int .u64 (M.getN B 32 16 : Nat), .int .i64 0]) ∧ w' = w := fun w => rget_yes B 32 16 w hB (by omega) (by omega)
  have lK : M.getN A 0 4 < 16 := M.getN_lt A 0 4
  have lO : M.getN A 4 6 < 64 := M.getN_lt A 4 6
  have lR : M.getN A 10 3 < 8 := M.getN_lt A 10 3
  have lN : M.getN A 13 5 < 32 := M.getN_lt A 13 5
  unfold M.off M.fds at h
  generalize M.getN A 0 4 = K at *
  generalize M.getN A 4 6 = O at *
  generalize M.getN A 10 3 = R at *
  generalize M.getN A 13 5 = N at *
  generalize M.getN B 0 28 = D at *
  generalize M.getN B 32 16 = G at *
  obtain ⟨⟨x, y, u⟩, hw⟩ : ∃ p, M.wds ⟨K, O, R, D, G, N⟩ = p := ⟨_, rfl⟩
  have HW := fun w => rwords_is K O R D G N x y u (Int.natCast_nonneg _) (Int.natCast_nonneg _) hw w
  rw [hw] at h
  by_cases c1 : (x, y, u) = ((A : Int), (B : Int), (0 : Int))
  · rw [if_pos c1] at h
    simp only [Prod.mk.injEq] at h c1
    obtain ⟨rfl, rfl⟩ := h
    obtain ⟨rfl, rfl, rfl⟩ := c1
    exact rof_yes A B K O R D G N lK lO lR lN FK FO FR FN FD FG HW w
  · rw [if_neg c1] at h
    simp only [Prod.mk.injEq] at h c1
    obtain ⟨rfl, rfl⟩ := h
    refine rof_no A B K O R D G N x y u lK lO lR lN ?_ FK FO FR FN FD FG HW w
    simp only [bne_iff_ne, ne_eq, bne_eq_false_iff_eq]
    by_cases e1 : u = 0
    · by_cases e2 : x = A
      · exact .inr (.inr ⟨e1, e2, fun e3 => c1 ⟨e2, e3, e1⟩⟩)
      · exact .inr (.inl ⟨e1, e2⟩)
    · exact .inl e1
end Go.Proofs.Ytkgjcolimceogaa
