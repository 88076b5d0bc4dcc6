/-
  THE CONTRACT of package cap's Of.
-/
import Derived.Test.YtkgjcolimceogabWords
namespace Go.Proofs.Ytkgjcolimceogab
open Go.RowKit

set_option maxHeartbeats 1000000 in
theorem of_yes (A B k o r d g n : Int)
    (HF : ∀ w, Calls Try.prog 14 #[.int .u64 A, .int .u64 B] w fun e w' => e = .returned (cv ⟨k, o, r, d, g, n⟩) ∧ w.grownBy w' none)
    (HW : ∀ w, Calls Try.prog 6 #[cv ⟨k, o, r, d, g, n⟩] w fun e w' => e = .returned (.tuple #[.int .u64 A, .int .u64 B, .int .i64 0]) ∧ w.grownBy w' none) (w : World) :
    Calls Try.prog 7 #[.int .u64 A, .int .u64 B] w fun e w' => e = .returned (.tuple #[cv ⟨k, o, r, d, g, n⟩, .int .i64 0]) ∧ w.grownBy w' none := by
  have X0 : Box (w.alloc (.cells #[.int .i64 0, .int .i64 0, .int .i64 0, .int .u64 0, .int .u64 0, .int .i64 0] 25)) w.heap.size C.zero := Box.made w C.zero
  have G0 := gbAlloc w (.cells #[.int .i64 0, .int .i64 0, .int .i64 0, .int .u64 0, .int .u64 0, .int .i64 0] 25) none
  go_enter Try.func7, Try.ntmps7
  go_wp2_with fail
  refine (HF _).mono ?_
  rintro e w1 ⟨rfl, g1⟩
  go_wp2_with fail
  refine (HW _).mono ?_
  rintro e w2 ⟨rfl, g2⟩
  have Z2 := (Box.made w1 ⟨k, o, r, d, g, n⟩).kept g2
  have X2 := ((X0.kept g1).kept (gbAlloc _ _ none)).kept g2
  have G2 := gbTrans (gbAllocN (gbTrans G0 g1) _) g2
  have l1 := (X0.kept g1).lt
  clear X0 G0 g1 g2
  obtain ⟨a0, a1, a2, a3, a4, a5, lt, fr⟩ := X2
  obtain ⟨z0, z1, z2, z3, z4, z5, zt, zf⟩ := Z2
  go_wp2
  exact bodyPost_ret (v := .tuple #[cv ⟨k, o, r, d, g, n⟩, .int .i64 0]) (by simp [results, Try.results7, go_sem, a0, a1, a2, a3, a4, a5]) rfl ⟨rfl, by repeat (first | with_reducible exact G2 | refine gbSetNew ?_ _ _ _ (by omega))⟩

set_option maxHeartbeats 1000000 in
theorem of_no (A B k o r d g n x y f : Int) (h : (f != 0) = true ∨ ((f != 0) = false ∧ (x != A) = true) ∨ ((f != 0) = false ∧ (x != A) = false ∧ (y != B) = true))
    (HF : ∀ w, Calls Try.prog 14 #[.int .u64 A, .int .u64 B] w fun e w' => e = .returned (cv ⟨k, o, r, d, g, n⟩) ∧ w.grownBy w' none)
    (HW : ∀ w, Calls Try.prog 6 #[cv ⟨k, o, r, d, g, n⟩] w fun e w' => e = .returned (.tuple #[.int .u64 x, .int .u64 y, .int .i64 f]) ∧ w.grownBy w' none) (w : World) :
    Calls Try.prog 7 #[.int .u64 A, .int .u64 B] w fun e w' => e = .returned (.tuple #[cv C.zero, .int .i64 10]) ∧ w.grownBy w' none := by
  have X0 : Box (w.alloc (.cells #[.int .i64 0, .int .i64 0, .int .i64 0, .int .u64 0, .int .u64 0, .int .i64 0] 25)) w.heap.size C.zero := Box.made w C.zero
  have G0 := gbAlloc w (.cells #[.int .i64 0, .int .i64 0, .int .i64 0, .int .u64 0, .int .u64 0, .int .i64 0] 25) none
  rcases h with h | ⟨h, h'⟩ | ⟨h, h', h''⟩
  all_goals
    go_enter Try.func7, Try.ntmps7
    go_wp2_with fail
    refine (HF _).mono ?_
    rintro e w1 ⟨rfl, g1⟩
    go_wp2_with fail
    refine (HW _).mono ?_
    rintro e w2 ⟨rfl, g2⟩
    have X2 := ((X0.kept g1).kept (gbAlloc _ _ none)).kept g2
    have G2 := gbTrans (gbAllocN (gbTrans G0 g1) _) g2
    clear X0 G0 g1 g2
    obtain ⟨a0, a1, a2, a3, a4, a5, lt, fr⟩ := X2
    go_wp2
    exact bodyPost_ret (v := .tuple #[cv C.zero, .int .i64 10]) (by simp [results, Try.results7, go_sem, a0, a1, a2, a3, a4, a5]) rfl ⟨rfl, by repeat (first | with_reducible exact G2 | refine gbSetNew ?_ _ _ _ (by omega))⟩

theorem fields_any (A B : Nat) (hA : A < 18446744073709551616) (hB : B < 18446744073709551616) (w : World) :
    Calls Try.prog 14 #[.int .u64 A, .int .u64 B] w fun e w' => e = .returned (cv (M.fds A B)) ∧ w.grownBy w' none :=
  fields_is A B _ _ _ _ _ _ hA hB rfl rfl rfl rfl rfl rfl (M.getN_lt A 0 4) (M.getN_lt A 4 6) (M.getN_lt A 10 3) (M.getN_lt A 13 5) w

theorem of_is (A B : Nat) (c : C) (f : Int) (hA : A < 18446744073709551616) (hB : B < 18446744073709551616) (h : M.off A B = (c, f)) (w : World) :
    Calls Try.prog 7 #[.int .u64 A, .int .u64 B] w fun e w' => e = .returned (.tuple #[cv c, .int .i64 f]) ∧ w.grownBy w' none := by
  have HF := fun w => fields_any A B hA hB w
  have d0 : 0 ≤ (M.fds A B).b := Int.natCast_nonneg _
  have d1 : 0 ≤ (M.fds A B).g := Int.natCast_nonneg _
  unfold M.off at h
  generalize M.fds A B = q at HF d0 d1 h
  obtain ⟨k, o, r, d, g, n⟩ := q
  obtain ⟨⟨x, y, u⟩, hw⟩ : ∃ p, M.wds ⟨k, o, r, d, g, n⟩ = p := ⟨_, rfl⟩
  have HW := fun w => words_is k o r d g n x y u d0 d1 hw w
  rw [hw] at h
  by_cases c1 : (x, y, u) = ((A : Int), (B : Int), (0 : Int))
  · rw [if_pos c1] at h
    simp only [Prod.mk.injEq] at h c1
    obtain ⟨rfl, rfl⟩ := h
    obtain ⟨rfl, rfl, rfl⟩ := c1
    exact of_yes _ _ k o r d g n HF HW w
  · rw [if_neg c1] at h
    simp only [Prod.mk.injEq] at h c1
    obtain ⟨rfl, rfl⟩ := h
    refine of_no _ _ k o r d g n x y u ?_ HF HW w
    simp only [bne_iff_ne, ne_eq, bne_eq_false_iff_eq]
    by_cases e1 : u = 0
    · by_cases e2 : x = A
      · exact .inr (.inr ⟨e1, e2, fun e3 => c1 ⟨e2, e3, e1⟩⟩)
      · exact .inr (.inl ⟨e1, e2⟩)
    · exact .inl e1
end Go.Proofs.Ytkgjcolimceogab
