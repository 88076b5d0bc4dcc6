/-
  THE CONTRACTS of package msg's field, fields and Unpack.
-/
import Derived.Test.YtgimgbbiojkfgaaPack
namespace Go.Proofs.Ytgimgbbiojkfgaa
set_option maxRecDepth 10000
open Go.RowKit

set_option maxHeartbeats 400000 in
theorem field_is (W a n v : Nat) (w : World) (hW : W < 18446744073709551616) (h0 : 1 ≤ n) (h1 : a + n ≤ 64) (h : M.getN W a n = v) :
    Calls Try.prog 24 #[.int .u64 W, .int .i64 a, .int .i64 n] w fun e w' => e = .returned (.int .u64 v) ∧ w.grownBy w' none := by
  subst h
  go_enter Try.func24, Try.ntmps24
  go_wp2_with fail
  refine (getW W a n _ hW h0 h1).mono ?_
  rintro e w1 ⟨rfl, g1⟩
  go_wp2
  go_ret
  exact ⟨rfl, g1⟩

set_option maxHeartbeats 800000 in
theorem fields_in (W : Int) (x y z : Nat) (v : Bool) (hv : ((z : Int) == 1) = v) (ly : y < 8)
    (H0 : ∀ w, Calls Try.prog 24 #[.int .u64 W, .int .i64 4, .int .i64 16] w fun e w' => e = .returned (.int .u64 x) ∧ w.grownBy w' none)
    (H1 : ∀ w, Calls Try.prog 24 #[.int .u64 W, .int .i64 0, .int .i64 3] w fun e w' => e = .returned (.int .u64 y) ∧ w.grownBy w' none)
    (H2 : ∀ w, Calls Try.prog 24 #[.int .u64 W, .int .i64 3, .int .i64 1] w fun e w' => e = .returned (.int .u64 z) ∧ w.grownBy w' none) (w : World) :
    Calls Try.prog 21 #[.int .u64 W] w fun e w' => e = .returned (iv ⟨x, y, v⟩) ∧ w.grownBy w' none := by
  have X0 : Box (w.alloc (.cells #[.int .u64 0, .int .i64 0, .bool false] 28)) w.heap.size I.zero := Box.made w I.zero _
  have G0 := gbAlloc w (.cells #[.int .u64 0, .int .i64 0, .bool false] 28) none
  go_enter Try.func21, Try.ntmps21
  go_wp2_with fail
  refine (H0 _).mono ?_
  rintro e w1 ⟨rfl, g1⟩
  go_wp2_with fail
  refine (H1 _).mono ?_
  rintro e w2 ⟨rfl, g2⟩
  go_wp2_with fail
  refine (H2 _).mono ?_
  rintro e w3 ⟨rfl, g3⟩
  have X3 := ((X0.kept g1).kept g2).kept g3
  have G3 := gbTrans (gbTrans (gbTrans G0 g1) g2) g3
  clear X0 G0 g1 g2 g3
  obtain ⟨a0, a1, a2, lt, fr⟩ := X3
  go_wp2
  exact bodyPost_ret (v := iv ⟨x, y, v⟩) (by simp [results, Try.results21, go_sem, a0, a1, a2]) rfl ⟨rfl, by repeat (first | with_reducible exact G3 | refine gbSetNew ?_ _ _ _ (by omega))⟩

theorem fields_any (W : Nat) (hW : W < 18446744073709551616) (w : World) :
    Calls Try.prog 21 #[.int .u64 W] w fun e w' => e = .returned (iv (M.fe W)) ∧ w.grownBy w' none := by
  have e : M.fe W = ⟨((W / 16 % 65536 : Nat) : Int), ((W % 8 : Nat) : Int), ((W / 8 % 2 : Nat) : Int) == 1⟩ := by
    simp only [M.fe, I.mk.injEq, true_and]
    rw [Bool.eq_iff_iff]; simp only [beq_iff_eq]; omega
  rw [e]
  exact fields_in W _ _ _ _ rfl (Nat.mod_lt _ (by omega)) (fun w => field_is W 4 16 _ w hW (by omega) (by omega) (M.getN_lit _ _ _ _ 16 65536 rfl rfl rfl))
    (fun w => field_is W 0 3 _ w hW (by omega) (by omega) (M.getN_lit _ _ _ _ 1 8 rfl rfl (by rw [Nat.div_one]))) (fun w => field_is W 3 1 _ w hW (by omega) (by omega) (M.getN_lit _ _ _ _ 8 2 rfl rfl rfl)) w

set_option maxHeartbeats 1000000 in
theorem unpack_yes (W : Int) (u v : Int) (a : Bool)
    (HF : ∀ w, Calls Try.prog 21 #[.int .u64 W] w fun e w' => e = .returned (iv ⟨u, v, a⟩) ∧ w.grownBy w' none)
    (HW : ∀ w, Calls Try.prog 9 #[iv ⟨u, v, a⟩] w fun e w' => e = .returned (.tuple #[.int .u64 W, .int .i64 0]) ∧ w.grownBy w' none) (w : World) :
    Calls Try.prog 11 #[.int .u64 W] w fun e w' => e = .returned (.tuple #[iv ⟨u, v, a⟩, .int .i64 0]) ∧ w.grownBy w' none := by
  have X0 : Box (w.alloc (.cells #[.int .u64 0, .int .i64 0, .bool false] 28)) w.heap.size I.zero := Box.made w I.zero _
  have G0 := gbAlloc w (.cells #[.int .u64 0, .int .i64 0, .bool false] 28) none
  go_enter Try.func11, Try.ntmps11
  go_wp2_with fail
  refine (HF _).mono ?_
  rintro e w1 ⟨rfl, g1⟩
  go_wp2_with fail
  refine (HW _).mono ?_
  rintro e w2 ⟨rfl, g2⟩
  have Z2 := (Box.made w1 ⟨u, v, a⟩ 28).kept g2
  have X2 := ((X0.kept g1).kept (gbAlloc _ _ none)).kept g2
  have G2 := gbTrans (gbAllocN (gbTrans G0 g1) _) g2
  have l1 := (X0.kept g1).lt
  clear X0 G0 g1 g2
  obtain ⟨a0, a1, a2, lt, fr⟩ := X2
  obtain ⟨z0, z1, z2, zt, zf⟩ := Z2
  go_wp2
  exact bodyPost_ret (v := .tuple #[iv ⟨u, v, a⟩, .int .i64 0]) (by simp [results, Try.results11, go_sem, a0, a1, a2]) rfl ⟨rfl, by repeat (first | with_reducible exact G2 | refine gbSetNew ?_ _ _ _ (by omega))⟩

set_option maxHeartbeats 1000000 in
theorem unpack_no (W : Int) (u v : Int) (a : Bool) (x f : Int) (h : (f != 0) = true ∨ ((f != 0) = false ∧ (x != W) = true))
    (HF : ∀ w, Calls Try.prog 21 #[.int .u64 W] w fun e w' => e = .returned (iv ⟨u, v, a⟩) ∧ w.grownBy w' none)
    (HW : ∀ w, Calls Try.prog 9 #[iv ⟨u, v, a⟩] w fun e w' => e = .returned (.tuple #[.int .u64 x, .int .i64 f]) ∧ w.grownBy w' none) (w : World) :
    Calls Try.prog 11 #[.int .u64 W] w fun e w' => e = .returned (.tuple #[iv I.zero, .int .i64 10]) ∧ w.grownBy w' none := by
  have X0 : Box (w.alloc (.cells #[.int .u64 0, .int .i64 0, .bool false] 28)) w.heap.size I.zero := Box.made w I.zero _
  have G0 := gbAlloc w (.cells #[.int .u64 0, .int .i64 0, .bool false] 28) none
  rcases h with h | ⟨h, h'⟩
  all_goals
    go_enter Try.func11, Try.ntmps11
    go_wp2_with fail
    refine (HF _).mono ?_
    rintro e w1 ⟨rfl, g1⟩
    go_wp2_with fail
    refine (HW _).mono ?_
    rintro e w2 ⟨rfl, g2⟩
    have X2 := ((X0.kept g1).kept (gbAlloc _ _ none)).kept g2
    have G2 := gbTrans (gbAllocN (gbTrans G0 g1) _) g2
    clear X0 G0 g1 g2
    obtain ⟨a0, a1, a2, lt, fr⟩ := X2
    go_wp2
    exact bodyPost_ret (v := .tuple #[iv I.zero, .int .i64 10]) (by simp [results, Try.results11, go_sem, a0, a1, a2]) rfl ⟨rfl, by repeat (first | with_reducible exact G2 | refine gbSetNew ?_ _ _ _ (by omega))⟩

theorem unpack_is (W : Nat) (c : I) (f : Int) (hW : W < 18446744073709551616) (h : M.up W = (c, f)) (w : World) :
    Calls Try.prog 11 #[.int .u64 W] w fun e w' => e = .returned (.tuple #[iv c, .int .i64 f]) ∧ w.grownBy w' none := by
  have HF := fun w => fields_any W hW w
  unfold M.up at h
  have h0 : 0 ≤ (M.fe W).l := by unfold M.fe; exact Int.natCast_nonneg _
  generalize M.fe W = q at HF h h0
  obtain ⟨u, v, a⟩ := q
  obtain ⟨⟨x, g⟩, hw⟩ : ∃ p, M.pk ⟨u, v, a⟩ = p := ⟨_, rfl⟩
  have HW := fun w => pack_is u v a x g h0 hw w
  rw [hw] at h
  by_cases c1 : (x, g) = ((W : Int), (0 : Int))
  · rw [if_pos c1] at h
    simp only [Prod.mk.injEq] at h c1
    obtain ⟨rfl, rfl⟩ := h
    obtain ⟨rfl, rfl⟩ := c1
    exact unpack_yes _ u v a HF HW w
  · rw [if_neg c1] at h
    simp only [Prod.mk.injEq] at h c1
    obtain ⟨rfl, rfl⟩ := h
    refine unpack_no _ u v a x g ?_ HF HW w
    simp only [bne_iff_ne, ne_eq, bne_eq_false_iff_eq]
    by_cases e1 : g = 0
    · exact .inr ⟨e1, fun e2 => c1 ⟨e2, e1⟩⟩
    · exact .inl e1

end Go.Proofs.Ytgimgbbiojkfgaa
