/-
  THE CONTRACTS of package pte's field, fields, Unpack, place and Split.
-/
import Derived.Test.YtfdnangceomeiaaPack
namespace Go.Proofs.Ytfdnangceomeiaa
set_option maxRecDepth 10000
open Go.RowKit

set_option maxHeartbeats 400000 in
theorem field_is (W a n v : Nat) (w : World) (hW : W < 18446744073709551616) (h0 : 1 ≤ n) (h1 : a + n ≤ 64) (h : M.getN W a n = v) :
    Calls Try.prog 67 #[.int .u64 W, .int .i64 a, .int .i64 n] w fun e w' => e = .returned (.int .u64 v) ∧ w.grownBy w' none := by
  subst h
  go_enter Try.func67, Try.ntmps67
  go_wp2_with fail
  refine (getW W a n _ hW h0 h1).mono ?_
  rintro e w1 ⟨rfl, g1⟩
  go_wp2
  go_ret
  exact ⟨rfl, g1⟩

set_option maxHeartbeats 800000 in
theorem fields_in (W : Int) (x y z : Nat) (u v : Bool) (hu : ((x : Int) == 1) = u) (hv : ((y : Int) == 1) = v) (lz : z < 4096)
    (H0 : ∀ w, Calls Try.prog 67 #[.int .u64 W, .int .i64 0, .int .i64 1] w fun e w' => e = .returned (.int .u64 x) ∧ w.grownBy w' none)
    (H1 : ∀ w, Calls Try.prog 67 #[.int .u64 W, .int .i64 1, .int .i64 1] w fun e w' => e = .returned (.int .u64 y) ∧ w.grownBy w' none)
    (H2 : ∀ w, Calls Try.prog 67 #[.int .u64 W, .int .i64 4, .int .i64 12] w fun e w' => e = .returned (.int .u64 z) ∧ w.grownBy w' none) (w : World) :
    Calls Try.prog 66 #[.int .u64 W] w fun e w' => e = .returned (ev ⟨u, v, (z : Int) * 16⟩) ∧ w.grownBy w' none := by
  have X0 : Box (w.alloc (.cells #[.bool false, .bool false, .int .i64 0] 69)) w.heap.size E.zero := Box.made w E.zero _
  have G0 := gbAlloc w (.cells #[.bool false, .bool false, .int .i64 0] 69) none
  go_enter Try.func66, Try.ntmps66
  go_wp2_with fail
  refine (H0 _).mono ?_
  rintro e w1 ⟨rfl, g1⟩
  go_wp2_with fail
  refine (H1 _).mono ?_
  rintro e w2 ⟨rfl, g2⟩
  go_wp2_with fail
  refine (H2 _).mono ?_
  rintro e w3 ⟨rfl, g3⟩
  have X3 := ((X0.kept g1).kept g2).kept g3
  have G3 := gbTrans (gbTrans (gbTrans G0 g1) g2) g3
  clear X0 G0 g1 g2 g3
  obtain ⟨a0, a1, a2, lt, fr⟩ := X3
  go_wp2
  exact bodyPost_ret (v := ev ⟨u, v, (z : Int) * 16⟩) (by simp [results, Try.results66, go_sem, a0, a1, a2]) rfl ⟨rfl, by repeat (first | with_reducible exact G3 | refine gbSetNew ?_ _ _ _ (by omega))⟩

theorem fields_any (W : Nat) (hW : W < 18446744073709551616) (w : World) :
    Calls Try.prog 66 #[.int .u64 W] w fun e w' => e = .returned (ev (M.fe W)) ∧ w.grownBy w' none := by
  have e : M.fe W = ⟨((W % 2 : Nat) : Int) == 1, ((W / 2 % 2 : Nat) : Int) == 1, ((W / 16 % 4096 : Nat) : Int) * 16⟩ := by
    simp only [M.fe, E.mk.injEq]
    refine ⟨?_, ?_, by omega⟩ <;> (rw [Bool.eq_iff_iff]; simp only [beq_iff_eq]; omega)
  rw [e]
  exact fields_in W _ _ _ _ _ rfl rfl (Nat.mod_lt _ (by omega)) (fun w => field_is W 0 1 _ w hW (by omega) (by omega) (M.getN_lit _ _ _ _ 1 2 rfl rfl (by rw [Nat.div_one])))
    (fun w => field_is W 1 1 _ w hW (by omega) (by omega) (M.getN_lit _ _ _ _ 2 2 rfl rfl rfl)) (fun w => field_is W 4 12 _ w hW (by omega) (by omega) (M.getN_lit _ _ _ _ 16 4096 rfl rfl rfl)) w

set_option maxHeartbeats 1000000 in
theorem unpack_yes (W : Int) (u v : Bool) (a : Int)
    (HF : ∀ w, Calls Try.prog 66 #[.int .u64 W] w fun e w' => e = .returned (ev ⟨u, v, a⟩) ∧ w.grownBy w' none)
    (HW : ∀ w, Calls Try.prog 57 #[ev ⟨u, v, a⟩] w fun e w' => e = .returned (.tuple #[.int .u64 W, .int .i64 0]) ∧ w.grownBy w' none) (w : World) :
    Calls Try.prog 58 #[.int .u64 W] w fun e w' => e = .returned (.tuple #[ev ⟨u, v, a⟩, .int .i64 0]) ∧ w.grownBy w' none := by
  have X0 : Box (w.alloc (.cells #[.bool false, .bool false, .int .i64 0] 69)) w.heap.size E.zero := Box.made w E.zero _
  have G0 := gbAlloc w (.cells #[.bool false, .bool false, .int .i64 0] 69) none
  go_enter Try.func58, Try.ntmps58
  go_wp2_with fail
  refine (HF _).mono ?_
  rintro e w1 ⟨rfl, g1⟩
  go_wp2_with fail
  refine (HW _).mono ?_
  rintro e w2 ⟨rfl, g2⟩
  have Z2 := (Box.made w1 ⟨u, v, a⟩ 69).kept g2
  have X2 := ((X0.kept g1).kept (gbAlloc _ _ none)).kept g2
  have G2 := gbTrans (gbAllocN (gbTrans G0 g1) _) g2
  have l1 := (X0.kept g1).lt
  clear X0 G0 g1 g2
  obtain ⟨a0, a1, a2, lt, fr⟩ := X2
  obtain ⟨z0, z1, z2, zt, zf⟩ := Z2
  go_wp2
  exact bodyPost_ret (v := .tuple #[ev ⟨u, v, a⟩, .int .i64 0]) (by simp [results, Try.results58, go_sem, a0, a1, a2]) rfl ⟨rfl, by repeat (first | with_reducible exact G2 | refine gbSetNew ?_ _ _ _ (by omega))⟩

set_option maxHeartbeats 1000000 in
theorem unpack_no (W : Int) (u v : Bool) (a x f : Int) (h : (f != 0) = true ∨ ((f != 0) = false ∧ (x != W) = true))
    (HF : ∀ w, Calls Try.prog 66 #[.int .u64 W] w fun e w' => e = .returned (ev ⟨u, v, a⟩) ∧ w.grownBy w' none)
    (HW : ∀ w, Calls Try.prog 57 #[ev ⟨u, v, a⟩] w fun e w' => e = .returned (.tuple #[.int .u64 x, .int .i64 f]) ∧ w.grownBy w' none) (w : World) :
    Calls Try.prog 58 #[.int .u64 W] w fun e w' => e = .returned (.tuple #[ev E.zero, .int .i64 10]) ∧ w.grownBy w' none := by
  have X0 : Box (w.alloc (.cells #[.bool false, .bool false, .int .i64 0] 69)) w.heap.size E.zero := Box.made w E.zero _
  have G0 := gbAlloc w (.cells #[.bool false, .bool false, .int .i64 0] 69) none
  rcases h with h | ⟨h, h'⟩
  all_goals
    go_enter Try.func58, Try.ntmps58
    go_wp2_with fail
    refine (HF _).mono ?_
    rintro e w1 ⟨rfl, g1⟩
    go_wp2_with fail
    refine (HW _).mono ?_
    rintro e w2 ⟨rfl, g2⟩
    have X2 := ((X0.kept g1).kept (gbAlloc _ _ none)).kept g2
    have G2 := gbTrans (gbAllocN (gbTrans G0 g1) _) g2
    clear X0 G0 g1 g2
    obtain ⟨a0, a1, a2, lt, fr⟩ := X2
    go_wp2
    exact bodyPost_ret (v := .tuple #[ev E.zero, .int .i64 10]) (by simp [results, Try.results58, go_sem, a0, a1, a2]) rfl ⟨rfl, by repeat (first | with_reducible exact G2 | refine gbSetNew ?_ _ _ _ (by omega))⟩

theorem unpack_is (W : Nat) (c : E) (f : Int) (hW : W < 18446744073709551616) (h : M.up W = (c, f)) (w : World) :
    Calls Try.prog 58 #[.int .u64 W] w fun e w' => e = .returned (.tuple #[ev c, .int .i64 f]) ∧ w.grownBy w' none := by
  have HF := fun w => fields_any W hW w
  unfold M.up at h
  generalize M.fe W = q at HF h
  obtain ⟨u, v, a⟩ := q
  obtain ⟨⟨x, g⟩, hw⟩ : ∃ p, M.pk ⟨u, v, a⟩ = p := ⟨_, rfl⟩
  have HW := fun w => pack_is u v a x g hw w
  rw [hw] at h
  by_cases c1 : (x, g) = ((W : Int), (0 : Int))
  · rw [if_pos c1] at h
    simp only [Prod.mk.injEq] at h c1
    obtain ⟨rfl, rfl⟩ := h
    obtain ⟨rfl, rfl⟩ := c1
    exact unpack_yes _ u v a HF HW w
  · rw [if_neg c1] at h
    simp only [Prod.mk.injEq] at h c1
    obtain ⟨rfl, rfl⟩ := h
    refine unpack_no _ u v a x g ?_ HF HW w
    simp only [bne_iff_ne, ne_eq, bne_eq_false_iff_eq]
    by_cases e1 : g = 0
    · exact .inr ⟨e1, fun e2 => c1 ⟨e2, e1⟩⟩
    · exact .inl e1

set_option maxHeartbeats 400000 in
theorem place_is (A a v : Nat) (w : World) (hA : A < 4096) (h1 : a + 4 ≤ 64) (h : M.getN A a 4 = v) :
    Calls Try.prog 59 #[.int .i64 A, .int .i64 a] w fun e w' => e = .returned (.int .i64 v) ∧ w.grownBy w' none := by
  have hv : v < 16 := h ▸ M.getN_lt A a 4
  have HF := fun w => field_is A a 4 v w (by omega) (by omega) h1 h
  clear h
  go_enter Try.func59, Try.ntmps59
  go_wp2_with fail
  refine (HF _).mono ?_
  rintro e w1 ⟨rfl, g1⟩
  go_wp2
  go_ret
  exact ⟨rfl, g1⟩

set_option maxHeartbeats 400000 in
theorem split_yes (A x y z : Nat) (hA : A < 4096)
    (H0 : ∀ w, Calls Try.prog 59 #[.int .i64 A, .int .i64 8] w fun e w' => e = .returned (.int .i64 x) ∧ w.grownBy w' none)
    (H1 : ∀ w, Calls Try.prog 59 #[.int .i64 A, .int .i64 4] w fun e w' => e = .returned (.int .i64 y) ∧ w.grownBy w' none)
    (H2 : ∀ w, Calls Try.prog 59 #[.int .i64 A, .int .i64 0] w fun e w' => e = .returned (.int .i64 z) ∧ w.grownBy w' none) (w : World) :
    Calls Try.prog 43 #[.int .i64 A] w fun e w' => e = .returned (.tuple #[.int .i64 x, .int .i64 y, .int .i64 z, .int .i64 0]) ∧ w.grownBy w' none := by
  go_enter Try.func43, Try.ntmps43
  go_wp2_with fail
  refine (H0 _).mono ?_
  rintro e w1 ⟨rfl, g1⟩
  go_wp2_with fail
  refine (H1 _).mono ?_
  rintro e w2 ⟨rfl, g2⟩
  go_wp2_with fail
  refine (H2 _).mono ?_
  rintro e w3 ⟨rfl, g3⟩
  go_wp2
  exact bodyPost_ret (v := .tuple #[.int .i64 x, .int .i64 y, .int .i64 z, .int .i64 0]) (by simp [results, Try.results43, go_sem]) rfl ⟨rfl, gbTrans (gbTrans g1 g2) g3⟩

set_option maxHeartbeats 400000 in
theorem split_no (a : Int) (h : M.isA a = false) (w : World) :
    Calls Try.prog 43 #[.int .i64 a] w fun e w' => e = .returned (.tuple #[.int .i64 0, .int .i64 0, .int .i64 0, .int .i64 1]) ∧ w.grownBy w' none := by
  by_cases c1 : a < 0
  · clear h
    go_enter Try.func43, Try.ntmps43
    go_wp2
    exact bodyPost_ret (v := .tuple #[.int .i64 0, .int .i64 0, .int .i64 0, .int .i64 1]) (by simp [results, Try.results43, go_sem]) rfl ⟨rfl, gbRefl _ _⟩
  · have c2 : 4096 ≤ a := by
      simp only [M.isA, Bool.and_eq_false_iff, decide_eq_false_iff_not] at h
      omega
    clear h
    go_enter Try.func43, Try.ntmps43
    go_wp2
    exact bodyPost_ret (v := .tuple #[.int .i64 0, .int .i64 0, .int .i64 0, .int .i64 1]) (by simp [results, Try.results43, go_sem]) rfl ⟨rfl, gbRefl _ _⟩

theorem M.isA_nat {a : Int} (h : M.isA a = true) : ∃ A : Nat, a = A ∧ A < 4096 := by
  simp only [M.isA, Bool.and_eq_true, decide_eq_true_eq] at h
  exact ⟨a.toNat, by omega, by omega⟩

theorem split_is (a x y z f : Int) (h : M.sp a = (x, y, z, f)) (w : World) :
    Calls Try.prog 43 #[.int .i64 a] w fun e w' => e = .returned (.tuple #[.int .i64 x, .int .i64 y, .int .i64 z, .int .i64 f]) ∧ w.grownBy w' none := by
  unfold M.sp at h
  by_cases c : M.isA a = true
  · rw [if_pos c] at h
    simp only [Prod.mk.injEq] at h
    obtain ⟨A, rfl, hA⟩ := M.isA_nat c
    obtain ⟨rfl, rfl, rfl, rfl⟩ := h
    have := split_yes A (A / 256) (A / 16 % 16) (A % 16) hA (fun w => place_is A 8 _ w hA (by omega) (M.getN_lit _ _ _ _ 256 16 rfl rfl (by omega))) (fun w => place_is A 4 _ w hA (by omega) (M.getN_lit _ _ _ _ 16 16 rfl rfl rfl))
      (fun w => place_is A 0 _ w hA (by omega) (M.getN_lit _ _ _ _ 1 16 rfl rfl (by rw [Nat.div_one]))) w
    have e1 : ((A / 256 : Nat) : Int) = (A : Int) / 256 := by omega
    have e2 : ((A / 16 % 16 : Nat) : Int) = (A : Int) / 16 % 16 := by omega
    have e3 : ((A % 16 : Nat) : Int) = (A : Int) % 16 := by omega
    rw [e1, e2, e3] at this
    exact this
  · rw [if_neg c] at h
    simp only [Prod.mk.injEq] at h
    obtain ⟨rfl, rfl, rfl, rfl⟩ := h
    exact split_no a (by simpa using c) w
end Go.Proofs.Ytfdnangceomeiaa
