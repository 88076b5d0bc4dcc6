/-
  THE CONTRACTS of package cap's Derive and of what it calls.
-/
import Derived.Test.YtdnoidnpiaadaaaGreatG1
namespace Go.Proofs.YtdnoidnpiaadaaaGreat
set_option maxRecDepth 10000
open Go.RowKit

set_option maxHeartbeats 400000 in
theorem source_no (k o r b g n v : Int) (hv : (v != 0) = true)
    (HC : ∀ w, Calls Tryz.prog 89 #[cv ⟨k, o, r, b, g, n⟩] w fun e w' => e = .returned (.int .i64 v) ∧ w.grownBy w' none) (w : World) :
    Calls Tryz.prog 112 #[cv ⟨k, o, r, b, g, n⟩] w fun e w' => e = .returned (.int .i64 v) ∧ w.grownBy w' none := by
  go_enter Tryz.func112, Tryz.ntmps112
  go_wp2_with fail
  refine (HC _).mono ?_
  rintro e w0 ⟨rfl, g0⟩
  go_wp2
  go_ret
  exact ⟨rfl, gbTrans (gbAlloc _ _ _) g0⟩

set_option maxHeartbeats 400000 in
theorem source_null (k o r b g n : Int) (he : M.eq ⟨k, o, r, b, g, n⟩ C.zero = true)
    (HC : ∀ w, Calls Tryz.prog 89 #[cv ⟨k, o, r, b, g, n⟩] w fun e w' => e = .returned (.int .i64 0) ∧ w.grownBy w' none) (w : World) :
    Calls Tryz.prog 112 #[cv ⟨k, o, r, b, g, n⟩] w fun e w' => e = .returned (.int .i64 3) ∧ w.grownBy w' none := by
  have qe := eqGuardCap
  have qn := run_eql_cap
  have X0 := Box.made w ⟨k, o, r, b, g, n⟩
  go_enter Tryz.func112, Tryz.ntmps112
  go_wp2_with fail
  refine (HC _).mono ?_
  rintro e w0 ⟨rfl, g0⟩
  obtain ⟨a0, a1, a2, a3, a4, a5, _, _⟩ := X0.kept g0
  go_wp2
  go_ret
  exact ⟨rfl, gbTrans (gbAlloc _ _ _) g0⟩

set_option maxHeartbeats 800000 in
theorem source_kind (k o r b g n : Int) (he : M.eq ⟨k, o, r, b, g, n⟩ C.zero = false) (hk : k = 1 ∨ k = 10 ∨ k = 11)
    (HC : ∀ w, Calls Tryz.prog 89 #[cv ⟨k, o, r, b, g, n⟩] w fun e w' => e = .returned (.int .i64 0) ∧ w.grownBy w' none) (w : World) :
    Calls Tryz.prog 112 #[cv ⟨k, o, r, b, g, n⟩] w fun e w' => e = .returned (.int .i64 2) ∧ w.grownBy w' none := by
  have qe := eqGuardCap
  have qn := run_eql_cap
  have X0 := Box.made w ⟨k, o, r, b, g, n⟩
  rcases hk with rfl | rfl | rfl
  all_goals
    go_enter Tryz.func112, Tryz.ntmps112
    go_wp2_with fail
    refine (HC _).mono ?_
    rintro e w0 ⟨rfl, g0⟩
    obtain ⟨a0, a1, a2, a3, a4, a5, _, _⟩ := X0.kept g0
    go_wp2
    go_ret
    exact ⟨rfl, gbTrans (gbAlloc _ _ _) g0⟩

set_option maxHeartbeats 400000 in
theorem source_yes (k o r b g n : Int) (he : M.eq ⟨k, o, r, b, g, n⟩ C.zero = false) (h1 : (k == 1) = false) (h2 : (k == 10) = false) (h3 : (k == 11) = false)
    (HC : ∀ w, Calls Tryz.prog 89 #[cv ⟨k, o, r, b, g, n⟩] w fun e w' => e = .returned (.int .i64 0) ∧ w.grownBy w' none) (w : World) :
    Calls Tryz.prog 112 #[cv ⟨k, o, r, b, g, n⟩] w fun e w' => e = .returned (.int .i64 0) ∧ w.grownBy w' none := by
  have qe := eqGuardCap
  have qn := run_eql_cap
  have X0 := Box.made w ⟨k, o, r, b, g, n⟩
  go_enter Tryz.func112, Tryz.ntmps112
  go_wp2_with fail
  refine (HC _).mono ?_
  rintro e w0 ⟨rfl, g0⟩
  obtain ⟨a0, a1, a2, a3, a4, a5, _, _⟩ := X0.kept g0
  go_wp2
  go_ret
  exact ⟨rfl, gbTrans (gbAlloc _ _ _) g0⟩

/-- The one Null that is right. -/
theorem M.null_zero {c : C} (hg : 0 ≤ c.g) (h : M.chk c = 0) : M.eq c C.zero = true ↔ c.k = 0 := by
  constructor
  · intro e; rw [M.eq_iff.1 e]
  · intro e
    have hk : M.knd c.k = true := by rw [e]; rfl
    rw [M.chk_own c hg hk] at h
    have h2 : M.eq c (M.own c) = true := by
      cases x : M.eq c (M.own c)
      · rw [x] at h; simp at h
      · rfl
    have h3 := M.eq_iff.1 h2
    have h4 : M.own c = C.zero := by
      obtain ⟨k, o, r, b, g, n⟩ := c
      simp only at e
      subst e
      rfl
    rw [h4] at h3
    exact M.eq_iff.2 h3

theorem source_is (k o r b g n v : Int) (hb : 0 ≤ b) (hg : 0 ≤ g) (h : M.src ⟨k, o, r, b, g, n⟩ = v) (w : World) :
    Calls Tryz.prog 112 #[cv ⟨k, o, r, b, g, n⟩] w fun e w' => e = .returned (.int .i64 v) ∧ w.grownBy w' none := by
  subst h
  unfold M.src
  by_cases c : M.chk ⟨k, o, r, b, g, n⟩ = 0
  · have HC := fun w => check_is k o r b g n 0 hb hg c w
    have hz := M.null_zero (c := ⟨k, o, r, b, g, n⟩) hg c
    rw [if_pos c]
    by_cases c0 : k = 0
    · rw [if_pos c0]; exact source_null k o r b g n (hz.2 c0) HC w
    · rw [if_neg c0]
      have he : M.eq ⟨k, o, r, b, g, n⟩ C.zero = false := by
        cases x : M.eq ⟨k, o, r, b, g, n⟩ C.zero
        · rfl
        · exact absurd (hz.1 x) c0
      by_cases c1 : k = 1 ∨ k = 10 ∨ k = 11
      · rw [if_pos c1]; exact source_kind k o r b g n he c1 HC w
      · rw [if_neg c1]
        exact source_yes k o r b g n he (by simp; omega) (by simp; omega) (by simp; omega) HC w
  · rw [if_neg c]
    exact source_no k o r b g n _ (by simpa using c) (fun w => check_any k o r b g n hb hg w) w

/-! ### Rights that are asked for -/
set_option maxHeartbeats 800000 in
theorem masked_is (k o r b g n a : Int) (d : C) (f : Int) (h : M.msd ⟨k, o, r, b, g, n⟩ a = (d, f)) (w : World) :
    Calls Tryz.prog 113 #[cv ⟨k, o, r, b, g, n⟩, .int .i64 a] w fun e w' => e = .returned (.tuple #[cv d, .int .i64 f]) ∧ w.grownBy w' none := by
  unfold M.msd at h
  cases c1 : M.ck a
  · rw [c1, if_neg (by simp)] at h
    simp only [Prod.mk.injEq] at h
    obtain ⟨rfl, rfl⟩ := h
    go_enter Tryz.func113, Tryz.ntmps113
    go_wp2_with fail
    refine (rt_check_is a false c1 _).mono ?_
    rintro e w' ⟨rfl, rfl⟩
    go_wp2
    exact bodyPost_ret (v := .tuple #[cv C.zero, .int .i64 5]) (by simp [results, Tryz.results113, go_sem]) rfl ⟨rfl, by repeat (first | with_reducible exact gbRefl _ _ | refine gbSetNew ?_ _ _ _ (by simp) | refine gbAllocN ?_ _)⟩
  · rw [c1, if_pos rfl] at h
    simp only [Prod.mk.injEq] at h
    obtain ⟨rfl, rfl⟩ := h
    have HM := fun w => rt_mask_any r a w
    generalize M.msk r a = r' at HM
    go_enter Tryz.func113, Tryz.ntmps113
    go_wp2_with fail
    refine (rt_check_is a true c1 _).mono ?_
    rintro e w' ⟨rfl, rfl⟩
    go_wp2_with fail
    refine (HM _).mono ?_
    rintro e w' ⟨rfl, rfl⟩
    go_wp2
    exact bodyPost_ret (v := .tuple #[cv ⟨k, o, r', b, g, n⟩, .int .i64 0]) (by simp [results, Tryz.results113, go_sem]) rfl ⟨rfl, by repeat (first | with_reducible exact gbRefl _ _ | refine gbSetNew ?_ _ _ _ (by simp) | refine gbAllocN ?_ _)⟩
end Go.Proofs.YtdnoidnpiaadaaaGreat
