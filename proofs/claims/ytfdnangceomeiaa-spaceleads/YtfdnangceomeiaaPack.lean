/-
  THE CONTRACTS of package pte's isPage, flag, check and Pack.
-/
import Derived.Test.YtfdnangceomeiaaLeaf
namespace Go.Proofs.Ytfdnangceomeiaa
set_option maxRecDepth 10000
open Go.RowKit

theorem M.pg_low {a : Int} (h : ¬ 0 ≤ a) : M.pg a = false := by simp only [M.pg, decide_eq_false h, Bool.false_and]
theorem M.pg_high {a : Int} (h : ¬ a < 65536) : M.pg a = false := by simp only [M.pg, decide_eq_false h, Bool.false_and, Bool.and_false]
theorem M.pg_in {a : Int} (h : 0 ≤ a) (k : a < 65536) : M.pg a = (a % 16 == 0) := by simp only [M.pg, decide_eq_true h, decide_eq_true k, Bool.true_and]

set_option maxHeartbeats 400000 in
theorem isPage_any (a : Int) (w : World) : Calls Try.prog 68 #[.int .i64 a] w fun e w' => e = .returned (.bool (M.pg a)) ∧ w' = w := by
  by_cases c1 : 0 ≤ a
  · by_cases c2 : a < 65536
    · rw [M.pg_in c1 c2]
      go_enter Try.func68, Try.ntmps68
      go_wp2
      go_ret
      exact ⟨rfl, rfl⟩
    · rw [M.pg_high c2]
      go_enter Try.func68, Try.ntmps68
      go_wp2
      go_ret
      exact ⟨rfl, rfl⟩
  · rw [M.pg_low c1]
    go_enter Try.func68, Try.ntmps68
    go_wp2
    go_ret
    exact ⟨rfl, rfl⟩
theorem isPage_is (a : Int) (v : Bool) (h : M.pg a = v) (w : World) : Calls Try.prog 68 #[.int .i64 a] w fun e w' => e = .returned (.bool v) ∧ w' = w := by
  subst h; exact isPage_any a w

/-- A flag's bit. -/
def M.fl (b : Bool) : Nat := if b then 1 else 0

set_option maxHeartbeats 400000 in
theorem flag_any (b : Bool) (w : World) : Calls Try.prog 65 #[.bool b] w fun e w' => e = .returned (.int .u64 (M.fl b)) ∧ w' = w := by
  cases b
  all_goals
    go_enter Try.func65, Try.ntmps65
    go_wp2
    go_ret
    exact ⟨rfl, rfl⟩

set_option maxHeartbeats 800000 in
theorem check_valid (o : Bool) (a : Int) (v : Bool) (h : M.pg a = v) (w : World) :
    Calls Try.prog 63 #[ev ⟨true, o, a⟩] w fun e w' => e = .returned (.int .i64 (if v then 0 else 9)) ∧ w.grownBy w' none := by
  cases v
  all_goals
    go_enter Try.func63, Try.ntmps63
    go_wp2_with fail
    refine (isPage_is a _ h _).mono ?_
    rintro e w1 ⟨rfl, rfl⟩
    go_wp2
    go_ret
    exact ⟨rfl, gbAlloc _ _ _⟩

set_option maxHeartbeats 800000 in
theorem check_not (o : Bool) (a : Int) (v : Bool) (h : M.eq ⟨false, o, a⟩ ⟨false, false, 0⟩ = v) (w : World) :
    Calls Try.prog 63 #[ev ⟨false, o, a⟩] w fun e w' => e = .returned (.int .i64 (if v then 0 else 10)) ∧ w.grownBy w' none := by
  have qe := eqGuard_p
  have qn := run_neq_p
  cases v
  all_goals
    go_enter Try.func63, Try.ntmps63
    go_wp2
    go_ret
    exact ⟨rfl, gbAlloc _ _ _⟩

theorem check_is (v o : Bool) (a x : Int) (h : M.ce ⟨v, o, a⟩ = x) (w : World) :
    Calls Try.prog 63 #[ev ⟨v, o, a⟩] w fun e w' => e = .returned (.int .i64 x) ∧ w.grownBy w' none := by
  subst h
  cases v
  · exact check_not o a _ rfl w
  · exact check_valid o a _ rfl w

theorem put1 (V : Nat) (w : World) (hV : V < 2) :
    Calls Try.prog 64 #[.int .u64 0, .int .i64 0, .int .i64 1, .int .u64 V] w fun e w' => e = .returned (.tuple #[.int .u64 V, .int .i64 0]) ∧ w.grownBy w' none :=
  putW 0 0 1 V V w ((M.putN_add 0 0 1 V (by omega) (by omega) hV).trans (by omega)) (by omega) (by omega) (by omega) hV
theorem put2 (W V x : Nat) (w : World) (hW : W < 2) (hV : V < 2) (hx : W + V * 2 = x) :
    Calls Try.prog 64 #[.int .u64 W, .int .i64 1, .int .i64 1, .int .u64 V] w fun e w' => e = .returned (.tuple #[.int .u64 x, .int .i64 0]) ∧ w.grownBy w' none :=
  putW W 1 1 V x w ((M.putN_add W 1 1 V hW (by omega) hV).trans hx) (by omega) (by omega) (by omega) hV
theorem put3 (W V x : Nat) (w : World) (hW : W < 16) (hV : V < 4096) (hx : W + V * 16 = x) :
    Calls Try.prog 64 #[.int .u64 W, .int .i64 4, .int .i64 12, .int .u64 V] w fun e w' => e = .returned (.tuple #[.int .u64 x, .int .i64 0]) ∧ w.grownBy w' none :=
  putW W 4 12 V x w ((M.putN_add W 4 12 V hW (by omega) hV).trans hx) (by omega) (by omega) (by omega) hV

set_option maxHeartbeats 400000 in
theorem pack_no (v o : Bool) (a x : Int) (hx : (x != 0) = true)
    (HC : ∀ w, Calls Try.prog 63 #[ev ⟨v, o, a⟩] w fun e w' => e = .returned (.int .i64 x) ∧ w.grownBy w' none) (w : World) :
    Calls Try.prog 57 #[ev ⟨v, o, a⟩] w fun e w' => e = .returned (.tuple #[.int .u64 0, .int .i64 x]) ∧ w.grownBy w' none := by
  go_enter Try.func57, Try.ntmps57
  go_wp2_with fail
  refine (HC _).mono ?_
  rintro e w1 ⟨rfl, g1⟩
  go_wp2
  go_ret2
  exact ⟨rfl, gbTrans (gbAlloc _ _ _) g1⟩

set_option maxHeartbeats 800000 in
theorem pack_yes (v o : Bool) (a : Int) (P x y z : Nat) (hP : P < 4096) (ha : a.tdiv 16 = (P : Int)) (lx : x < 2) (hy : x + M.fl o * 2 = y) (ly : y < 16) (hz : y + P * 16 = z)
    (HC : ∀ w, Calls Try.prog 63 #[ev ⟨v, o, a⟩] w fun e w' => e = .returned (.int .i64 0) ∧ w.grownBy w' none)
    (HV : ∀ w, Calls Try.prog 65 #[.bool v] w fun e w' => e = .returned (.int .u64 x) ∧ w' = w)
    (w : World) :
    Calls Try.prog 57 #[ev ⟨v, o, a⟩] w fun e w' => e = .returned (.tuple #[.int .u64 z, .int .i64 0]) ∧ w.grownBy w' none := by
  have X0 := Box.made w ⟨v, o, a⟩ 69
  have fo : M.fl o < 2 := by cases o <;> decide
  obtain ⟨f, hf⟩ : ∃ f, M.fl o = f := ⟨_, rfl⟩
  have HO : ∀ w, Calls Try.prog 65 #[.bool o] w fun e w' => e = .returned (.int .u64 f) ∧ w' = w := fun w => hf ▸ flag_any o w
  rw [hf] at hy fo
  have H1 := fun w => put1 x w lx
  have H2 := fun w => put2 x f y w lx fo hy
  have H3 := fun w => put3 y P z w ly hP hz
  clear hy hz hf
  go_enter Try.func57, Try.ntmps57
  go_wp2_with fail
  refine (HC _).mono ?_
  rintro e w0 ⟨rfl, g0⟩
  obtain ⟨a0, a1, a2, _, _⟩ := X0.kept g0
  have G0 := gbTrans (gbAlloc w (.cells #[.bool v, .bool o, .int .i64 a] 69) none) g0
  have X1 := X0.kept g0
  clear X0 g0
  go_wp2_with fail
  refine (HV _).mono ?_
  rintro e w1 ⟨rfl, rfl⟩
  go_wp2_with fail
  refine (H1 _).mono ?_
  rintro e w1 ⟨rfl, g1⟩
  clear a0 a1 a2
  obtain ⟨a0, a1, a2, _, _⟩ := X1.kept g1
  have G1 := gbTrans G0 g1
  have X2 := X1.kept g1
  clear X1 G0 g1
  go_wp2_with fail
  refine (HO _).mono ?_
  rintro e w1 ⟨rfl, rfl⟩
  go_wp2_with fail
  refine (H2 _).mono ?_
  rintro e w2 ⟨rfl, g2⟩
  clear a0 a1 a2
  obtain ⟨a0, a1, a2, _, _⟩ := X2.kept g2
  have G2 := gbTrans G1 g2
  clear X2 G1 g2
  go_wp2_with fail
  refine (H3 _).mono ?_
  rintro e w3 ⟨rfl, g3⟩
  go_wp2
  go_ret2
  exact ⟨rfl, gbTrans G2 g3⟩

theorem M.ce_ok {v o : Bool} {a : Int} (h : M.ce ⟨v, o, a⟩ = 0) : (v = true ∧ ∃ P : Nat, a = ((16 * P : Nat) : Int) ∧ P < 4096) ∨ (v = false ∧ o = false ∧ a = 0) := by
  cases v
  · simp only [M.ce, Bool.false_eq_true, if_false] at h
    by_cases c : M.eq ⟨false, o, a⟩ E.zero = true
    · have := M.eq_iff.1 c
      simp only [E.mk.injEq, true_and] at this
      exact .inr ⟨rfl, this.1, this.2⟩
    · rw [if_neg c] at h; omega
  · simp only [M.ce, if_true] at h
    by_cases c : M.pg a = true
    · exact .inl ⟨rfl, M.pg_nat c⟩
    · rw [if_neg c] at h; omega

theorem pack_is (v o : Bool) (a x f : Int) (h : M.pk ⟨v, o, a⟩ = (x, f)) (w : World) :
    Calls Try.prog 57 #[ev ⟨v, o, a⟩] w fun e w' => e = .returned (.tuple #[.int .u64 x, .int .i64 f]) ∧ w.grownBy w' none := by
  have HC := fun w => check_is v o a _ rfl w
  unfold M.pk at h
  by_cases c : M.ce ⟨v, o, a⟩ = 0
  · rw [if_pos c] at h
    simp only [Prod.mk.injEq] at h
    obtain ⟨rfl, rfl⟩ := h
    rw [c] at HC
    rcases M.ce_ok c with ⟨rfl, P, rfl, hP⟩ | ⟨rfl, rfl, rfl⟩
    · have e : M.pw ⟨true, o, ((16 * P : Nat) : Int)⟩ = ((M.fl true + M.fl o * 2 + P * 16 : Nat) : Int) := by
        cases o <;> simp [M.pw, M.fl] <;> omega
      rw [e]
      refine pack_yes true o _ P _ _ _ hP ?_ (by decide) rfl (by cases o <;> decide) rfl HC (fun w => flag_any true w) w
      rw [Int.tdiv_eq_ediv_of_nonneg (by omega)]
      omega
    · exact pack_yes false false 0 0 0 0 0 (by omega) rfl (by omega) rfl (by omega) rfl HC (fun w => flag_any false w) w
  · rw [if_neg c] at h
    simp only [Prod.mk.injEq] at h
    obtain ⟨rfl, rfl⟩ := h
    exact pack_no v o a _ (by simpa using c) HC w
end Go.Proofs.Ytfdnangceomeiaa
