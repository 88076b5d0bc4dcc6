/-
  THE CONTRACT of package cap's Check.
-/
import Derived.Test.YtkpcdfiebjigbaaLook
namespace Go.Proofs.Ytkpcdfiebjigbaa
set_option maxRecDepth 10000
open Go.RowKit

theorem M.chk_kind {c : C} (h : M.knd c.k = false) : M.chk c = 2 := by unfold M.chk; rw [h]; rfl
theorem M.chk_own (c : C) (hg : 0 ≤ c.g) (h : M.knd c.k = true) : M.chk c = if M.eq c (M.own c) && M.bnd c then 0 else 10 := by
  unfold M.chk; rw [M.own_bnd c hg, h]; rfl

set_option maxHeartbeats 800000 in
theorem check_in (k o r b g n k' o' r' b' g' n' : Int) (v v2 : Bool) (k0 : 0 ≤ k) (k11 : k ≤ 11) (hv : M.eq ⟨k, o, r, b, g, n⟩ ⟨k', o', r', b', g', n'⟩ = v)
    (HO : ∀ w, Calls Try.prog 62 #[cv ⟨k, o, r, b, g, n⟩] w fun e w' => e = .returned (cv ⟨k', o', r', b', g', n'⟩) ∧ w.grownBy w' none)
    (HB : ∀ w, Calls Try.prog 63 #[cv ⟨k, o, r, b, g, n⟩] w fun e w' => e = .returned (.bool v2) ∧ w.grownBy w' none) (w : World) :
    Calls Try.prog 46 #[cv ⟨k, o, r, b, g, n⟩] w fun e w' => e = .returned (.int .i64 (if v && v2 then 0 else 10)) ∧ w.grownBy w' none := by
  obtain ⟨c0, c1, c2, c3, c4, c5⟩ := (Box.made w ⟨k, o, r, b, g, n⟩).all
  simp only at c0 c1 c2 c3 c4 c5
  have qe := eqGuardCap
  have qn := run_neq_cap
  cases v <;> cases v2
  all_goals
    go_enter Try.func46, Try.ntmps46
    go_wp2
    refine wp_region_grown (by kernel_rfl) (by kernel_rfl) fun _ => ?_
    repeat (go_big_quiet_step ((first | (go_at_call 62; with_reducible exact callsGr (HO _)) | (go_at_call 63; with_reducible exact callsGr (HB _)))))
    refine wpQuiet_nil ?_
    rintro _ ⟨⟨w1, g1⟩, rfl⟩
    go_wp2
    go_ret
    exact ⟨rfl, gbTrans (gbAlloc _ _ _) g1⟩

set_option maxHeartbeats 400000 in
theorem check_kind (k o r b g n : Int) (h : M.knd k = false) (w : World) :
    Calls Try.prog 46 #[cv ⟨k, o, r, b, g, n⟩] w fun e w' => e = .returned (.int .i64 2) ∧ w.grownBy w' none := by
  by_cases c1 : k < 0
  · clear h
    go_enter Try.func46, Try.ntmps46
    go_wp2
    go_ret
    exact ⟨rfl, gbAlloc _ _ _⟩
  · have c2 : 11 < k := by
      simp only [M.knd, Bool.and_eq_false_iff, decide_eq_false_iff_not] at h
      omega
    clear h
    go_enter Try.func46, Try.ntmps46
    go_wp2
    go_ret
    exact ⟨rfl, gbAlloc _ _ _⟩

theorem check_any (k o r b g n : Int) (hb : 0 ≤ b) (hg : 0 ≤ g) (w : World) :
    Calls Try.prog 46 #[cv ⟨k, o, r, b, g, n⟩] w fun e w' => e = .returned (.int .i64 (M.chk ⟨k, o, r, b, g, n⟩)) ∧ w.grownBy w' none := by
  cases h : M.knd k
  · rw [M.chk_kind h]; exact check_kind k o r b g n h w
  · rw [M.chk_own _ hg h]
    obtain ⟨k0, k11⟩ : 0 ≤ k ∧ k ≤ 11 := by simpa [M.knd] using h
    have HO := fun w => own_any k o r b g n w
    obtain ⟨⟨k', o', r', b', g', n'⟩, hd⟩ : ∃ d, M.own ⟨k, o, r, b, g, n⟩ = d := ⟨_, rfl⟩
    rw [hd] at HO ⊢
    exact check_in k o r b g n k' o' r' b' g' n' _ _ k0 k11 rfl HO (fun w => bounds_is k o r b g n _ hb hg rfl w) w

theorem check_is (k o r b g n v : Int) (hb : 0 ≤ b) (hg : 0 ≤ g) (h : M.chk ⟨k, o, r, b, g, n⟩ = v) (w : World) :
    Calls Try.prog 46 #[cv ⟨k, o, r, b, g, n⟩] w fun e w' => e = .returned (.int .i64 v) ∧ w.grownBy w' none := by
  subst h; exact check_any k o r b g n hb hg w
end Go.Proofs.Ytkpcdfiebjigbaa
