/-
  THE CONTRACT of package cap's Weaker.
-/
import Derived.Test.YtkgjcolimceogabDrv3
namespace Go.Proofs.Ytkgjcolimceogab
open Go.RowKit

set_option maxHeartbeats 2000000 in
theorem weaker_in (k o r b g n k' o' r' b' g' n' e1 e2 : Int) (v1 v2 v3 v4 v5 v6 : Bool) (h1 : (e1 == 0) = v1) (h2 : (e2 == 0) = v2) (h3 : M.eq ⟨k, o, 0, 0, 0, 0⟩ ⟨k', o', 0, 0, 0, 0⟩ = v3) (h5 : (b' == 0) = v5) (h6 : (b' == b) = v6)
    (HA : ∀ w, Calls Try.prog 9 #[cv ⟨k, o, r, b, g, n⟩] w fun e w' => e = .returned (.int .i64 e1) ∧ w.grownBy w' none)
    (HB : ∀ w, Calls Try.prog 9 #[cv ⟨k', o', r', b', g', n'⟩] w fun e w' => e = .returned (.int .i64 e2) ∧ w.grownBy w' none)
    (HX : ∀ w, Calls Try.prog 15 #[cv ⟨k, o, r, b, g, n⟩] w fun e w' => e = .returned (cv ⟨k, o, 0, 0, 0, 0⟩) ∧ w.grownBy w' none)
    (HY : ∀ w, Calls Try.prog 15 #[cv ⟨k', o', r', b', g', n'⟩] w fun e w' => e = .returned (cv ⟨k', o', 0, 0, 0, 0⟩) ∧ w.grownBy w' none)
    (HW : ∀ w, Calls Try.prog 16 #[.int .i64 r, .int .i64 r'] w fun e w' => e = .returned (.bool v4) ∧ w.grownBy w' none) (w : World) :
    Calls Try.prog 8 #[cv ⟨k, o, r, b, g, n⟩, cv ⟨k', o', r', b', g', n'⟩] w fun e w' => e = .returned (.bool (v1 && v2 && v3 && v4 && (v5 || v6))) ∧ w.grownBy w' none := by
  obtain ⟨X0, Y0, gW⟩ := boxes2 w ⟨k, o, r, b, g, n⟩ ⟨k', o', r', b', g', n'⟩ _ rfl
  obtain ⟨c0, c1, c2, c3, c4, c5⟩ := X0.all
  obtain ⟨d0, d1, d2, d3, d4, d5⟩ := Y0.all
  simp only at c0 c1 c2 c3 c4 c5 d0 d1 d2 d3 d4 d5 gW
  have qe := eqGuardCap
  have qn := run_eql_cap
  clear X0 Y0
  obtain ⟨rfl⟩ | ⟨rfl, ⟨rfl⟩ | ⟨rfl, ⟨rfl⟩ | ⟨rfl, ⟨rfl⟩ | ⟨rfl, ⟨rfl⟩ | ⟨rfl, ⟨rfl⟩ | ⟨rfl⟩⟩⟩⟩⟩⟩ :
      v1 = false ∨ v1 = true ∧ (v2 = false ∨ v2 = true ∧ (v3 = false ∨ v3 = true ∧ (v4 = false ∨ v4 = true ∧ (v5 = true ∨ v5 = false ∧ (v6 = false ∨ v6 = true))))) := by
    cases v1 <;> cases v2 <;> cases v3 <;> cases v4 <;> cases v5 <;> cases v6 <;> simp
  all_goals
    go_enter Try.func8, Try.ntmps8
    go_wp2
    refine wp_region_grown (by kernel_rfl) (by kernel_rfl) fun _ => ?_
    repeat (go_big_quiet_step ((first | (go_at_call 9; first | with_reducible exact callsGr (HA _) | with_reducible exact callsGr (HB _)) | (go_at_call 15; first | with_reducible exact callsGr (HX _) | with_reducible exact callsGr (HY _)) | (go_at_call 16; with_reducible exact callsGr (HW _)))))
    refine wpQuiet_nil ?_
    rintro _ ⟨⟨w1, g1⟩, rfl⟩
    go_wp2
    go_ret
    exact ⟨ret_bool (by simp), gbTrans gW g1⟩

theorem weaker_is (k o r b g n k' o' r' b' g' n' : Int) (v : Bool) (hb : 0 ≤ b) (hg : 0 ≤ g) (hb' : 0 ≤ b') (hg' : 0 ≤ g') (h : M.wkr ⟨k, o, r, b, g, n⟩ ⟨k', o', r', b', g', n'⟩ = v) (w : World) :
    Calls Try.prog 8 #[cv ⟨k, o, r, b, g, n⟩, cv ⟨k', o', r', b', g', n'⟩] w fun e w' => e = .returned (.bool v) ∧ w.grownBy w' none := by
  subst h
  refine (weaker_in k o r b g n k' o' r' b' g' n' _ _ _ _ _ _ _ _ rfl rfl rfl rfl rfl (fun w => check_any k o r b g n hb hg w) (fun w => check_any k' o' r' b' g' n' hb' hg' w) (fun w => bare_any k o r b g n w) (fun w => bare_any k' o' r' b' g' n' w)
    (fun w => (rt_within_any r r' w).mono fun _ _ ⟨h, hw⟩ => ⟨h, hw ▸ gbRefl _ _⟩) w).mono fun e w1 ⟨h, hg⟩ => ⟨h.trans (ret_bool ?_), hg⟩
  unfold M.wkr
  have e : M.eq ⟨k, o, 0, 0, 0, 0⟩ ⟨k', o', 0, 0, 0, 0⟩ = (k == k' && o == o') := by simp [M.eq]
  rw [e]
  simp only [Bool.and_assoc]
end Go.Proofs.Ytkgjcolimceogab
