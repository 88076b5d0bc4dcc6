/-
  THE CONTRACTS of slices.Reverse and slices.Index at slots' names.
-/
import Derived.Test.YtdnoidnpiaadaaaGreatG11
import Derived.Deep.RegionHeld3
namespace Go.Proofs.YtdnoidnpiaadaaaGreat
set_option maxRecDepth 10000
namespace T9
open Go.RowKit
set_option linter.unusedVariables false

namespace M
/-- The first c and the last c have changed places. -/
def rvp (L : List (Int × Int)) (c : Nat) : List (Int × Int) := (List.range L.length).map fun k => if k < c ∨ L.length - c ≤ k then L.getD (L.length - 1 - k) (0, 0) else L.getD k (0, 0)
theorem rvp_len (L : List (Int × Int)) (c : Nat) : (rvp L c).length = L.length := by unfold rvp; simp
theorem rvp_get (L : List (Int × Int)) (c k : Nat) (hk : k < L.length) : (rvp L c)[k]? = some (if k < c ∨ L.length - c ≤ k then L.getD (L.length - 1 - k) (0, 0) else L.getD k (0, 0)) := by unfold rvp; simp [hk]
theorem rvp_zero (L : List (Int × Int)) : rvp L 0 = L := by
  apply List.ext_getElem?
  intro k
  by_cases hk : k < L.length
  · rw [rvp_get L 0 k hk, if_neg (by omega)]; simp [hk]
  · rw [List.getElem?_eq_none (by rw [rvp_len]; omega), List.getElem?_eq_none (by omega)]
theorem rvp_all (L : List (Int × Int)) (c : Nat) (h : L.length ≤ 2 * c + 1) : rvp L c = L.reverse := by
  apply List.ext_getElem?
  intro k
  by_cases hk : k < L.length
  · rw [rvp_get L c k hk, List.getElem?_reverse (by omega)]
    by_cases e : k < c ∨ L.length - c ≤ k
    · rw [if_pos e]; simp [show L.length - 1 - k < L.length by omega]
    · rw [if_neg e, show L.length - 1 - k = k by omega]; simp [hk]
  · rw [List.getElem?_eq_none (by rw [rvp_len]; omega), List.getElem?_eq_none (by simp; omega)]
theorem rvp_step (L : List (Int × Int)) (c : Nat) (h : 2 * c + 1 < L.length) : ((rvp L c).set c (L.getD (L.length - 1 - c) (0, 0))).set (L.length - 1 - c) (L.getD c (0, 0)) = rvp L (c + 1) := by
  apply List.ext_getElem?
  intro k
  rw [List.getElem?_set, List.getElem?_set]
  simp only [List.length_set, rvp_len]
  by_cases hk : k < L.length
  · rw [rvp_get L (c + 1) k hk, rvp_get L c k hk]
    by_cases e1 : L.length - 1 - c = k
    · rw [if_pos e1, if_pos (by omega), if_pos (by omega), show L.length - 1 - k = c by omega]
    · rw [if_neg e1]
      by_cases e2 : c = k
      · rw [if_pos e2, if_pos (by omega), if_pos (by omega), e2]
      · rw [if_neg e2]
        by_cases e3 : k < c ∨ L.length - c ≤ k
        · rw [if_pos e3, if_pos (by omega)]
        · rw [if_neg e3, if_neg (by omega)]
  · rw [if_neg (by omega), if_neg (by omega), List.getElem?_eq_none (by rw [rvp_len]; omega), List.getElem?_eq_none (by rw [rvp_len]; omega)]
theorem rvp_at (L : List (Int × Int)) (c : Nat) (h : 2 * c + 1 < L.length) : (rvp L c)[c]? = some (L.getD c (0, 0)) ∧ (rvp L c)[L.length - 1 - c]? = some (L.getD (L.length - 1 - c) (0, 0)) := by
  rw [rvp_get L c c (by omega), rvp_get L c _ (by omega), if_neg (by omega), if_neg (by omega)]
  exact ⟨rfl, rfl⟩
end M

set_option maxHeartbeats 1000000 in
theorem reverse_row (w : World) (B g n cap : Nat) (L : List (Int × Int)) (hn : Hid (L.length = n)) (hn2 : n ≤ 1000) (HL : Hid (Lst w B (.slice (some ⟨g, 0, none⟩) n cap) L)) :
    Calls Tryz.prog 101 #[.slice (some ⟨g, 0, none⟩) n cap] w fun e w' => e = .returned (.tuple #[]) ∧ Lst w' B (.slice (some ⟨g, 0, none⟩) n cap) L.reverse ∧ w.grownBy w' (some g) := by
  have hj0 : IntKind.i64.wrap ((n : Int) - 1) = (n : Int) - 1 := by rw [IntKind.wrap_i64]; omega
  go_enter Tryz.func101, Tryz.ntmps101
  go_wp2
  go_loopg [2, 3] (n + 1) (fun y i j wr => ∃ c : Nat, c + y = n + 1 ∧ c ≤ n ∧ i = .int .i64 c ∧ j = .int .i64 ((n : Int) - 1 - c) ∧ Hid (Lst wr B (.slice (some ⟨g, 0, none⟩) n cap) (M.rvp L c)) ∧ w.grownBy wr (some g))
  case atStart => exact ⟨0, by omega, by omega, rfl, by simp, hideIt (by rw [M.rvp_zero]; exact HL.out), gbRefl _ _⟩
  case round =>
    obtain ⟨c, hc, hcn, rfl, rfl, HP, gw⟩ := hrel
    by_cases hlt : 2 * c + 1 < n
    · obtain ⟨d, hd⟩ : ∃ d : Nat, (n : Int) - 1 - c = (d : Int) := ⟨n - 1 - c, by omega⟩
      have hd' : d = n - 1 - c := by omega
      have hlt' : (c : Int) < (d : Int) := by omega
      obtain ⟨h1, h2⟩ := M.rvp_at L c (by rw [hn.out]; exact hlt)
      obtain ⟨a, ha⟩ : ∃ a, L.getD c (0, 0) = a := ⟨_, rfl⟩
      obtain ⟨z, hz⟩ : ∃ a, L.getD (L.length - 1 - c) (0, 0) = a := ⟨_, rfl⟩
      rw [ha] at h1
      rw [hz, hn.out, ← hd'] at h2
      obtain ⟨a0, a1, a2, a3⟩ := HP.out.el (by rw [M.rvp_len]; exact hn.out) c a h1
      obtain ⟨z0, z1, z2, z3⟩ := HP.out.el (by rw [M.rvp_len]; exact hn.out) d z h2
      obtain ⟨an, ai⟩ := a
      obtain ⟨zn, zi⟩ := z
      simp only at a0 a1 z0 z1
      have hcl : (c : Int) < (n : Int) := by omega
      have hdl : (d : Int) < (n : Int) := by omega
      have HA := hideIt ha
      have HZ := hideIt hz
      have HD := hideIt hd'
      have HD1 := hideIt hd
      rw [hd]
      clear ha hz h1 h2 hd' 
      have hne : ¬ c * 2 = d * 2 := by omega
      have hne1 : ¬ c * 2 + 1 = d * 2 := by omega
      have hne2 : ¬ c * 2 = d * 2 + 1 := by omega
      go_wp2
      go_region
      obtain ⟨W, hW, HW, gW⟩ : ∃ W, ((((wr.setCell ⟨g, c * 2, none⟩ (.int .i64 zn)).setCell ⟨g, c * 2 + 1, none⟩ (.int .i64 zi)).setCell ⟨g, d * 2, none⟩ (.int .i64 an)).setCell ⟨g, d * 2 + 1, none⟩ (.int .i64 ai)).drew = W ∧ Hid (Lst W B (.slice (some ⟨g, 0, none⟩) n cap) (M.rvp L (c + 1))) ∧ wr.grownBy W (some g) := by
        refine ⟨_, rfl, hideIt ?_, gbTrans (gbTrans (gbTrans (gbTrans (gbSetCell _ _ _ _) (gbSetCell _ _ _ _)) (gbSetCell _ _ _ _)) (gbSetCell _ _ _ _)) (gbDrewN _ 1 _)⟩
        have l1 := HP.out.store (by rw [M.rvp_len]; exact hn.out) c zn zi
        have l2 := l1.store (by rw [List.length_set, M.rvp_len]; exact hn.out) d an ai
        have e := M.rvp_step L c (by rw [hn.out]; exact hlt)
        rw [HZ.out, HA.out, hn.out, ← HD.out] at e
        rw [e] at l2
        exact l2.kept (gbDrewN _ 1 none)
      rw [hW]
      clear hW a0 a1 a2 a3 z0 z1 z2 z3
      go_wp2
      go_roundg (gk - 1)
      case rel => exact ⟨c + 1, by omega, by omega, by go_num, by go_num, HW, gbTrans gw gW⟩
      case measure => omega
    · have hlt' : ¬ (c : Int) < (n : Int) - 1 - c := by omega
      have HE : Hid (M.rvp L c = L.reverse) := hideIt (M.rvp_all L c (by rw [hn.out]; omega))
      go_wp2
      exact bodyPost_end (results_none rfl _ _ _) rfl ⟨rfl, by rw [← HE.out]; exact HP.out, gw⟩

set_option maxHeartbeats 400000 in
theorem reverse_nil (w : World) : Calls Tryz.prog 101 #[.slice none 0 0] w fun e w' => e = .returned (.tuple #[]) ∧ w' = w := by
  go_enter Tryz.func101, Tryz.ntmps101
  go_wp2
  refine wp_loop_rounds 1 ?_
  rw [rounds_succ]
  go_wp2
  exact bodyPost_end (results_none rfl _ _ _) rfl ⟨rfl, rfl⟩
theorem reverse_is {w : World} {B : Nat} {v : Value} {L : List (Int × Int)} (h : Lst w B v L) (hl : L.length ≤ 1000) :
    Calls Tryz.prog 101 #[v] w fun e w' => e = .returned (.tuple #[]) ∧ Lst w' B v L.reverse ∧ w.grownBy w' v.ownBlock := by
  rcases h.form with ⟨rfl, rfl⟩ | ⟨g, cap, rfl, _, _, _, _, hr⟩
  · refine (reverse_nil w).mono ?_
    rintro _ w1 ⟨rfl, rfl⟩
    exact ⟨rfl, Lst.nil _ _, gbRefl _ _⟩
  · exact reverse_row w B g _ cap L (hideIt rfl) hl (hideIt h)

/-! ### slices.Index -/
set_option maxHeartbeats 1000000 in
theorem index_row (w : World) (g n cap j : Nat) (a b : Int) (L : List (Int × Int)) (hn : Hid (L.length = n)) (hn2 : n ≤ 1000) (HR : Hid (Row w ⟨g, 0, none⟩ L)) (hj : Hid (L[j]? = some (a, b))) (hf : Hid (∀ i, i < j → L[i]? ≠ some (a, b))) :
    Calls Tryz.prog 135 #[.slice (some ⟨g, 0, none⟩) n cap, sv a b] w fun e w' => e = .returned (.int .i64 j) ∧ w.grownBy w' none := by
  have qe := eqGuardSlots
  have qq := run_eql_slots
  have hjn : j < n := by rw [← hn.out]; exact (List.getElem?_eq_some_iff.1 hj.out).1
  go_enter Tryz.func135, Tryz.ntmps135
  go_upto_region 1 with fail
  obtain ⟨W, hW, X, g0⟩ := sboxNew w a b
  rw [hW]
  clear hW
  go_wp2
  go_loopg [8] (j + 1) (fun y i wr => ∃ c : Nat, c + y = j + 1 ∧ c ≤ j ∧ i = .int .i64 c ∧ W.grownBy wr none)
  case atStart => exact ⟨0, by omega, by omega, rfl, gbRefl _ _⟩
  case round =>
    obtain ⟨c, hc, hcj, rfl, gw⟩ := hrel
    have hlt' : (c : Int) < (n : Int) := by omega
    obtain ⟨⟨p, q⟩, hp⟩ : ∃ q, L[c]? = some q := ⟨_, List.getElem?_eq_getElem (by rw [hn.out]; omega)⟩
    have E := (HR.out.kept (gbTrans g0 gw)) c _ hp
    rw [Addr.add_lit, Nat.zero_add] at E
    simp only at E
    have e0 : ∀ y : Gr wr, y.w.cell? ⟨g, c * 2, none⟩ = some (.int .i64 p) := fun y => (E.kept y.g).at0
    have e1 : ∀ y : Gr wr, y.w.cell? ⟨g, c * 2 + 1, none⟩ = some (.int .i64 q) := fun y => (E.kept y.g).at1
    have x0 : ∀ y : Gr wr, y.w.cell? ⟨w.heap.size, 0, none⟩ = some (.int .i64 a) := fun y => ((X.kept gw).kept y.g).at0
    have x1 : ∀ y : Gr wr, y.w.cell? ⟨w.heap.size, 1, none⟩ = some (.int .i64 b) := fun y => ((X.kept gw).kept y.g).at1
    by_cases ej : c = j
    · subst ej
      have hs : M.seq a b p q = true := M.seq_iff.2 (by have := hj.out; rw [hp] at this; simpa using this.symm)
      clear hp E
      go_wp2
      refine wp_region_grown (by kernel_rfl) (by kernel_rfl) fun _ => ?_
      repeat (go_big_quiet_step (fail))
      refine wpQuiet_nil ?_
      rintro w2 ⟨⟨_, g2⟩, rfl⟩
      go_wp2
      go_ret
      exact ⟨rfl, gbTrans g0 (gbTrans gw g2)⟩
    · have hs : M.seq a b p q = false := M.seq_not.2 (fun e => hf.out c (by omega) (by rw [hp, e]))
      clear hp E
      go_wp2
      refine wp_region_grown (by kernel_rfl) (by kernel_rfl) fun _ => ?_
      repeat (go_big_quiet_step (fail))
      refine wpQuiet_nil ?_
      rintro w2 ⟨⟨_, g2⟩, rfl⟩
      go_wp2
      go_roundg (gk - 1)
      case rel => exact ⟨c + 1, by omega, by omega, by go_num, gbTrans gw g2⟩
      case measure => omega

end T9
end Go.Proofs.YtdnoidnpiaadaaaGreat
