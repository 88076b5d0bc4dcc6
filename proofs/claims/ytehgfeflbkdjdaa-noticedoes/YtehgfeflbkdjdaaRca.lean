/-
  THE CONTRACT of the document's Cancel.
-/
import Derived.Test.YtehgfeflbkdjdaaRnt
namespace Go.Proofs.Ytehgfeflbkdjdaa
set_option maxRecDepth 10000
open Go.RowKit
set_option linter.unusedVariables false

set_option maxHeartbeats 400000 in
theorem rcancel_no {w : World} {O : Nat → Prop} {p : Nat} {W : Int} {b : Option Int} {L : List Int} (h : RN w O p W b L) (hl : L.length ≤ 1000) (a : Int) (ha : a ∉ L) :
    Calls Try.prog 13 #[.pointer (some ⟨p, 0, none⟩), .int .i64 a] w fun e w' => e = .returned (.bool false) ∧ w' = w := by
  have HC := hideIt (rat_is h hl a (-1) (by unfold M.ix; rw [if_neg ha]))
  clear h ha
  go_enter Try.func13, Try.ntmps13
  go_wp2_with fail
  refine HC.out.mono ?_
  rintro e w1 ⟨rfl, rfl⟩
  go_wp2
  go_ret
  exact ⟨rfl, rfl⟩
set_option maxHeartbeats 2000000 in
theorem rcancel_yes {w : World} {O : Nat → Prop} {p : Nat} {W : Int} {b : Option Int} {L : List Int} (h : RN w O p W b L) (hl : L.length ≤ 1000) (a : Int) (ha : a ∈ L) :
    Calls Try.prog 13 #[.pointer (some ⟨p, 0, none⟩), .int .i64 a] w fun e w' => e = .returned (.bool true) ∧ RN w' (wide O w w') p W b (L.eraseIdx (L.idxOf a)) ∧ Fr O w w' := by
  have hi := List.idxOf_lt_length_iff.2 ha
  obtain ⟨v, c1, l1, _⟩ := h.ex
  obtain ⟨n, hn⟩ : ∃ n, L.length = n := ⟨_, rfl⟩
  rw [hn] at hi hl
  obtain ⟨g, cap, rfl, hc, _, _, hc2⟩ := l1.has hn (by omega)
  have HC := hideIt (rat_is h (by omega) a (L.idxOf a) (by unfold M.ix; rw [if_pos ha]))
  obtain ⟨i, hi0⟩ : ∃ i, L.idxOf a = i := ⟨_, rfl⟩
  rw [hi0] at HC hi ⊢
  obtain ⟨x, hx⟩ : ∃ x : Nat, Hid (x = i + 1) := ⟨_, hideIt rfl⟩
  have hp := h.lt
  have hq1 : ¬ p = w.heap.size := by omega
  have hq2 : ¬ w.heap.size = p := by omega
  have hR := fun ad c1 c2 had => twoRuns l1 hn hl hi hx.out hc ad c1 c2 had
  have hxe : (i : Int) + 1 = (x : Int) := by rw [hx.out]; omega
  have hxw : IntKind.i64.wrap (x : Int) = (x : Int) := wI rfl (by have := hx.out; omega)
  have h1 : (x : Int) ≤ (n : Int) := by have := hx.out; omega
  have h2 : (i : Int) ≤ (cap : Int) := by omega
  have h3 : (i : Int) ≤ (n : Int) := by omega
  have h4 : (x : Int) ≤ (cap : Int) := by omega
  have h5 : (n : Int) ≤ (cap : Int) := by omega
  have hxn : x ≤ n := by omega
  have hix : i ≤ cap := by omega
  have hi2 : ¬ (i : Int) < 0 := by omega
  clear l1 hn ha hi0
  by_cases hxc : x < cap
  · obtain ⟨x1, m1, d1, w1, x2, m2, d2, w2, r1, r2, G1, l2, G2⟩ := hR ⟨g, x, none⟩ cap (cap - x) (fun _ => rfl)
    obtain ⟨b1, b2, b3⟩ := h.storeNew G2 l2
    rw [c1] at b1
    have b3 := hideIt b3
    have hc3 : ¬ cap = x := by omega
    have q1 := G1.cell c1 (by simp)
    clear hR l2 h
    go_enter Try.func13, Try.ntmps13
    go_wp2_with fail
    refine HC.out.mono ?_
    rintro e w3 ⟨rfl, rfl⟩
    go_wp2
    go_region_law (first | (refine step_append_run rfl (.tmp 19) (.tmp 26) rfl (.slice x1 m1 d1) (.slice (some ⟨g, x, none⟩) (n - x) (cap - x)) (by simp [Act.eval, Act.put]) (by simp [Act.eval, Act.put]; done) (.slice x2 m2 d2) w2 r2 ?_) | (refine step_append_run rfl (.tmp 12) (.tmp 18) rfl (.slice (some ⟨w3.heap.size, 0, none⟩) 0 0) (.slice (some ⟨g, 0, none⟩) i cap) (by simp [Act.eval, Act.put]) (by simp [Act.eval, Act.put]) (.slice x1 m1 d1) w1 r1 ?_))
    all_goals (go_wp2; go_ret; exact ⟨rfl, b3.out⟩)
  · obtain rfl : x = cap := by omega
    obtain ⟨x1, m1, d1, w1, x2, m2, d2, w2, r1, r2, G1, l2, G2⟩ := hR ⟨g, 0, none⟩ x (x - x) (fun h => absurd h (Nat.lt_irrefl _))
    obtain ⟨b1, b2, b3⟩ := h.storeNew G2 l2
    rw [c1] at b1
    have b3 := hideIt b3
    have q1 := G1.cell c1 (by simp)
    clear hR l2 h
    go_enter Try.func13, Try.ntmps13
    go_wp2_with fail
    refine HC.out.mono ?_
    rintro e w3 ⟨rfl, rfl⟩
    go_wp2
    go_region_law (first | (refine step_append_run rfl (.tmp 19) (.tmp 26) rfl (.slice x1 m1 d1) (.slice (some ⟨g, 0, none⟩) (n - x) (x - x)) (by simp [Act.eval, Act.put]) (by simp [Act.eval, Act.put]; omega) (.slice x2 m2 d2) w2 r2 ?_) | (refine step_append_run rfl (.tmp 12) (.tmp 18) rfl (.slice (some ⟨w3.heap.size, 0, none⟩) 0 0) (.slice (some ⟨g, 0, none⟩) i x) (by simp [Act.eval, Act.put]) (by simp [Act.eval, Act.put]) (.slice x1 m1 d1) w1 r1 ?_))
    all_goals (go_wp2; go_ret; exact ⟨rfl, b3.out⟩)
theorem rcancel_is {w : World} {O : Nat → Prop} {p : Nat} {W : Int} {b : Option Int} {L : List Int} (h : RN w O p W b L) (hl : L.length ≤ 900) (hd : L.Nodup) (a : Int) (o : Bool) (ho : L.contains a = o) :
    Calls Try.prog 13 #[.pointer (some ⟨p, 0, none⟩), .int .i64 a] w fun e w' => e = .returned (.bool o) ∧ RN w' (wide O w w') p W b (M.wo L a) ∧ Fr O w w' := by
  subst ho
  by_cases ha : a ∈ L
  · refine (rcancel_yes h (by omega) a ha).mono ?_
    rintro e w1 ⟨rfl, q1, q2⟩
    rw [M.wo_erase hd] at q1
    exact ⟨by simp [ha], q1, q2⟩
  · refine (rcancel_no h (by omega) a ha).mono ?_
    rintro e w1 ⟨rfl, rfl⟩
    refine ⟨by simp [ha], ?_, Fr.refl _ _⟩
    rw [M.wo_not ha]
    exact h.wider _ _
end Go.Proofs.Ytehgfeflbkdjdaa
