/-
  works(): the examples that every law of this stage begins with.
-/
import Derived.Test.YtkgjcolimceogabLess
namespace Go.Proofs.Ytkgjcolimceogab
open Go.RowKit

theorem wk_words (w : World) : Calls Try.prog 6 #[cv ⟨4, 3, 3, 7, 0, 0⟩] w fun e w' => e = .returned (.tuple #[.int .u64 3124, .int .u64 7, .int .i64 0]) ∧ w.grownBy w' none :=
  words_is 4 3 3 7 0 0 3124 7 0 (by decide) (by decide) (by decide +kernel) w
theorem wk_of (w : World) : Calls Try.prog 7 #[.int .u64 3124, .int .u64 7] w fun e w' => e = .returned (.tuple #[cv ⟨4, 3, 3, 7, 0, 0⟩, .int .i64 0]) ∧ w.grownBy w' none :=
  of_is 3124 7 ⟨4, 3, 3, 7, 0, 0⟩ 0 (by decide) (by decide) (by unfold M.off; rw [if_pos (by decide +kernel)]; rfl) w
theorem wk_der1 (w : World) : Calls Try.prog 5 #[cv ⟨4, 3, 3, 7, 0, 0⟩, .int .i64 1, .int .u64 9, .int .u64 0, .int .i64 0] w fun e w' => e = .returned (.tuple #[cv C.zero, .int .i64 8]) ∧ w.grownBy w' none :=
  derive_is 4 3 3 7 0 0 1 9 0 0 C.zero 8 (by decide) (by decide) (by decide) (by decide) rfl w
theorem wk_der2 (w : World) : Calls Try.prog 5 #[cv ⟨4, 3, 3, 7, 0, 0⟩, .int .i64 1, .int .u64 0, .int .u64 0, .int .i64 0] w fun e w' => e = .returned (.tuple #[cv ⟨4, 3, 1, 7, 0, 0⟩, .int .i64 0]) ∧ w.grownBy w' none :=
  derive_is 4 3 3 7 0 0 1 0 0 0 ⟨4, 3, 1, 7, 0, 0⟩ 0 (by decide) (by decide) (by decide) (by decide) rfl w
theorem wk_less (w : World) : Calls Try.prog 8 #[cv ⟨4, 3, 1, 7, 0, 0⟩, cv ⟨4, 3, 3, 7, 0, 0⟩] w fun e w' => e = .returned (.bool true) ∧ w.grownBy w' none :=
  weaker_is 4 3 1 7 0 0 4 3 3 7 0 0 true (by decide) (by decide) (by decide) (by decide) (by decide +kernel) w
theorem wk_more (w : World) : Calls Try.prog 8 #[cv ⟨4, 3, 3, 7, 0, 0⟩, cv ⟨4, 3, 1, 7, 0, 0⟩] w fun e w' => e = .returned (.bool false) ∧ w.grownBy w' none :=
  weaker_is 4 3 3 7 0 0 4 3 1 7 0 0 false (by decide) (by decide) (by decide) (by decide) (by decide +kernel) w
theorem wk_check (w : World) : Calls Try.prog 9 #[cv ⟨12, 0, 0, 0, 0, 0⟩] w fun e w' => e = .returned (.int .i64 2) ∧ w.grownBy w' none :=
  check_is 12 0 0 0 0 0 2 (by decide) (by decide) (by decide +kernel) w

set_option maxHeartbeats 2000000 in
theorem works_any (w : World) : Calls Try.prog 4 #[] w fun e w' => e = .returned (.bool true) ∧ w.grownBy w' none := by
  have qe := eqGuardCap
  have qn := run_eql_cap
  go_enter Try.func4, Try.ntmps4
  go_upto_region 2 with fail
  obtain ⟨W0, hW0, X0, G0⟩ := boxNew w ⟨4, 3, 3, 7, 0, 0⟩
  simp only at hW0
  rw [hW0]
  clear hW0
  obtain ⟨a0, a1, a2, a3, a4, a5, _, _⟩ := id X0
  go_wp2_with fail
  refine (wk_words _).mono ?_
  rintro e w1 ⟨rfl, g1⟩
  clear a0 a1 a2 a3 a4 a5
  have X1 := X0.kept g1
  have G1 := gbTrans G0 g1
  clear X0 G0 g1
  go_wp2_with fail
  refine (wk_of _).mono ?_
  rintro e w2 ⟨rfl, g2⟩
  go_upto_region 4 with fail
  obtain ⟨W2, hW2, Y2, h2⟩ := boxNew w2 ⟨4, 3, 3, 7, 0, 0⟩
  simp only at hW2
  rw [hW2]
  clear hW2
  have X2 := (X1.kept g2).kept h2
  have G2 := gbTrans (gbTrans G1 g2) h2
  clear X1 G1 g2 h2
  obtain ⟨a0, a1, a2, a3, a4, a5, _, _⟩ := id X2
  go_wp2_with fail
  refine (wk_der1 _).mono ?_
  rintro e w3 ⟨rfl, g3⟩
  clear a0 a1 a2 a3 a4 a5
  go_upto_region 5 with fail
  obtain ⟨W3, hW3, _, h3⟩ := boxNew w3 C.zero
  simp only at hW3
  rw [hW3]
  clear hW3
  have X3 := (X2.kept g3).kept h3
  have Y3 := (Y2.kept g3).kept h3
  have G3 := gbTrans (gbTrans G2 g3) h3
  clear X2 Y2 G2 g3 h3
  obtain ⟨a0, a1, a2, a3, a4, a5, _, _⟩ := id X3
  go_wp2_with fail
  refine (wk_der2 _).mono ?_
  rintro e w4 ⟨rfl, g4⟩
  clear a0 a1 a2 a3 a4 a5
  go_upto_region 6 with fail
  obtain ⟨W4, hW4, Z4, h4⟩ := boxNew w4 ⟨4, 3, 1, 7, 0, 0⟩
  simp only at hW4
  rw [hW4]
  clear hW4
  have X4 := (X3.kept g4).kept h4
  have Y4 := (Y3.kept g4).kept h4
  have G4 := gbTrans (gbTrans G3 g4) h4
  clear X3 Y3 G3 g4 h4
  obtain ⟨a0, a1, a2, a3, a4, a5, _, _⟩ := id X4
  obtain ⟨b0, b1, b2, b3, b4, b5, _, _⟩ := id Y4
  obtain ⟨c0, c1, c2, c3, c4, c5, _, _⟩ := id Z4
  have he : M.eq ⟨4, 3, 3, 7, 0, 0⟩ ⟨4, 3, 3, 7, 0, 0⟩ = true := M.eq_refl _
  go_wp2_with fail
  refine (wk_less _).mono ?_
  rintro e w5 ⟨rfl, g5⟩
  clear a0 a1 a2 a3 a4 a5 b0 b1 b2 b3 b4 b5 c0 c1 c2 c3 c4 c5
  obtain ⟨a0, a1, a2, a3, a4, a5, _, _⟩ := X4.kept g5
  obtain ⟨c0, c1, c2, c3, c4, c5, _, _⟩ := Z4.kept g5
  have G5 := gbTrans G4 g5
  go_wp2_with fail
  refine (wk_more _).mono ?_
  rintro e w6 ⟨rfl, g6⟩
  have G6 := gbTrans G5 g6
  go_wp2_with fail
  refine (wk_check _).mono ?_
  rintro e w7 ⟨rfl, g7⟩
  have G7 := gbTrans G6 g7
  go_wp2
  go_ret
  exact ⟨rfl, G7⟩
end Go.Proofs.Ytkgjcolimceogab
