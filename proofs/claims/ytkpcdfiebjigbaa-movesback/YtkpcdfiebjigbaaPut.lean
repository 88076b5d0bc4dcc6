/-
  THE CONTRACTS of package slots: Get, Put, Take.
-/
import Derived.Test.YtkpcdfiebjigbaaFind
namespace Go.Proofs.Ytkpcdfiebjigbaa
set_option maxRecDepth 10000
open Go.RowKit
set_option linter.unusedVariables false

/-- Both parameters, laid. -/
theorem twoNew (w : World) (n i : Int) (c : C) : ∃ W, (w.alloc (.cells #[.int .i64 n, .int .i64 i] 29)).alloc (.cells #[.int .i64 c.k, .int .i64 c.o, .int .i64 c.r, .int .u64 c.b, .int .u64 c.g, .int .i64 c.n] 32) = W ∧
    SBox W w.heap.size n i ∧ Box W (w.heap.size + 1) c ∧ w.grownBy W none :=
  ⟨_, rfl, (SBox.made w n i).kept (gbAlloc _ _ _), by simpa using Box.made (w.alloc (.cells #[.int .i64 n, .int .i64 i] 29)) c, gbTrans (gbAlloc _ _ _) (gbAlloc _ _ _)⟩

abbrev gFind (w : World) (p : Nat) (n i : Int) (v : Value) : Prop := ∀ W, w.grownBy W none → Calls Try.prog 41 #[.pointer (some ⟨p, 0, none⟩), sv n i] W fun e w' => e = .returned v ∧ W.grownBy w' none

set_option maxHeartbeats 400000 in
theorem put_no (w : World) (p : Nat) (n i k o r b g t : Int) (HF : gFind w p n i (.pointer none)) :
    Calls Try.prog 30 #[.pointer (some ⟨p, 0, none⟩), sv n i, cv ⟨k, o, r, b, g, t⟩] w fun e w' => e = .returned (.int .i64 6) ∧ w.grownBy w' none := by
  go_enter Try.func30, Try.ntmps30
  go_upto_region 1 with fail
  obtain ⟨W, hW, X, Y, g0⟩ := twoNew w n i ⟨k, o, r, b, g, t⟩
  simp only at hW
  rw [hW]
  clear hW
  have x0 := X.at0
  have x1 := X.at1
  go_wp2_with fail
  refine (HF _ g0).mono ?_
  rintro _ w1 ⟨rfl, g1⟩
  go_wp2
  go_ret
  exact ⟨rfl, gbTrans g0 g1⟩

set_option maxHeartbeats 400000 in
theorem put_chk (w : World) (p q a : Nat) (n i k o r b g t v : Int) (HF : gFind w p n i (.pointer (some ⟨q, a, none⟩))) (hv : (v != 0) = true)
    (HC : ∀ w, Calls Try.prog 46 #[cv ⟨k, o, r, b, g, t⟩] w fun e w' => e = .returned (.int .i64 v) ∧ w.grownBy w' none) :
    Calls Try.prog 30 #[.pointer (some ⟨p, 0, none⟩), sv n i, cv ⟨k, o, r, b, g, t⟩] w fun e w' => e = .returned (.int .i64 v) ∧ w.grownBy w' none := by
  go_enter Try.func30, Try.ntmps30
  go_upto_region 1 with fail
  obtain ⟨W, hW, X, Y, g0⟩ := twoNew w n i ⟨k, o, r, b, g, t⟩
  simp only at hW
  rw [hW]
  clear hW
  have x0 := X.at0
  have x1 := X.at1
  go_wp2_with fail
  refine (HF _ g0).mono ?_
  rintro _ w1 ⟨rfl, g1⟩
  obtain ⟨y0, y1, y2, y3, y4, y5, _, _⟩ := Y.kept g1
  clear x0 x1
  go_wp2_with fail
  refine (HC _).mono ?_
  rintro _ w2 ⟨rfl, g2⟩
  go_wp2
  go_ret
  exact ⟨rfl, gbTrans g0 (gbTrans g1 g2)⟩

set_option maxHeartbeats 400000 in
theorem put_null (w : World) (p q a : Nat) (n i k o r b g t : Int) (HF : gFind w p n i (.pointer (some ⟨q, a, none⟩))) (hk : (k == 0) = true)
    (HC : ∀ w, Calls Try.prog 46 #[cv ⟨k, o, r, b, g, t⟩] w fun e w' => e = .returned (.int .i64 0) ∧ w.grownBy w' none) :
    Calls Try.prog 30 #[.pointer (some ⟨p, 0, none⟩), sv n i, cv ⟨k, o, r, b, g, t⟩] w fun e w' => e = .returned (.int .i64 3) ∧ w.grownBy w' none := by
  have HE := fun w => empty_is k o r b g t true hk w
  clear hk
  go_enter Try.func30, Try.ntmps30
  go_upto_region 1 with fail
  obtain ⟨W, hW, X, Y, g0⟩ := twoNew w n i ⟨k, o, r, b, g, t⟩
  simp only at hW
  rw [hW]
  clear hW
  have x0 := X.at0
  have x1 := X.at1
  go_wp2_with fail
  refine (HF _ g0).mono ?_
  rintro _ w1 ⟨rfl, g1⟩
  obtain ⟨y0, y1, y2, y3, y4, y5, _, _⟩ := Y.kept g1
  clear x0 x1
  go_wp2_with fail
  refine (HC _).mono ?_
  rintro _ w2 ⟨rfl, g2⟩
  clear y0 y1 y2 y3 y4 y5
  obtain ⟨y0, y1, y2, y3, y4, y5, _, _⟩ := Y.kept (gbTrans g1 g2)
  go_wp2_with fail
  refine (HE _).mono ?_
  rintro _ w3 ⟨rfl, g3⟩
  go_wp2
  go_ret
  exact ⟨rfl, gbTrans g0 (gbTrans g1 (gbTrans g2 g3))⟩

set_option maxHeartbeats 400000 in
theorem put_twice (w : World) (p q a : Nat) (n i k o r b g t k' o' r' b' g' t' : Int) (HF : gFind w p n i (.pointer (some ⟨q, a, none⟩))) (hk : (k == 0) = false) (hk' : (k' == 0) = false) (Z : Cell6 w q a ⟨k', o', r', b', g', t'⟩)
    (HC : ∀ w, Calls Try.prog 46 #[cv ⟨k, o, r, b, g, t⟩] w fun e w' => e = .returned (.int .i64 0) ∧ w.grownBy w' none) :
    Calls Try.prog 30 #[.pointer (some ⟨p, 0, none⟩), sv n i, cv ⟨k, o, r, b, g, t⟩] w fun e w' => e = .returned (.int .i64 4) ∧ w.grownBy w' none := by
  have HE := fun w => empty_is k o r b g t false hk w
  have HE' := fun w => empty_is k' o' r' b' g' t' false hk' w
  clear hk hk'
  go_enter Try.func30, Try.ntmps30
  go_upto_region 1 with fail
  obtain ⟨W, hW, X, Y, g0⟩ := twoNew w n i ⟨k, o, r, b, g, t⟩
  simp only at hW
  rw [hW]
  clear hW
  have x0 := X.at0
  have x1 := X.at1
  go_wp2_with fail
  refine (HF _ g0).mono ?_
  rintro _ w1 ⟨rfl, g1⟩
  obtain ⟨y0, y1, y2, y3, y4, y5, _, _⟩ := Y.kept g1
  clear x0 x1
  go_wp2_with fail
  refine (HC _).mono ?_
  rintro _ w2 ⟨rfl, g2⟩
  clear y0 y1 y2 y3 y4 y5
  obtain ⟨y0, y1, y2, y3, y4, y5, _, _⟩ := Y.kept (gbTrans g1 g2)
  go_wp2_with fail
  refine (HE _).mono ?_
  rintro _ w3 ⟨rfl, g3⟩
  clear y0 y1 y2 y3 y4 y5
  have G3 := gbTrans g0 (gbTrans g1 (gbTrans g2 g3))
  obtain ⟨y0, y1, y2, y3, y4, y5, _⟩ := Z.kept G3
  go_wp2_with fail
  refine (HE' _).mono ?_
  rintro _ w4 ⟨rfl, g4⟩
  go_wp2
  go_ret
  exact ⟨rfl, gbTrans G3 g4⟩

set_option maxHeartbeats 1000000 in
theorem put_yes (w : World) (p q a : Nat) (n i k o r b g t k' o' r' b' g' t' : Int) (HF : gFind w p n i (.pointer (some ⟨q, a, none⟩))) (hk : (k == 0) = false) (hk' : (k' == 0) = true) (Z : Cell6 w q a ⟨k', o', r', b', g', t'⟩)
    (HC : ∀ w, Calls Try.prog 46 #[cv ⟨k, o, r, b, g, t⟩] w fun e w' => e = .returned (.int .i64 0) ∧ w.grownBy w' none) :
    Calls Try.prog 30 #[.pointer (some ⟨p, 0, none⟩), sv n i, cv ⟨k, o, r, b, g, t⟩] w fun e w' => e = .returned (.int .i64 0) ∧ ∃ W, w.grownBy W none ∧ Put6 W w' q a ⟨k, o, r, b, g, t⟩ := by
  have HE := fun w => empty_is k o r b g t false hk w
  have HE' := fun w => empty_is k' o' r' b' g' t' true hk' w
  clear hk hk'
  go_enter Try.func30, Try.ntmps30
  go_upto_region 1 with fail
  obtain ⟨W, hW, X, Y, g0⟩ := twoNew w n i ⟨k, o, r, b, g, t⟩
  simp only at hW
  rw [hW]
  clear hW
  have x0 := X.at0
  have x1 := X.at1
  go_wp2_with fail
  refine (HF _ g0).mono ?_
  rintro _ w1 ⟨rfl, g1⟩
  obtain ⟨y0, y1, y2, y3, y4, y5, _, _⟩ := Y.kept g1
  clear x0 x1
  go_wp2_with fail
  refine (HC _).mono ?_
  rintro _ w2 ⟨rfl, g2⟩
  clear y0 y1 y2 y3 y4 y5
  obtain ⟨y0, y1, y2, y3, y4, y5, _, _⟩ := Y.kept (gbTrans g1 g2)
  go_wp2_with fail
  refine (HE _).mono ?_
  rintro _ w3 ⟨rfl, g3⟩
  clear y0 y1 y2 y3 y4 y5
  have G3 := gbTrans g0 (gbTrans g1 (gbTrans g2 g3))
  obtain ⟨y0, y1, y2, y3, y4, y5, _⟩ := Z.kept G3
  go_wp2_with fail
  refine (HE' _).mono ?_
  rintro _ w4 ⟨rfl, g4⟩
  clear y0 y1 y2 y3 y4 y5
  have G4 := gbTrans G3 g4
  obtain ⟨y0, y1, y2, y3, y4, y5, _, _⟩ := Y.kept (gbTrans g1 (gbTrans g2 (gbTrans g3 g4)))
  obtain ⟨z0, z1, z2, z3, z4, z5, zf⟩ := Z.kept G4
  have f0 := zf a
  have f1 := zf (a + 1)
  have f2 := zf (a + 2)
  have f3 := zf (a + 3)
  have f4 := zf (a + 4)
  have f5 := zf (a + 5)
  clear zf
  go_upto_region 12 with fail
  go_wp2
  go_ret
  exact ⟨rfl, w4, G4, rfl⟩

end Go.Proofs.Ytkpcdfiebjigbaa
