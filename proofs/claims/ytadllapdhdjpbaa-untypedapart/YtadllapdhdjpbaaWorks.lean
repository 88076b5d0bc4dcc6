/-
  THE LAW'S OWN FIRST QUESTION (works): the chapter's example comes out as it says.
-/
import Derived.Test.YtadllapdhdjpbaaPlan
import Derived.Test.YtadllapdhdjpbaaSame
namespace Go.Proofs.Ytadllapdhdjpbaa
open Go.RowKit

/-- A list that is written out in the text. -/
theorem Lst.lit (w : World) (cs : Array Value) (L : List (Int × Int)) (h : cs.toList = cellsL L) (hn : L.length ≤ 1000000) : Lst (w.alloc (.cells cs 23)) w.heap.size (.slice (some ⟨w.heap.size, 0, none⟩) L.length L.length) L := by
  have := World.ownsRow_lit (base := w.heap.size) (e := 23) (size := 2) w cs L.length (Nat.le_refl _) (by unfold maxLen; omega) (by rw [← Array.length_toList, h, cellsL_len])
  rw [h] at this
  exact this

theorem M.pln1 : M.pln 64 6 1 3 0 2 = ([(80, 4), (96, 4)], 48, 0) := by decide +kernel
theorem M.pln2 : M.pln 64 6 48 4 0 1 = ([(112, 1)], 50, 0) := by decide +kernel
theorem M.pln3 : M.pln 64 6 50 3 0 1 = ([], 0, 7) := by decide +kernel
theorem M.lft1 : M.lft 64 6 50 = 14 := by decide +kernel

set_option maxHeartbeats 2000000 in
theorem works_any (w : World) : Calls Try.prog 15 #[] w fun e w' => e = .returned (.bool true) ∧ w.grownBy w' none := by
  go_enter Try.func15, Try.ntmps15
  go_wp2_with fail
  obtain ⟨W0, hW0, S0, g0⟩ := boxNew w 64 6
  rw [hW0]
  clear hW0
  refine (plan_is 64 6 1 3 0 2 48 0 _ M.pln1 _).mono ?_
  rintro e w1 ⟨v1, rfl, H1, g1⟩
  have H1 : Hid (Lst w1 W0.heap.size v1 [(80, 4), (96, 4)]) := H1
  have S1 := S0.kept g1
  have s0 := S1.at0
  have s1 := S1.at1
  go_wp2_with fail
  refine (plan_is 64 6 48 4 0 1 50 0 _ M.pln2 _).mono ?_
  rintro e w2 ⟨v2, rfl, H2, g2⟩
  have H2 : Hid (Lst w2 w1.heap.size v2 [(112, 1)]) := H2
  have S2 := S1.kept g2
  clear s0 s1
  have s0 := S2.at0
  have s1 := S2.at1
  go_wp2_with fail
  refine (plan_is 64 6 50 3 0 1 0 7 _ M.pln3 _).mono ?_
  rintro e w3 ⟨v3, rfl, H3, g3⟩
  have S3 := S2.kept g3
  have G3 := gbTrans (gbTrans (gbTrans g0 g1) g2) g3
  have K1 := hideIt ((H1.out.kept g2).kept g3)
  have K2 := hideIt (H2.out.kept g3)
  clear s0 s1 H1 H2 H3
  have s0 := S3.at0
  have s1 := S3.at1
  go_wp2_with fail
  refine (same_lst _ W0.heap.size w3.heap.size v1 _ [(80, 4), (96, 4)] (K1.out.kept (gbAlloc _ _ _)) (Lst.lit w3 _ _ rfl (by decide))).mono ?_
  rintro e w4 ⟨rfl, g4⟩
  have g4 := gbTrans (gbAlloc w3 _ none) g4
  have S4 := S3.kept g4
  have K4 := hideIt (K2.out.kept g4)
  clear s0 s1
  have s0 := S4.at0
  have s1 := S4.at1
  go_wp2_with fail
  refine (same_lst _ w1.heap.size w4.heap.size v2 _ [(112, 1)] (K4.out.kept (gbAlloc _ _ _)) (Lst.lit w4 _ _ rfl (by decide))).mono ?_
  rintro e w5 ⟨rfl, g5⟩
  have g5 := gbTrans (gbAlloc w4 _ none) g5
  have S5 := S4.kept g5
  clear s0 s1
  have s0 := S5.at0
  have s1 := S5.at1
  go_wp2_with fail
  refine (left_is 64 6 50 14 M.lft1 _).mono ?_
  rintro e w6 ⟨rfl, g6⟩
  go_wp2
  go_ret
  exact ⟨rfl, gbTrans (gbTrans (gbTrans G3 g4) g5) g6⟩

end Go.Proofs.Ytadllapdhdjpbaa
