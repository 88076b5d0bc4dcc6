/-
  THE LAW'S OWN FIRST QUESTION (works): the chapter's example comes out as it says.
-/
import Derived.Test.YthjbihbaccnmcabCov
import Derived.Test.YthjbihbaccnmcabSame
import Derived.Test.YthjbihbaccnmcabAll
import Derived.Laws.OwnMore
namespace Go.Proofs.Ythjbihbaccnmcab
open Go.RowKit

theorem check_is (A B n r : Int) (h : M.chk A B n = r) (w : World) :
    Calls Try.prog 9 #[sp A B, .int .i64 n] w fun e w' => e = .returned (.int .i64 r) ∧ w.grownBy w' none := by
  subst h; exact check_any A B n w
theorem has_is (A B x : Int) (v : Bool) (h : M.has A B x = v) (w : World) :
    Calls Try.prog 6 #[sp A B, .int .i64 x] w fun e w' => e = .returned (.bool v) ∧ w.grownBy w' none := by
  subst h; exact has_any A B x w
theorem cover39 : M.cover 9 3 = [(3, 0), (4, 2), (8, 0)] := by
  have e1 : M.lng 3 9 = 0 := by decide
  have e2 : M.lng 4 9 = 2 := by decide
  have e3 : M.lng 8 9 = 0 := by decide
  rw [M.cover_lt (by decide), e1, M.cover_lt (by decide), e2, M.cover_lt (by decide), e3, M.cover_end (by decide)]
  rfl

/-- A list that is written out in the text. -/
theorem Lst.lit (w : World) (cs : Array Value) (L : List (Int × Int)) (h : cs.toList = cellsL L) (hn : L.length ≤ 1000000) : Lst (w.alloc (.cells cs 23)) w.heap.size (.slice (some ⟨w.heap.size, 0, none⟩) L.length L.length) L := by
  have := World.ownsRow_lit (base := w.heap.size) (e := 23) (size := 2) w cs L.length (Nat.le_refl _) (by unfold maxLen; omega) (by rw [← Array.length_toList, h, cellsL_len])
  rw [h] at this
  exact this

set_option maxHeartbeats 2000000 in
theorem works_any (w : World) : Calls Try.prog 4 #[] w fun e w' => e = .returned (.bool true) ∧ w.grownBy w' none := by
  have HH := fun w => halves_yes 8 2 4 3 w rfl (by omega) rfl (by decide)
  go_enter Try.func4, Try.ntmps4
  go_wp2_with fail
  obtain ⟨W0, hW0, S0, g0⟩ := boxNew w 8 3
  rw [hW0]
  clear hW0
  refine (cover_yes 3 9 _ (by omega) (by omega)).mono ?_
  rintro e w1 ⟨v, rfl, HL1, g1⟩
  rw [cover39] at HL1
  have HL1 : Hid (Lst w1 W0.heap.size v [(3, 0), (4, 2), (8, 0)]) := HL1
  have S1 := S0.kept g1
  have s0 := S1.at0
  have s1 := S1.at1
  go_wp2_with fail
  refine (HH _).mono ?_
  rintro e w2 ⟨rfl, g2⟩
  obtain ⟨A2, B2⟩ := boxTwo w2 8 2 12 2
  have S2 := (S1.kept g2).kept (gbTwo w2 (.cells #[.int .i64 8, .int .i64 2] 23) (.cells #[.int .i64 12, .int .i64 2] 23) none)
  have G2 := gbTrans (gbTrans (gbTrans g0 g1) g2) (gbTwo w2 (.cells #[.int .i64 8, .int .i64 2] 23) (.cells #[.int .i64 12, .int .i64 2] 23) none)
  have HL2 : Hid (Lst ((w2.alloc (.cells #[.int .i64 8, .int .i64 2] 23)).alloc (.cells #[.int .i64 12, .int .i64 2] 23)) W0.heap.size v [(3, 0), (4, 2), (8, 0)]) := hideIt ((HL1.out.kept g2).kept (gbTwo _ _ _ _))
  have l1 := (S1.kept g2).lt
  have s0 := (S1.kept g2).at0
  have s1 := (S1.kept g2).at1
  clear HL1
  go_wp2_with fail
  refine (check_is 8 3 16 0 (by decide) _).mono ?_
  rintro e w3 ⟨rfl, g3⟩
  have S3 := S2.kept g3
  have A3 := A2.kept g3
  have B3 := B2.kept g3
  have G3 := gbTrans G2 g3
  have HL3 : Hid (Lst w3 W0.heap.size v [(3, 0), (4, 2), (8, 0)]) := hideIt (HL2.out.kept g3)
  clear s0 s1
  have s0 := S3.at0
  have s1 := S3.at1
  have a0 := A3.at0
  have a1 := A3.at1
  have b0 := B3.at0
  have b1 := B3.at1
  clear S2 A2 B2
  have l1 := S3.lt
  have l2 := A3.lt
  have l3 := B3.lt
  go_wp2_with fail
  refine (check_is 8 3 15 7 (by decide) _).mono ?_
  rintro e w4 ⟨rfl, g4⟩
  have S4 := S3.kept g4
  have A4 := A3.kept g4
  have B4 := B3.kept g4
  have G4 := gbTrans G3 g4
  have HL4 : Hid (Lst w4 W0.heap.size v [(3, 0), (4, 2), (8, 0)]) := hideIt (HL3.out.kept g4)
  clear s0 s1 a0 a1 b0 b1
  have s0 := S4.at0
  have s1 := S4.at1
  have a0 := A4.at0
  have a1 := A4.at1
  have b0 := B4.at0
  have b1 := B4.at1
  clear S3 A3 B3
  have l1 := S4.lt
  have l2 := A4.lt
  have l3 := B4.lt
  go_wp2_with fail
  refine (check_is 4 3 99 9 (by decide) _).mono ?_
  rintro e w5 ⟨rfl, g5⟩
  have S5 := S4.kept g5
  have A5 := A4.kept g5
  have B5 := B4.kept g5
  have G5 := gbTrans G4 g5
  have HL5 : Hid (Lst w5 W0.heap.size v [(3, 0), (4, 2), (8, 0)]) := hideIt (HL4.out.kept g5)
  clear s0 s1 a0 a1 b0 b1
  have s0 := S5.at0
  have s1 := S5.at1
  have a0 := A5.at0
  have a1 := A5.at1
  have b0 := B5.at0
  have b1 := B5.at1
  clear S4 A4 B4
  have l1 := S5.lt
  have l2 := A5.lt
  have l3 := B5.lt
  go_wp2_with fail
  refine (has_is 8 3 15 true (by decide) _).mono ?_
  rintro e w6 ⟨rfl, g6⟩
  have S6 := S5.kept g6
  have A6 := A5.kept g6
  have B6 := B5.kept g6
  have G6 := gbTrans G5 g6
  have HL6 : Hid (Lst w6 W0.heap.size v [(3, 0), (4, 2), (8, 0)]) := hideIt (HL5.out.kept g6)
  clear s0 s1 a0 a1 b0 b1
  have s0 := S6.at0
  have s1 := S6.at1
  have a0 := A6.at0
  have a1 := A6.at1
  have b0 := B6.at0
  have b1 := B6.at1
  clear S5 A5 B5
  have l1 := S6.lt
  have l2 := A6.lt
  have l3 := B6.lt
  go_wp2_with fail
  refine (has_is 8 3 16 false (by decide) _).mono ?_
  rintro e w7 ⟨rfl, g7⟩
  have S7 := S6.kept g7
  have A7 := A6.kept g7
  have B7 := B6.kept g7
  have G7 := gbTrans G6 g7
  have HL7 : Hid (Lst w7 W0.heap.size v [(3, 0), (4, 2), (8, 0)]) := hideIt (HL6.out.kept g7)
  clear s0 s1 a0 a1 b0 b1
  have s0 := S7.at0
  have s1 := S7.at1
  have a0 := A7.at0
  have a1 := A7.at1
  have b0 := B7.at0
  have b1 := B7.at1
  clear S6 A6 B6
  have l1 := S7.lt
  have l2 := A7.lt
  have l3 := B7.lt
  go_wp2_with fail
  refine (same_lst _ W0.heap.size w7.heap.size v _ [(3, 0), (4, 2), (8, 0)] (HL7.out.kept (gbAlloc _ _ _)) (Lst.lit w7 _ _ rfl (by decide))).mono ?_
  rintro e w8 ⟨rfl, g8⟩
  have g8 := gbTrans (gbAlloc w7 _ none) g8
  have S8 := S7.kept g8
  have A8 := A7.kept g8
  have B8 := B7.kept g8
  have G8 := gbTrans G7 g8
  clear s0 s1 a0 a1 b0 b1
  have s0 := S8.at0
  have s1 := S8.at1
  have a0 := A8.at0
  have a1 := A8.at1
  have b0 := B8.at0
  have b1 := B8.at1
  clear S7 A7 B7
  have l1 := S8.lt
  have l2 := A8.lt
  have l3 := B8.lt
  go_wp2_with fail
  refine (apart_is 8 2 12 2 true (by decide) _).mono ?_
  rintro e w9 ⟨rfl, g9⟩
  have S9 := S8.kept g9
  have A9 := A8.kept g9
  have B9 := B8.kept g9
  have G9 := gbTrans G8 g9
  clear s0 s1 a0 a1 b0 b1
  have s0 := S9.at0
  have s1 := S9.at1
  have a0 := A9.at0
  have a1 := A9.at1
  have b0 := B9.at0
  have b1 := B9.at1
  clear S8 A8 B8
  have l1 := S9.lt
  have l2 := A9.lt
  have l3 := B9.lt
  go_wp2_with fail
  refine (all_lst _ w9.heap.size _ [(8, 2), (12, 2)] true (Lst.lit w9 _ _ rfl (by decide)) (by decide)).mono ?_
  rintro e w10 ⟨rfl, g10⟩
  have g10 := gbTrans (gbAlloc w9 _ none) g10
  have S10 := S9.kept g10
  have A10 := A9.kept g10
  have B10 := B9.kept g10
  have G10 := gbTrans G9 g10
  clear s0 s1 a0 a1 b0 b1
  have s0 := S10.at0
  have s1 := S10.at1
  have a0 := A10.at0
  have a1 := A10.at1
  have b0 := B10.at0
  have b1 := B10.at1
  clear S9 A9 B9
  have l1 := S10.lt
  have l2 := A10.lt
  have l3 := B10.lt
  go_wp2_with fail
  refine (all_lst _ w10.heap.size _ [(8, 2), (8, 2)] false (Lst.lit w10 _ _ rfl (by decide)) (by decide)).mono ?_
  rintro e w11 ⟨rfl, g11⟩
  have g11 := gbTrans (gbAlloc w10 _ none) g11
  have S11 := S10.kept g11
  have A11 := A10.kept g11
  have B11 := B10.kept g11
  have G11 := gbTrans G10 g11
  clear s0 s1 a0 a1 b0 b1
  have s0 := S11.at0
  have s1 := S11.at1
  have a0 := A11.at0
  have a1 := A11.at1
  have b0 := B11.at0
  have b1 := B11.at1
  clear S10 A10 B10
  have l1 := S11.lt
  have l2 := A11.lt
  have l3 := B11.lt
  go_wp2
  go_ret
  exact ⟨rfl, G11⟩

end Go.Proofs.Ythjbihbaccnmcab
