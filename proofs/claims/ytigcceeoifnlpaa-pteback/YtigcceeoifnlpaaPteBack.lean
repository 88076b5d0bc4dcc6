/- PteBack (12.2): an entry in a word is the same entry again, a word the same word again, and the three places make the address. For every input; no condition. -/
import Derived.Test.YtigcceeoifnlpaaArgs
import Derived.Deep.Cut
import Derived.Test.YtigcceeoifnlpaaArgs
import Derived.ProofKit
import Derived.OpenShut
import Derived.ShutString
import Derived.ChangeOld
import Derived.Below
import Derived.Deep.Slices
namespace Go.Proofs.Ytigcceeoifnlpaa.pteBack
open Go.ChangeShapes Go.WideShapes Go.ChangeAt Go.RowKit
set_option linter.unusedVariables false

theorem own : ownKnob Try.prog.godebug = none := by kernel_rfl
theorem laidOut : laidOutB Try.prog = true := by kernel_rfl

set_option maxHeartbeats 2000000 in
theorem back_yyy (v o : Bool) (a W A : Int) (y1 y2 y3 : Int) (x : Int) (d0 d1 : Bool) (d2 : Int) (p q r : Nat) (lp : p < 16) (lq : q < 16) (lr : r < 16) (p1 : 256 * (p : Int) = y1) (q1 : 16 * (q : Int) = y2) (pq : y1 + y2 = y3) (hs : y3 + (r : Int) = A) (ly1 : y1 ≤ 3840) (ly2 : y2 ≤ 240) (ky1 : 0 ≤ y1) (ky2 : 0 ≤ y2) (ly3 : y3 ≤ 4080) (ky3 : 0 ≤ y3)
    (HT : ∀ w, Calls Try.prog 7 #[ev ⟨v, o, a⟩] w fun e w' => e = .returned (ev ⟨v, o, a⟩) ∧ w.grownBy w' none)
    (HP : ∀ w, Calls Try.prog 6 #[ev ⟨v, o, a⟩] w fun e w' => e = .returned (.tuple #[.int .u64 x, .int .i64 0]) ∧ w.grownBy w' none)
    (HX : ∀ w, Calls Try.prog 9 #[.int .u64 x] w fun e w' => e = .returned (.tuple #[ev ⟨v, o, a⟩, .int .i64 0]) ∧ w.grownBy w' none)
    (HU : ∀ w, Calls Try.prog 9 #[.int .u64 W] w fun e w' => e = .returned (.tuple #[ev ⟨d0, d1, d2⟩, .int .i64 0]) ∧ w.grownBy w' none)
    (HV : ∀ w, Calls Try.prog 6 #[ev ⟨d0, d1, d2⟩] w fun e w' => e = .returned (.tuple #[.int .u64 W, .int .i64 0]) ∧ w.grownBy w' none)
    (HS : ∀ w, Calls Try.prog 11 #[.int .i64 A] w fun e w' => e = .returned (.tuple #[.int .i64 p, .int .i64 q, .int .i64 r, .int .i64 0]) ∧ w.grownBy w' none) (w : World) :
    Calls Try.prog 4 #[ev ⟨v, o, a⟩, .int .u64 W, .int .i64 A] w fun e w' => e = .returned (.bool true) ∧ w.grownBy w' none := by
  have qe := eqGuard_p
  have qn := run_neq_p
  have he : M.eq ⟨v, o, a⟩ ⟨v, o, a⟩ = true := M.eq_refl _
  go_enter Try.func4, Try.ntmps4
  go_upto_region 1 with fail
  obtain ⟨W0, hW0, X, G⟩ := boxNew w ⟨v, o, a⟩ 23
  simp only at hW0
  rw [hW0]
  clear hW0
  go_wp2_with fail
  refine (works_any _).mono ?_
  rintro e w1 ⟨rfl, g1⟩
  replace X := X.kept g1
  replace G := gbTrans G g1
  clear g1
  obtain ⟨a0, a1, a2, _, _⟩ := id X
  go_wp2_with fail
  refine (HT _).mono ?_
  rintro e w2 ⟨rfl, g2⟩
  replace X := X.kept g2
  replace G := gbTrans G g2
  clear g2
  clear a0 a1 a2
  go_wp2_with fail
  refine (HP _).mono ?_
  rintro e w3 ⟨rfl, g3⟩
  replace X := X.kept g3
  replace G := gbTrans G g3
  clear g3
  go_wp2_with fail
  refine (HX _).mono ?_
  rintro e w4 ⟨rfl, g4⟩
  replace X := X.kept g4
  replace G := gbTrans G g4
  clear g4
  go_upto_region 6 with fail
  obtain ⟨W4, hW4, Y, k4⟩ := boxNew w4 ⟨v, o, a⟩ 28
  simp only at hW4
  rw [hW4]
  clear hW4
  replace X := X.kept k4
  replace G := gbTrans G k4
  clear k4
  obtain ⟨x0, x1, x2⟩ := X.all
  obtain ⟨y0, y1', y2'⟩ := Y.all
  simp only at x0 x1 x2 y0 y1' y2'
  clear X Y
  refine wp_region_grown (by kernel_rfl) (by kernel_rfl) fun _ => ?_
  repeat (go_big_quiet_step ((go_at_call 7; with_reducible exact callsGr (HT _))))
  refine wpQuiet_nil ?_
  rintro w5 ⟨⟨_, g5⟩, rfl⟩
  clear x0 x1 x2 y0 y1' y2' qe qn he
  replace G := gbTrans G g5
  clear g5
  go_wp2_with fail
  refine (HU _).mono ?_
  rintro e w6 ⟨rfl, g6⟩
  replace G := gbTrans G g6
  clear g6
  go_upto_region 9 with fail
  obtain ⟨W6, hW6, Z, k6⟩ := boxNew w6 ⟨d0, d1, d2⟩ 28
  simp only at hW6
  rw [hW6]
  clear hW6
  replace G := gbTrans G k6
  clear k6
  obtain ⟨z0, z1, z2, _, _⟩ := Z
  go_wp2_with fail
  refine (HV _).mono ?_
  rintro e w7 ⟨rfl, g7⟩
  replace G := gbTrans G g7
  clear g7
  clear z0 z1 z2
  go_wp2_with fail
  refine (HS _).mono ?_
  rintro e w8 ⟨rfl, g8⟩
  replace G := gbTrans G g8
  clear g8
  go_wp2
  go_ret
  exact ⟨ret_bool (decide_eq_true (by omega)), G⟩

set_option maxHeartbeats 2000000 in
theorem back_yyn (v o : Bool) (a W A : Int) (x : Int) (d0 d1 : Bool) (d2 : Int) (hA : A < 0 ∨ 4095 < A)
    (HT : ∀ w, Calls Try.prog 7 #[ev ⟨v, o, a⟩] w fun e w' => e = .returned (ev ⟨v, o, a⟩) ∧ w.grownBy w' none)
    (HP : ∀ w, Calls Try.prog 6 #[ev ⟨v, o, a⟩] w fun e w' => e = .returned (.tuple #[.int .u64 x, .int .i64 0]) ∧ w.grownBy w' none)
    (HX : ∀ w, Calls Try.prog 9 #[.int .u64 x] w fun e w' => e = .returned (.tuple #[ev ⟨v, o, a⟩, .int .i64 0]) ∧ w.grownBy w' none)
    (HU : ∀ w, Calls Try.prog 9 #[.int .u64 W] w fun e w' => e = .returned (.tuple #[ev ⟨d0, d1, d2⟩, .int .i64 0]) ∧ w.grownBy w' none)
    (HV : ∀ w, Calls Try.prog 6 #[ev ⟨d0, d1, d2⟩] w fun e w' => e = .returned (.tuple #[.int .u64 W, .int .i64 0]) ∧ w.grownBy w' none)
    (HS : ∀ w, Calls Try.prog 11 #[.int .i64 A] w fun e w' => e = .returned (.tuple #[.int .i64 0, .int .i64 0, .int .i64 0, .int .i64 1]) ∧ w.grownBy w' none) (w : World) :
    Calls Try.prog 4 #[ev ⟨v, o, a⟩, .int .u64 W, .int .i64 A] w fun e w' => e = .returned (.bool true) ∧ w.grownBy w' none := by
  have qe := eqGuard_p
  have qn := run_neq_p
  have he : M.eq ⟨v, o, a⟩ ⟨v, o, a⟩ = true := M.eq_refl _
  go_enter Try.func4, Try.ntmps4
  go_upto_region 1 with fail
  obtain ⟨W0, hW0, X, G⟩ := boxNew w ⟨v, o, a⟩ 23
  simp only at hW0
  rw [hW0]
  clear hW0
  go_wp2_with fail
  refine (works_any _).mono ?_
  rintro e w1 ⟨rfl, g1⟩
  replace X := X.kept g1
  replace G := gbTrans G g1
  clear g1
  obtain ⟨a0, a1, a2, _, _⟩ := id X
  go_wp2_with fail
  refine (HT _).mono ?_
  rintro e w2 ⟨rfl, g2⟩
  replace X := X.kept g2
  replace G := gbTrans G g2
  clear g2
  clear a0 a1 a2
  go_wp2_with fail
  refine (HP _).mono ?_
  rintro e w3 ⟨rfl, g3⟩
  replace X := X.kept g3
  replace G := gbTrans G g3
  clear g3
  go_wp2_with fail
  refine (HX _).mono ?_
  rintro e w4 ⟨rfl, g4⟩
  replace X := X.kept g4
  replace G := gbTrans G g4
  clear g4
  go_upto_region 6 with fail
  obtain ⟨W4, hW4, Y, k4⟩ := boxNew w4 ⟨v, o, a⟩ 28
  simp only at hW4
  rw [hW4]
  clear hW4
  replace X := X.kept k4
  replace G := gbTrans G k4
  clear k4
  obtain ⟨x0, x1, x2⟩ := X.all
  obtain ⟨y0, y1', y2'⟩ := Y.all
  simp only at x0 x1 x2 y0 y1' y2'
  clear X Y
  refine wp_region_grown (by kernel_rfl) (by kernel_rfl) fun _ => ?_
  repeat (go_big_quiet_step ((go_at_call 7; with_reducible exact callsGr (HT _))))
  refine wpQuiet_nil ?_
  rintro w5 ⟨⟨_, g5⟩, rfl⟩
  clear x0 x1 x2 y0 y1' y2' qe qn he
  replace G := gbTrans G g5
  clear g5
  go_wp2_with fail
  refine (HU _).mono ?_
  rintro e w6 ⟨rfl, g6⟩
  replace G := gbTrans G g6
  clear g6
  go_upto_region 9 with fail
  obtain ⟨W6, hW6, Z, k6⟩ := boxNew w6 ⟨d0, d1, d2⟩ 28
  simp only at hW6
  rw [hW6]
  clear hW6
  replace G := gbTrans G k6
  clear k6
  obtain ⟨z0, z1, z2, _, _⟩ := Z
  go_wp2_with fail
  refine (HV _).mono ?_
  rintro e w7 ⟨rfl, g7⟩
  replace G := gbTrans G g7
  clear g7
  clear z0 z1 z2
  go_wp2_with fail
  refine (HS _).mono ?_
  rintro e w8 ⟨rfl, g8⟩
  replace G := gbTrans G g8
  clear g8
  rcases hA with hA | hA
  all_goals
    go_wp2
    go_ret
    exact ⟨ret_bool (by simp; try omega), G⟩

set_option maxHeartbeats 2000000 in
theorem back_yny (v o : Bool) (a W A : Int) (y1 y2 y3 : Int) (x : Int) (d0 d1 : Bool) (d2 : Int) (h : Int) (hh : (h == 0) = false) (p q r : Nat) (lp : p < 16) (lq : q < 16) (lr : r < 16) (p1 : 256 * (p : Int) = y1) (q1 : 16 * (q : Int) = y2) (pq : y1 + y2 = y3) (hs : y3 + (r : Int) = A) (ly1 : y1 ≤ 3840) (ly2 : y2 ≤ 240) (ky1 : 0 ≤ y1) (ky2 : 0 ≤ y2) (ly3 : y3 ≤ 4080) (ky3 : 0 ≤ y3)
    (HT : ∀ w, Calls Try.prog 7 #[ev ⟨v, o, a⟩] w fun e w' => e = .returned (ev ⟨v, o, a⟩) ∧ w.grownBy w' none)
    (HP : ∀ w, Calls Try.prog 6 #[ev ⟨v, o, a⟩] w fun e w' => e = .returned (.tuple #[.int .u64 x, .int .i64 0]) ∧ w.grownBy w' none)
    (HX : ∀ w, Calls Try.prog 9 #[.int .u64 x] w fun e w' => e = .returned (.tuple #[ev ⟨v, o, a⟩, .int .i64 0]) ∧ w.grownBy w' none)
    (HU : ∀ w, Calls Try.prog 9 #[.int .u64 W] w fun e w' => e = .returned (.tuple #[ev ⟨d0, d1, d2⟩, .int .i64 h]) ∧ w.grownBy w' none)
    (HS : ∀ w, Calls Try.prog 11 #[.int .i64 A] w fun e w' => e = .returned (.tuple #[.int .i64 p, .int .i64 q, .int .i64 r, .int .i64 0]) ∧ w.grownBy w' none) (w : World) :
    Calls Try.prog 4 #[ev ⟨v, o, a⟩, .int .u64 W, .int .i64 A] w fun e w' => e = .returned (.bool true) ∧ w.grownBy w' none := by
  have qe := eqGuard_p
  have qn := run_neq_p
  have he : M.eq ⟨v, o, a⟩ ⟨v, o, a⟩ = true := M.eq_refl _
  go_enter Try.func4, Try.ntmps4
  go_upto_region 1 with fail
  obtain ⟨W0, hW0, X, G⟩ := boxNew w ⟨v, o, a⟩ 23
  simp only at hW0
  rw [hW0]
  clear hW0
  go_wp2_with fail
  refine (works_any _).mono ?_
  rintro e w1 ⟨rfl, g1⟩
  replace X := X.kept g1
  replace G := gbTrans G g1
  clear g1
  obtain ⟨a0, a1, a2, _, _⟩ := id X
  go_wp2_with fail
  refine (HT _).mono ?_
  rintro e w2 ⟨rfl, g2⟩
  replace X := X.kept g2
  replace G := gbTrans G g2
  clear g2
  clear a0 a1 a2
  go_wp2_with fail
  refine (HP _).mono ?_
  rintro e w3 ⟨rfl, g3⟩
  replace X := X.kept g3
  replace G := gbTrans G g3
  clear g3
  go_wp2_with fail
  refine (HX _).mono ?_
  rintro e w4 ⟨rfl, g4⟩
  replace X := X.kept g4
  replace G := gbTrans G g4
  clear g4
  go_upto_region 6 with fail
  obtain ⟨W4, hW4, Y, k4⟩ := boxNew w4 ⟨v, o, a⟩ 28
  simp only at hW4
  rw [hW4]
  clear hW4
  replace X := X.kept k4
  replace G := gbTrans G k4
  clear k4
  obtain ⟨x0, x1, x2⟩ := X.all
  obtain ⟨y0, y1', y2'⟩ := Y.all
  simp only at x0 x1 x2 y0 y1' y2'
  clear X Y
  refine wp_region_grown (by kernel_rfl) (by kernel_rfl) fun _ => ?_
  repeat (go_big_quiet_step ((go_at_call 7; with_reducible exact callsGr (HT _))))
  refine wpQuiet_nil ?_
  rintro w5 ⟨⟨_, g5⟩, rfl⟩
  clear x0 x1 x2 y0 y1' y2' qe qn he
  replace G := gbTrans G g5
  clear g5
  go_wp2_with fail
  refine (HU _).mono ?_
  rintro e w6 ⟨rfl, g6⟩
  replace G := gbTrans G g6
  clear g6
  go_upto_region 9 with fail
  obtain ⟨W6, hW6, Z, k6⟩ := boxNew w6 ⟨d0, d1, d2⟩ 28
  simp only at hW6
  rw [hW6]
  clear hW6
  replace G := gbTrans G k6
  clear k6
  clear Z
  go_wp2_with fail
  refine (HS _).mono ?_
  rintro e w8 ⟨rfl, g8⟩
  replace G := gbTrans G g8
  clear g8
  go_wp2
  go_ret
  exact ⟨ret_bool (decide_eq_true (by omega)), G⟩

set_option maxHeartbeats 2000000 in
theorem back_ynn (v o : Bool) (a W A : Int) (x : Int) (d0 d1 : Bool) (d2 : Int) (h : Int) (hh : (h == 0) = false) (hA : A < 0 ∨ 4095 < A)
    (HT : ∀ w, Calls Try.prog 7 #[ev ⟨v, o, a⟩] w fun e w' => e = .returned (ev ⟨v, o, a⟩) ∧ w.grownBy w' none)
    (HP : ∀ w, Calls Try.prog 6 #[ev ⟨v, o, a⟩] w fun e w' => e = .returned (.tuple #[.int .u64 x, .int .i64 0]) ∧ w.grownBy w' none)
    (HX : ∀ w, Calls Try.prog 9 #[.int .u64 x] w fun e w' => e = .returned (.tuple #[ev ⟨v, o, a⟩, .int .i64 0]) ∧ w.grownBy w' none)
    (HU : ∀ w, Calls Try.prog 9 #[.int .u64 W] w fun e w' => e = .returned (.tuple #[ev ⟨d0, d1, d2⟩, .int .i64 h]) ∧ w.grownBy w' none)
    (HS : ∀ w, Calls Try.prog 11 #[.int .i64 A] w fun e w' => e = .returned (.tuple #[.int .i64 0, .int .i64 0, .int .i64 0, .int .i64 1]) ∧ w.grownBy w' none) (w : World) :
    Calls Try.prog 4 #[ev ⟨v, o, a⟩, .int .u64 W, .int .i64 A] w fun e w' => e = .returned (.bool true) ∧ w.grownBy w' none := by
  have qe := eqGuard_p
  have qn := run_neq_p
  have he : M.eq ⟨v, o, a⟩ ⟨v, o, a⟩ = true := M.eq_refl _
  go_enter Try.func4, Try.ntmps4
  go_upto_region 1 with fail
  obtain ⟨W0, hW0, X, G⟩ := boxNew w ⟨v, o, a⟩ 23
  simp only at hW0
  rw [hW0]
  clear hW0
  go_wp2_with fail
  refine (works_any _).mono ?_
  rintro e w1 ⟨rfl, g1⟩
  replace X := X.kept g1
  replace G := gbTrans G g1
  clear g1
  obtain ⟨a0, a1, a2, _, _⟩ := id X
  go_wp2_with fail
  refine (HT _).mono ?_
  rintro e w2 ⟨rfl, g2⟩
  replace X := X.kept g2
  replace G := gbTrans G g2
  clear g2
  clear a0 a1 a2
  go_wp2_with fail
  refine (HP _).mono ?_
  rintro e w3 ⟨rfl, g3⟩
  replace X := X.kept g3
  replace G := gbTrans G g3
  clear g3
  go_wp2_with fail
  refine (HX _).mono ?_
  rintro e w4 ⟨rfl, g4⟩
  replace X := X.kept g4
  replace G := gbTrans G g4
  clear g4
  go_upto_region 6 with fail
  obtain ⟨W4, hW4, Y, k4⟩ := boxNew w4 ⟨v, o, a⟩ 28
  simp only at hW4
  rw [hW4]
  clear hW4
  replace X := X.kept k4
  replace G := gbTrans G k4
  clear k4
  obtain ⟨x0, x1, x2⟩ := X.all
  obtain ⟨y0, y1', y2'⟩ := Y.all
  simp only at x0 x1 x2 y0 y1' y2'
  clear X Y
  refine wp_region_grown (by kernel_rfl) (by kernel_rfl) fun _ => ?_
  repeat (go_big_quiet_step ((go_at_call 7; with_reducible exact callsGr (HT _))))
  refine wpQuiet_nil ?_
  rintro w5 ⟨⟨_, g5⟩, rfl⟩
  clear x0 x1 x2 y0 y1' y2' qe qn he
  replace G := gbTrans G g5
  clear g5
  go_wp2_with fail
  refine (HU _).mono ?_
  rintro e w6 ⟨rfl, g6⟩
  replace G := gbTrans G g6
  clear g6
  go_upto_region 9 with fail
  obtain ⟨W6, hW6, Z, k6⟩ := boxNew w6 ⟨d0, d1, d2⟩ 28
  simp only at hW6
  rw [hW6]
  clear hW6
  replace G := gbTrans G k6
  clear k6
  clear Z
  go_wp2_with fail
  refine (HS _).mono ?_
  rintro e w8 ⟨rfl, g8⟩
  replace G := gbTrans G g8
  clear g8
  rcases hA with hA | hA
  all_goals
    go_wp2
    go_ret
    exact ⟨ret_bool (by simp; try omega), G⟩

set_option maxHeartbeats 2000000 in
theorem back_nyy (v o : Bool) (a W A : Int) (y1 y2 y3 : Int) (x : Int) (f : Int) (hf : (f == 0) = false) (d0 d1 : Bool) (d2 : Int) (p q r : Nat) (lp : p < 16) (lq : q < 16) (lr : r < 16) (p1 : 256 * (p : Int) = y1) (q1 : 16 * (q : Int) = y2) (pq : y1 + y2 = y3) (hs : y3 + (r : Int) = A) (ly1 : y1 ≤ 3840) (ly2 : y2 ≤ 240) (ky1 : 0 ≤ y1) (ky2 : 0 ≤ y2) (ly3 : y3 ≤ 4080) (ky3 : 0 ≤ y3)
    (HT : ∀ w, Calls Try.prog 7 #[ev ⟨v, o, a⟩] w fun e w' => e = .returned (ev ⟨v, o, a⟩) ∧ w.grownBy w' none)
    (HP : ∀ w, Calls Try.prog 6 #[ev ⟨v, o, a⟩] w fun e w' => e = .returned (.tuple #[.int .u64 x, .int .i64 f]) ∧ w.grownBy w' none)
    (HU : ∀ w, Calls Try.prog 9 #[.int .u64 W] w fun e w' => e = .returned (.tuple #[ev ⟨d0, d1, d2⟩, .int .i64 0]) ∧ w.grownBy w' none)
    (HV : ∀ w, Calls Try.prog 6 #[ev ⟨d0, d1, d2⟩] w fun e w' => e = .returned (.tuple #[.int .u64 W, .int .i64 0]) ∧ w.grownBy w' none)
    (HS : ∀ w, Calls Try.prog 11 #[.int .i64 A] w fun e w' => e = .returned (.tuple #[.int .i64 p, .int .i64 q, .int .i64 r, .int .i64 0]) ∧ w.grownBy w' none) (w : World) :
    Calls Try.prog 4 #[ev ⟨v, o, a⟩, .int .u64 W, .int .i64 A] w fun e w' => e = .returned (.bool true) ∧ w.grownBy w' none := by
  go_enter Try.func4, Try.ntmps4
  go_upto_region 1 with fail
  obtain ⟨W0, hW0, X, G⟩ := boxNew w ⟨v, o, a⟩ 23
  simp only at hW0
  rw [hW0]
  clear hW0
  go_wp2_with fail
  refine (works_any _).mono ?_
  rintro e w1 ⟨rfl, g1⟩
  replace X := X.kept g1
  replace G := gbTrans G g1
  clear g1
  obtain ⟨a0, a1, a2, _, _⟩ := id X
  go_wp2_with fail
  refine (HT _).mono ?_
  rintro e w2 ⟨rfl, g2⟩
  replace X := X.kept g2
  replace G := gbTrans G g2
  clear g2
  clear a0 a1 a2
  go_wp2_with fail
  refine (HP _).mono ?_
  rintro e w3 ⟨rfl, g3⟩
  replace X := X.kept g3
  replace G := gbTrans G g3
  clear g3
  clear X
  go_wp2_with fail
  refine (HU _).mono ?_
  rintro e w6 ⟨rfl, g6⟩
  replace G := gbTrans G g6
  clear g6
  go_upto_region 9 with fail
  obtain ⟨W6, hW6, Z, k6⟩ := boxNew w6 ⟨d0, d1, d2⟩ 28
  simp only at hW6
  rw [hW6]
  clear hW6
  replace G := gbTrans G k6
  clear k6
  obtain ⟨z0, z1, z2, _, _⟩ := Z
  go_wp2_with fail
  refine (HV _).mono ?_
  rintro e w7 ⟨rfl, g7⟩
  replace G := gbTrans G g7
  clear g7
  clear z0 z1 z2
  go_wp2_with fail
  refine (HS _).mono ?_
  rintro e w8 ⟨rfl, g8⟩
  replace G := gbTrans G g8
  clear g8
  go_wp2
  go_ret
  exact ⟨ret_bool (decide_eq_true (by omega)), G⟩

set_option maxHeartbeats 2000000 in
theorem back_nyn (v o : Bool) (a W A : Int) (x : Int) (f : Int) (hf : (f == 0) = false) (d0 d1 : Bool) (d2 : Int) (hA : A < 0 ∨ 4095 < A)
    (HT : ∀ w, Calls Try.prog 7 #[ev ⟨v, o, a⟩] w fun e w' => e = .returned (ev ⟨v, o, a⟩) ∧ w.grownBy w' none)
    (HP : ∀ w, Calls Try.prog 6 #[ev ⟨v, o, a⟩] w fun e w' => e = .returned (.tuple #[.int .u64 x, .int .i64 f]) ∧ w.grownBy w' none)
    (HU : ∀ w, Calls Try.prog 9 #[.int .u64 W] w fun e w' => e = .returned (.tuple #[ev ⟨d0, d1, d2⟩, .int .i64 0]) ∧ w.grownBy w' none)
    (HV : ∀ w, Calls Try.prog 6 #[ev ⟨d0, d1, d2⟩] w fun e w' => e = .returned (.tuple #[.int .u64 W, .int .i64 0]) ∧ w.grownBy w' none)
    (HS : ∀ w, Calls Try.prog 11 #[.int .i64 A] w fun e w' => e = .returned (.tuple #[.int .i64 0, .int .i64 0, .int .i64 0, .int .i64 1]) ∧ w.grownBy w' none) (w : World) :
    Calls Try.prog 4 #[ev ⟨v, o, a⟩, .int .u64 W, .int .i64 A] w fun e w' => e = .returned (.bool true) ∧ w.grownBy w' none := by
  go_enter Try.func4, Try.ntmps4
  go_upto_region 1 with fail
  obtain ⟨W0, hW0, X, G⟩ := boxNew w ⟨v, o, a⟩ 23
  simp only at hW0
  rw [hW0]
  clear hW0
  go_wp2_with fail
  refine (works_any _).mono ?_
  rintro e w1 ⟨rfl, g1⟩
  replace X := X.kept g1
  replace G := gbTrans G g1
  clear g1
  obtain ⟨a0, a1, a2, _, _⟩ := id X
  go_wp2_with fail
  refine (HT _).mono ?_
  rintro e w2 ⟨rfl, g2⟩
  replace X := X.kept g2
  replace G := gbTrans G g2
  clear g2
  clear a0 a1 a2
  go_wp2_with fail
  refine (HP _).mono ?_
  rintro e w3 ⟨rfl, g3⟩
  replace X := X.kept g3
  replace G := gbTrans G g3
  clear g3
  clear X
  go_wp2_with fail
  refine (HU _).mono ?_
  rintro e w6 ⟨rfl, g6⟩
  replace G := gbTrans G g6
  clear g6
  go_upto_region 9 with fail
  obtain ⟨W6, hW6, Z, k6⟩ := boxNew w6 ⟨d0, d1, d2⟩ 28
  simp only at hW6
  rw [hW6]
  clear hW6
  replace G := gbTrans G k6
  clear k6
  obtain ⟨z0, z1, z2, _, _⟩ := Z
  go_wp2_with fail
  refine (HV _).mono ?_
  rintro e w7 ⟨rfl, g7⟩
  replace G := gbTrans G g7
  clear g7
  clear z0 z1 z2
  go_wp2_with fail
  refine (HS _).mono ?_
  rintro e w8 ⟨rfl, g8⟩
  replace G := gbTrans G g8
  clear g8
  rcases hA with hA | hA
  all_goals
    go_wp2
    go_ret
    exact ⟨ret_bool (by simp; try omega), G⟩

set_option maxHeartbeats 2000000 in
theorem back_nny (v o : Bool) (a W A : Int) (y1 y2 y3 : Int) (x : Int) (f : Int) (hf : (f == 0) = false) (d0 d1 : Bool) (d2 : Int) (h : Int) (hh : (h == 0) = false) (p q r : Nat) (lp : p < 16) (lq : q < 16) (lr : r < 16) (p1 : 256 * (p : Int) = y1) (q1 : 16 * (q : Int) = y2) (pq : y1 + y2 = y3) (hs : y3 + (r : Int) = A) (ly1 : y1 ≤ 3840) (ly2 : y2 ≤ 240) (ky1 : 0 ≤ y1) (ky2 : 0 ≤ y2) (ly3 : y3 ≤ 4080) (ky3 : 0 ≤ y3)
    (HT : ∀ w, Calls Try.prog 7 #[ev ⟨v, o, a⟩] w fun e w' => e = .returned (ev ⟨v, o, a⟩) ∧ w.grownBy w' none)
    (HP : ∀ w, Calls Try.prog 6 #[ev ⟨v, o, a⟩] w fun e w' => e = .returned (.tuple #[.int .u64 x, .int .i64 f]) ∧ w.grownBy w' none)
    (HU : ∀ w, Calls Try.prog 9 #[.int .u64 W] w fun e w' => e = .returned (.tuple #[ev ⟨d0, d1, d2⟩, .int .i64 h]) ∧ w.grownBy w' none)
    (HS : ∀ w, Calls Try.prog 11 #[.int .i64 A] w fun e w' => e = .returned (.tuple #[.int .i64 p, .int .i64 q, .int .i64 r, .int .i64 0]) ∧ w.grownBy w' none) (w : World) :
    Calls Try.prog 4 #[ev ⟨v, o, a⟩, .int .u64 W, .int .i64 A] w fun e w' => e = .returned (.bool true) ∧ w.grownBy w' none := by
  go_enter Try.func4, Try.ntmps4
  go_upto_region 1 with fail
  obtain ⟨W0, hW0, X, G⟩ := boxNew w ⟨v, o, a⟩ 23
  simp only at hW0
  rw [hW0]
  clear hW0
  go_wp2_with fail
  refine (works_any _).mono ?_
  rintro e w1 ⟨rfl, g1⟩
  replace X := X.kept g1
  replace G := gbTrans G g1
  clear g1
  obtain ⟨a0, a1, a2, _, _⟩ := id X
  go_wp2_with fail
  refine (HT _).mono ?_
  rintro e w2 ⟨rfl, g2⟩
  replace X := X.kept g2
  replace G := gbTrans G g2
  clear g2
  clear a0 a1 a2
  go_wp2_with fail
  refine (HP _).mono ?_
  rintro e w3 ⟨rfl, g3⟩
  replace X := X.kept g3
  replace G := gbTrans G g3
  clear g3
  clear X
  go_wp2_with fail
  refine (HU _).mono ?_
  rintro e w6 ⟨rfl, g6⟩
  replace G := gbTrans G g6
  clear g6
  go_upto_region 9 with fail
  obtain ⟨W6, hW6, Z, k6⟩ := boxNew w6 ⟨d0, d1, d2⟩ 28
  simp only at hW6
  rw [hW6]
  clear hW6
  replace G := gbTrans G k6
  clear k6
  clear Z
  go_wp2_with fail
  refine (HS _).mono ?_
  rintro e w8 ⟨rfl, g8⟩
  replace G := gbTrans G g8
  clear g8
  go_wp2
  go_ret
  exact ⟨ret_bool (decide_eq_true (by omega)), G⟩

set_option maxHeartbeats 2000000 in
theorem back_nnn (v o : Bool) (a W A : Int) (x : Int) (f : Int) (hf : (f == 0) = false) (d0 d1 : Bool) (d2 : Int) (h : Int) (hh : (h == 0) = false) (hA : A < 0 ∨ 4095 < A)
    (HT : ∀ w, Calls Try.prog 7 #[ev ⟨v, o, a⟩] w fun e w' => e = .returned (ev ⟨v, o, a⟩) ∧ w.grownBy w' none)
    (HP : ∀ w, Calls Try.prog 6 #[ev ⟨v, o, a⟩] w fun e w' => e = .returned (.tuple #[.int .u64 x, .int .i64 f]) ∧ w.grownBy w' none)
    (HU : ∀ w, Calls Try.prog 9 #[.int .u64 W] w fun e w' => e = .returned (.tuple #[ev ⟨d0, d1, d2⟩, .int .i64 h]) ∧ w.grownBy w' none)
    (HS : ∀ w, Calls Try.prog 11 #[.int .i64 A] w fun e w' => e = .returned (.tuple #[.int .i64 0, .int .i64 0, .int .i64 0, .int .i64 1]) ∧ w.grownBy w' none) (w : World) :
    Calls Try.prog 4 #[ev ⟨v, o, a⟩, .int .u64 W, .int .i64 A] w fun e w' => e = .returned (.bool true) ∧ w.grownBy w' none := by
  go_enter Try.func4, Try.ntmps4
  go_upto_region 1 with fail
  obtain ⟨W0, hW0, X, G⟩ := boxNew w ⟨v, o, a⟩ 23
  simp only at hW0
  rw [hW0]
  clear hW0
  go_wp2_with fail
  refine (works_any _).mono ?_
  rintro e w1 ⟨rfl, g1⟩
  replace X := X.kept g1
  replace G := gbTrans G g1
  clear g1
  obtain ⟨a0, a1, a2, _, _⟩ := id X
  go_wp2_with fail
  refine (HT _).mono ?_
  rintro e w2 ⟨rfl, g2⟩
  replace X := X.kept g2
  replace G := gbTrans G g2
  clear g2
  clear a0 a1 a2
  go_wp2_with fail
  refine (HP _).mono ?_
  rintro e w3 ⟨rfl, g3⟩
  replace X := X.kept g3
  replace G := gbTrans G g3
  clear g3
  clear X
  go_wp2_with fail
  refine (HU _).mono ?_
  rintro e w6 ⟨rfl, g6⟩
  replace G := gbTrans G g6
  clear g6
  go_upto_region 9 with fail
  obtain ⟨W6, hW6, Z, k6⟩ := boxNew w6 ⟨d0, d1, d2⟩ 28
  simp only at hW6
  rw [hW6]
  clear hW6
  replace G := gbTrans G k6
  clear k6
  clear Z
  go_wp2_with fail
  refine (HS _).mono ?_
  rintro e w8 ⟨rfl, g8⟩
  replace G := gbTrans G g8
  clear g8
  rcases hA with hA | hA
  all_goals
    go_wp2
    go_ret
    exact ⟨ret_bool (by simp; try omega), G⟩

theorem M.up_pk {v o : Bool} {a x : Int} (h : M.pk ⟨v, o, a⟩ = (x, 0)) : ∃ X : Nat, x = X ∧ X < 18446744073709551616 ∧ M.up X = (⟨v, o, a⟩, 0) := by
  have c : M.ce ⟨v, o, a⟩ = 0 := by
    unfold M.pk at h
    by_cases c : M.ce ⟨v, o, a⟩ = 0
    · exact c
    · rw [if_neg c] at h; simp only [Prod.mk.injEq] at h; exact h.2
  have hx : M.pw ⟨v, o, a⟩ = x := by
    unfold M.pk at h; rw [if_pos c] at h; simp only [Prod.mk.injEq, and_true] at h; exact h
  have key : ∀ X : Nat, x = X → M.fe X = ⟨v, o, a⟩ → M.up X = (⟨v, o, a⟩, 0) := by
    intro X e f
    unfold M.up
    rw [f, h, if_pos (by rw [e])]
  rcases M.ce_ok c with ⟨rfl, P, rfl, hP⟩ | ⟨rfl, rfl, rfl⟩
  · cases o
    · have e : x = ((16 * P + 1 : Nat) : Int) := by rw [← hx]; simp only [M.pw, if_true, Bool.false_eq_true, if_false]; omega
      refine ⟨_, e, by omega, key _ e ?_⟩
      simp only [M.fe, E.mk.injEq, beq_iff_eq, beq_eq_false_iff_ne]
      omega
    · have e : x = ((16 * P + 3 : Nat) : Int) := by rw [← hx]; simp only [M.pw, if_true]; omega
      refine ⟨_, e, by omega, key _ e ?_⟩
      simp only [M.fe, E.mk.injEq, beq_iff_eq]
      omega
  · exact ⟨0, by rw [← hx]; rfl, by omega, key 0 (by rw [← hx]; rfl) rfl⟩

theorem M.pk_up {W : Nat} {v o : Bool} {a : Int} (h : M.up W = (⟨v, o, a⟩, 0)) : M.pk ⟨v, o, a⟩ = ((W : Int), 0) := by
  unfold M.up at h
  by_cases c : M.pk (M.fe W) = ((W : Int), 0)
  · rw [if_pos c] at h; simp only [Prod.mk.injEq, and_true] at h; rw [← h]; exact c
  · rw [if_neg c] at h; simp only [Prod.mk.injEq] at h; omega

theorem walk (v o : Bool) (a : Int) (a1 : Int) (w1 : (Lit.int .u64 a1).wf = true) (a2 : Int) (w : World) :
    Calls Try.prog 4 #[ev ⟨v, o, a⟩, .int .u64 a1, .int .i64 a2] w fun e w' => e = .returned (.bool true) ∧ Below w.heap.size w w' := by
  refine endWalk ?_
  have u1 := u64_wf w1
  obtain ⟨W, rfl⟩ : ∃ A : Nat, a1 = A := ⟨a1.toNat, by have := u1.1; omega⟩
  have hW : W < 18446744073709551616 := by have := u1.2; omega
  have HT := fun w => to_any v o a w
  obtain ⟨⟨x, f⟩, hp⟩ : ∃ p, M.pk ⟨v, o, a⟩ = p := ⟨_, rfl⟩
  obtain ⟨⟨⟨d0, d1, d2⟩, h⟩, hu⟩ : ∃ p, M.up W = p := ⟨_, rfl⟩
  have HP := fun w => pack_is v o a x f hp w
  have HU := fun w => unpack_is W _ h hW hu w
  have SY : M.isA a2 = true → ∃ p q r : Nat, p < 16 ∧ q < 16 ∧ r < 16 ∧ 256 * (p : Int) + 16 * (q : Int) + (r : Int) = a2 ∧
      ∀ w, Calls Try.prog 11 #[.int .i64 a2] w fun e w' => e = .returned (.tuple #[.int .i64 p, .int .i64 q, .int .i64 r, .int .i64 0]) ∧ w.grownBy w' none := by
    intro c
    obtain ⟨A, rfl, hA⟩ := M.isA_nat c
    refine ⟨A / 256, A / 16 % 16, A % 16, by omega, by omega, by omega, by omega, fun w => split_is _ _ _ _ _ ?_ w⟩
    unfold M.sp
    rw [if_pos c]
    simp only [Prod.mk.injEq, and_true]
    omega
  have SN : ¬ M.isA a2 = true → (a2 < 0 ∨ 4095 < a2) ∧
      ∀ w, Calls Try.prog 11 #[.int .i64 a2] w fun e w' => e = .returned (.tuple #[.int .i64 0, .int .i64 0, .int .i64 0, .int .i64 1]) ∧ w.grownBy w' none := by
    intro c
    refine ⟨?_, fun w => split_is _ _ _ _ _ (by unfold M.sp; rw [if_neg c]) w⟩
    simp only [M.isA, Bool.and_eq_true, decide_eq_true_eq] at c
    omega
  by_cases hf : f = 0
  · subst hf
    obtain ⟨X, rfl, hX, hY⟩ := M.up_pk hp
    have HX := fun w => unpack_is X _ 0 hX hY w
    by_cases hh : h = 0
    · subst hh
      have HV := fun w => pack_is d0 d1 d2 W 0 (M.pk_up hu) w
      by_cases c : M.isA a2 = true
      · obtain ⟨p, q, r, lp, lq, lr, hs, HS⟩ := SY c
        exact back_yyy v o a W a2 _ _ _ _ d0 d1 d2 p q r lp lq lr rfl rfl rfl hs (by omega) (by omega) (by omega) (by omega) (by omega) (by omega) HT HP HX HU HV HS w
      · obtain ⟨hA, HS⟩ := SN c
        exact back_yyn v o a W a2 _ d0 d1 d2 hA HT HP HX HU HV HS w
    · have hh := beq_eq_false_iff_ne.2 hh
      by_cases c : M.isA a2 = true
      · obtain ⟨p, q, r, lp, lq, lr, hs, HS⟩ := SY c
        exact back_yny v o a W a2 _ _ _ _ d0 d1 d2 h hh p q r lp lq lr rfl rfl rfl hs (by omega) (by omega) (by omega) (by omega) (by omega) (by omega) HT HP HX HU HS w
      · obtain ⟨hA, HS⟩ := SN c
        exact back_ynn v o a W a2 _ d0 d1 d2 h hh hA HT HP HX HU HS w
  · have hf := beq_eq_false_iff_ne.2 hf
    by_cases hh : h = 0
    · subst hh
      have HV := fun w => pack_is d0 d1 d2 W 0 (M.pk_up hu) w
      by_cases c : M.isA a2 = true
      · obtain ⟨p, q, r, lp, lq, lr, hs, HS⟩ := SY c
        exact back_nyy v o a W a2 _ _ _ _ f hf d0 d1 d2 p q r lp lq lr rfl rfl rfl hs (by omega) (by omega) (by omega) (by omega) (by omega) (by omega) HT HP HU HV HS w
      · obtain ⟨hA, HS⟩ := SN c
        exact back_nyn v o a W a2 _ f hf d0 d1 d2 hA HT HP HU HV HS w
    · have hh := beq_eq_false_iff_ne.2 hh
      by_cases c : M.isA a2 = true
      · obtain ⟨p, q, r, lp, lq, lr, hs, HS⟩ := SY c
        exact back_nny v o a W a2 _ _ _ _ f hf d0 d1 d2 h hh p q r lp lq lr rfl rfl rfl hs (by omega) (by omega) (by omega) (by omega) (by omega) (by omega) HT HP HU HS w
      · obtain ⟨hA, HS⟩ := SN c
        exact back_nnn v o a W a2 _ f hf d0 d1 d2 h hh hA HT HP HU HS w

set_option maxRecDepth 100000 in
theorem lifted (os : Os) (started : os.Started) (H : Type) (enc : TypeId × Value → H) :
    ReturnsInHanded {} Try.checked os 4 .any (Rows.pteBackSpec.pre6 enc Try.prog Try.f4 Rows.pteBackRow.domain false) (Rows.pteBackSpec.post enc Try.prog Try.f4 false true false false) := by
  refine returnsInHanded_of_change (C := Try.checked) own started (by kernel_rfl) Try.func4
    (ChangeSpec.witness6 (enc := enc) (C := Try.checked) false ⟨#[], #[.agg #[.bool false, .bool false, .int .i64 0], .int .u64 0, .int .i64 0], []⟩ 8 (by kernel_rfl) (by kernel_rfl) (by kernel_rfl) (by kernel_rfl)) ?_
  intro W base args ds gs before hval0 hW hcnd _
  have hval : ∀ (j : Nat) t v, Try.f4.params[j]? = some t → args[j]? = some v → Value.okWide Try.prog W .any base t v := hval0
  have hW' := hW
  obtain ⟨p, q, hA0, hV, rfl, hfz, hnd⟩ := hW
  have hA : DataW.TrodAll enc Try.prog W 0 (fun _ => true) true Try.f4.params.toList args.toList ds p := hA0
  rw [Try.params4] at hA hval
  obtain ⟨v0, vs0, d0, ds0, p0, q0, hargs, rfl, rfl, h0, r0⟩ := trodAll_cons hA
  obtain ⟨v1, vs1, d1, ds1, p1, q1, rfl, rfl, rfl, h1, r1⟩ := trodAll_cons r0
  obtain ⟨v2, vs2, d2, ds2, p2, q2, rfl, rfl, rfl, h2, r2⟩ := trodAll_cons r1
  obtain ⟨rfl, rfl, rfl⟩ := trodAll_nil r2
  obtain rfl : args = #[v0, v1, v2] := by cases args; simp_all
  obtain ⟨rfl, rfl⟩ := trodVars_none hV
  obtain ⟨V0, O0, A0, rfl⟩ := entryArg (hval 0 23 v0 rfl rfl) h0
  have k0 := h0
  have lt0 : ∀ x ∈ p0, x.block < W.heap.size := by obtain ⟨m, hm⟩ := k0; exact DataW.trod_lt m _ _ _ hm
  obtain ⟨a1, rfl, rfl, rfl, w1⟩ := open_int Try.underlying24 (hval 1 24 v1 rfl rfl) h1
  obtain ⟨a2, rfl, rfl, rfl, w2⟩ := open_int Try.underlying3 (hval 2 3 v2 rfl rfl) h2
  clear hA0 hval0
  refine (walk V0 O0 A0 a1 w1 a2 W).mono fun e W' ⟨he, bel⟩ => ?_
  subst he
  exact ⟨_, rfl, _, _, _, [], _, [], hW', trodAll_mk1 (shut_bool Try.underlying4 _), (trodAll_cons_mk (Below.trod laidOut (by kernel_rfl) (of_decide_eq_true (by kernel_rfl)) k0 bel lt0) (trodAll_cons_mk (shut_int Try.underlying24 w1) (trodAll_cons_mk (shut_int Try.underlying3 w2) trodAll_mk0))), rfl, bel.frame _, fun h => by cases h⟩

theorem over : Rows.pteBackRow.holds Try.pinned (OpenSpec.ofChange Rows.pteBackSpec) :=
  OpenClaim.holds_of_wide 4 Try.f4 rfl rfl rfl rfl rfl rfl rfl ⟨rfl, rfl, rfl, rfl, rfl⟩ rfl rfl rfl rfl rfl (by kernel_rfl) Try.func4 (by kernel_rfl)
    (of_decide_eq_true (by kernel_rfl)) (by unfold Func.isWrapper; first | (rw [if_pos (by decide +kernel)]; kernel_rfl) | (rw [if_neg (by decide +kernel)]; exact ⟨rfl, rfl⟩))
    (fun os started H enc _ => lifted os started H enc)

theorem proved : Rows.PteBackSaid := over
end Go.Proofs.Ytigcceeoifnlpaa.pteBack
namespace Go.Proofs.Ytigcceeoifnlpaa
theorem pteBack_holds : Rows.PteBackSaid := pteBack.proved
#print axioms pteBack_holds
end Go.Proofs.Ytigcceeoifnlpaa
