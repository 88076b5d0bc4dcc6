/-
  THE CONTRACT of donjonlaw18's works: true.
-/
import Derived.Test.YtenljiciiocagaaArgs
namespace Go.Proofs.Ytenljiciiocagaa
set_option maxRecDepth 10000
open Go.RowKit
set_option linter.unusedVariables false

theorem oTurn {w0 w w' : World} {P : Nat → Prop} {p : Nat} {k k' : Int} {L L' : List Int} (h : On (fun w O => PA w O p k L) w0 w P) (T : PA w' (wide P w w') p k' L') (f : Fr P w w') : On (fun w O => PA w O p k' L') w0 w' (wide P w w') := On.turn (A' := fun w O => PA w O p k' L') h T f
theorem oKept {w0 w w' : World} {P : Nat → Prop} {p : Nat} {k : Int} {L : List Int} (h : On (fun w O => PA w O p k L) w0 w P) (g : w.grownBy w' none) : On (fun w O => PA w O p k L) w0 w' P := On.kept (kPA p k L) h g
theorem oNew {w w1 : World} {p : Nat} (A1 : PA w1 (fun i => w.heap.size ≤ i ∧ i < w1.heap.size) p 0 []) (g1 : w.grownBy w1 none) : On (fun w O => PA w O p 0 []) w w1 (fun i => w.heap.size ≤ i ∧ i < w1.heap.size) := ⟨A1, fun i hi => hi, g1⟩

set_option maxHeartbeats 4000000 in
set_option maxRecDepth 100000 in
theorem works_is (w : World) : Calls Try.prog 18 #[] w fun e w' => e = .returned (.bool true) ∧ w.grownBy w' none := by
  go_enter Try.func18, Try.ntmps18
  go_wp2_with fail
  refine (enew_is w).mono ?_
  rintro e w1 ⟨p, rfl, A1, g1⟩
  have H := hideIt (oNew A1 g1)
  clear A1 g1
  go_wp2_with fail
  refine (send_is H.out.a (by decide) (by decide) 1 true 0 false 0 (by decide) (by decide) (by decide)).mono ?_
  rintro e w2 ⟨rfl, Z, F⟩
  replace H : Hid (On (fun w O => PA w O p 1 [1]) _ _ _) := hideIt (oTurn H.out Z F)
  clear Z F
  go_wp2_with fail
  refine (send_is H.out.a (by decide) (by decide) 2 true 0 false 0 (by decide) (by decide) (by decide)).mono ?_
  rintro e w2 ⟨rfl, Z, F⟩
  replace H : Hid (On (fun w O => PA w O p 1 [1, 2]) _ _ _) := hideIt (oTurn H.out Z F)
  clear Z F
  go_wp2_with fail
  refine (recv_is H.out.a (by decide) (by decide) 3 true 1 true 0 (by decide) (by decide) (by decide)).mono ?_
  rintro e w2 ⟨rfl, Z, F⟩
  replace H : Hid (On (fun w O => PA w O p 1 [2]) _ _ _) := hideIt (oTurn H.out Z F)
  clear Z F
  go_wp2_with fail
  refine (recv_is H.out.a (by decide) (by decide) 4 true 2 true 0 (by decide) (by decide) (by decide)).mono ?_
  rintro e w2 ⟨rfl, Z, F⟩
  replace H : Hid (On (fun w O => PA w O p 0 []) _ _ _) := hideIt (oTurn H.out Z F)
  clear Z F
  go_wp2_with fail
  refine (recv_is H.out.a (by decide) (by decide) 5 false 0 false 0 (by decide) (by decide) (by decide)).mono ?_
  rintro e w2 ⟨rfl, Z, F⟩
  replace H : Hid (On (fun w O => PA w O p 0 []) _ _ _) := hideIt (oTurn H.out Z F)
  clear Z F
  go_wp2_with fail
  refine (state_is H.out.a (by decide)).mono ?_
  rintro e w2 ⟨v2, rfl, l2, g⟩
  replace H := hideIt (oKept H.out g)
  obtain ⟨x2, c2, rfl, _⟩ := l2.arr
  clear g l2
  go_wp2_with fail
  refine (send_is H.out.a (by decide) (by decide) 64 true 0 false 1 (by decide) (by decide) (by decide)).mono ?_
  rintro e w2 ⟨rfl, Z, F⟩
  replace H : Hid (On (fun w O => PA w O p 0 []) _ _ _) := hideIt (oTurn H.out Z F)
  clear Z F
  go_wp2
  go_ret
  exact ⟨rfl, H.out.gr⟩
end Go.Proofs.Ytenljiciiocagaa
