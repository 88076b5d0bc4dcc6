/-
  works: the law's own example answers as the chapter says.
-/
import Derived.Test.YtekohlbafhlldaaArgs
namespace Go.Proofs.Ytekohlbafhlldaa
set_option maxRecDepth 10000
open Go.RowKit
set_option linter.unusedVariables false

def W1 : I := M.os M.i0 3 1
def W2 : I := M.rs W1 3
def W3 : I := M.rs W2 3
def W4 : I := M.rs W3 5
def W5 : I := M.ns W4 (some 3)
def W6 : I := M.rs W5 3
def W7 : I := M.ns W6 none
def W8 : I := M.ak W7 3
def W9 : I := M.ns W8 (some 3)
def W10 : I := M.ak W9 5
def W11 : I := M.rs W10 8

set_option maxHeartbeats 4000000 in
set_option maxRecDepth 100000 in
theorem works_is (w : World) : Calls Try.prog 23 #[] w fun e w' => e = .returned (.bool true) ∧ w.grownBy w' none := by
  go_enter Try.func23, Try.ntmps23
  go_wp2_with fail
  refine (new_is w).mono ?_
  rintro e w1 ⟨x, rfl, g, A⟩
  obtain ⟨P, hP⟩ : ∃ P : Nat → Prop, (fun k => w.heap.size ≤ k ∧ k < w1.heap.size) = P := ⟨_, rfl⟩
  have H : Hid (On w w1 P x M.i0) := hideIt (by subst hP; exact ⟨A, fun _ hk => hk, g⟩)
  clear A g hP
  go_wp2_with fail
  refine (own_is H.out.a 3 1 0 (by decide)).mono ?_
  rintro e w2 ⟨rfl, Z, F⟩
  replace H : Hid (On w w2 P x W1) := hideIt (H.out.turn Z F)
  clear Z F
  go_wp2_with fail
  refine (rraise_is H.out.a 3 0 (by decide)).mono ?_
  rintro e w2 ⟨rfl, Z, F⟩
  replace H : Hid (On w w2 P x W2) := hideIt (H.out.turn Z F)
  clear Z F
  go_wp2_with fail
  refine (rraise_is H.out.a 3 0 (by decide)).mono ?_
  rintro e w2 ⟨rfl, Z, F⟩
  replace H : Hid (On w w2 P x W3) := hideIt (H.out.turn Z F)
  clear Z F
  go_wp2_with fail
  refine (rraise_is H.out.a 5 0 (by decide)).mono ?_
  rintro e w2 ⟨rfl, Z, F⟩
  replace H : Hid (On w w2 P x W4) := hideIt (H.out.turn Z F)
  clear Z F
  go_wp2_with fail
  refine (pending_is H.out.a 40 (by decide)).mono ?_
  rintro e w2 ⟨rfl, G⟩
  replace H := hideIt (H.out.kept G)
  clear G
  go_wp2_with fail
  refine (next_is H.out.a 1 (some 3) (by unfold M.Nx; decide) 3 true (by decide) (by decide)).mono ?_
  rintro e w2 ⟨rfl, Z, F⟩
  replace H : Hid (On w w2 P x W5) := hideIt (H.out.turn Z F)
  clear Z F
  go_wp2_with fail
  refine (rraise_is H.out.a 3 0 (by decide)).mono ?_
  rintro e w2 ⟨rfl, Z, F⟩
  replace H : Hid (On w w2 P x W6) := hideIt (H.out.turn Z F)
  clear Z F
  go_wp2_with fail
  refine (next_is H.out.a 1 none (by unfold M.Nx; decide) 0 false (by decide) (by decide)).mono ?_
  rintro e w2 ⟨rfl, Z, F⟩
  replace H : Hid (On w w2 P x W7) := hideIt (H.out.turn Z F)
  clear Z F
  go_wp2_with fail
  refine (ack_is H.out.a 3 0 (by decide)).mono ?_
  rintro e w2 ⟨rfl, Z, F⟩
  replace H : Hid (On w w2 P x W8) := hideIt (H.out.turn Z F)
  clear Z F
  go_wp2_with fail
  refine (next_is H.out.a 1 (some 3) (by unfold M.Nx; decide) 3 true (by decide) (by decide)).mono ?_
  rintro e w2 ⟨rfl, Z, F⟩
  replace H : Hid (On w w2 P x W9) := hideIt (H.out.turn Z F)
  clear Z F
  go_wp2_with fail
  refine (ack_is H.out.a 5 8 (by decide)).mono ?_
  rintro e w2 ⟨rfl, Z, F⟩
  replace H : Hid (On w w2 P x W10) := hideIt (H.out.turn Z F)
  clear Z F
  go_wp2_with fail
  refine (rraise_is H.out.a 8 1 (by decide)).mono ?_
  rintro e w2 ⟨rfl, Z, F⟩
  replace H : Hid (On w w2 P x W11) := hideIt (H.out.turn Z F)
  clear Z F
  go_wp2_with fail
  refine (own_is H.out.a 3 2 4 (by decide)).mono ?_
  rintro e w2 ⟨rfl, Z, F⟩
  replace H : Hid (On w w2 P x _) := hideIt (H.out.turn Z F)
  clear Z F
  go_wp2
  go_ret
  exact ⟨rfl, H.out.gr⟩
end Go.Proofs.Ytekohlbafhlldaa
