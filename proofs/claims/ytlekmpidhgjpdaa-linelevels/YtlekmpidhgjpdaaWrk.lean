/-
  THE CONTRACT of donjonlaw17's works: true.
-/
import Derived.Test.YtlekmpidhgjpdaaRdz
import Derived.Test.YtlekmpidhgjpdaaArgs
namespace Go.Proofs.Ytlekmpidhgjpdaa
set_option maxRecDepth 10000
open Go.RowKit
set_option linter.unusedVariables false

theorem kRA (p : Nat) (D : List (Int × Int)) : Keeps (fun w O => RA w O p D) := fun _ _ _ _ h F hd => h.fr F hd
theorem kLA (p : Nat) (L : List Int) : Keeps (fun w O => LA w O p L) := keepsHA eI 3 1 p L
/-- A Ready and a Line, side by side. -/
abbrev RL (w0 w : World) (P R : Nat → Prop) (p q : Nat) (D : List (Int × Int)) (L : List Int) : Prop := Tw (fun w O => RA w O p D) (fun w O => LA w O q L) w0 w P R
section
variable {w0 w w' : World} {P R : Nat → Prop} {p q : Nat} {D D' : List (Int × Int)} {L L' : List Int}
theorem RL.pr (h : RL w0 w P R p q D L) (T : RA w' (wide P w w') p D') (k : Fr P w w') : RL w0 w' (wide P w w') R p q D' L := Tw.prog (A' := fun w O => RA w O p D') (kLA q L) h T k
theorem RL.dc (h : RL w0 w P R p q D L) (T : LA w' (wide R w w') q L') (k : Fr R w w') : RL w0 w' P (wide R w w') p q D L' := Tw.doc (B' := fun w O => LA w O q L') (kRA p D) h T k
theorem RL.kp (h : RL w0 w P R p q D L) (g : w.grownBy w' none) : RL w0 w' P R p q D L := Tw.kept (kRA p D) (kLA q L) h g
end
theorem gdOf (D : List (Int × Int)) (h : (M.ids D).Nodup ∧ ∀ o ∈ D, 0 ≤ o.2 ∧ o.2 < 8) : M.Gd D := ⟨h.1, fun a l hm => h.2 (a, l) hm⟩

set_option maxHeartbeats 4000000 in
set_option maxRecDepth 100000 in
theorem works_is (w : World) : Calls Try.prog 28 #[] w fun e w' => e = .returned (.bool true) ∧ w.grownBy w' none := by
  go_enter Try.func28, Try.ntmps28
  go_wp2_with fail
  refine (newReady_is w).mono ?_
  rintro e w1 ⟨rfl, A1, s1, g1⟩
  have A1 := hideIt A1
  go_wp2_with fail
  refine (new_is w1).mono ?_
  rintro e w2 ⟨rfl, A2, s2, g2⟩
  have H : Hid (RL w w2 (fun i => i = w.heap.size) (fun i => i = w1.heap.size) w.heap.size w1.heap.size [] []) := hideIt ⟨A1.out.kept g2, A2, fun i hi => by subst hi; omega, fun i hi => by subst hi; omega, fun i hi e => by omega, gbTrans g1 g2⟩
  clear A1 A2 s1 s2 g1 g2
  obtain ⟨p, hp⟩ : ∃ p, w.heap.size = p := ⟨_, rfl⟩
  obtain ⟨q, hq⟩ : ∃ q, w1.heap.size = q := ⟨_, rfl⟩
  rw [hp, hq] at H
  rw [hp, hq]
  clear hp hq
  go_wp2_with fail
  refine (put_is H.out.a (gdOf [] (by decide)) (by decide) 3 1 0 (by decide)).mono ?_
  rintro e w2 ⟨rfl, Z, F⟩
  replace H : Hid (RL _ _ _ _ _ _ [(3, 1)] []) := hideIt (H.out.pr Z F)
  clear Z F
  go_wp2_with fail
  refine (put_is H.out.a (gdOf [(3, 1)] (by decide)) (by decide) 4 5 0 (by decide)).mono ?_
  rintro e w2 ⟨rfl, Z, F⟩
  replace H : Hid (RL _ _ _ _ _ _ [(3, 1), (4, 5)] []) := hideIt (H.out.pr Z F)
  clear Z F
  go_wp2_with fail
  refine (put_is H.out.a (gdOf [(3, 1), (4, 5)] (by decide)) (by decide) 5 5 0 (by decide)).mono ?_
  rintro e w2 ⟨rfl, Z, F⟩
  replace H : Hid (RL _ _ _ _ _ _ [(3, 1), (4, 5), (5, 5)] []) := hideIt (H.out.pr Z F)
  clear Z F
  go_wp2_with fail
  refine (push_is H.out.b (by decide) 7 0 (by decide)).mono ?_
  rintro e w2 ⟨rfl, Z, F⟩
  replace H : Hid (RL _ _ _ _ _ _ [(3, 1), (4, 5), (5, 5)] [7]) := hideIt (H.out.dc Z F)
  clear Z F
  go_wp2_with fail
  refine (push_is H.out.b (by decide) 7 4 (by decide)).mono ?_
  rintro e w2 ⟨rfl, Z, F⟩
  replace H : Hid (RL _ _ _ _ _ _ [(3, 1), (4, 5), (5, 5)] [7]) := hideIt (H.out.dc Z F)
  clear Z F
  go_wp2_with fail
  refine (push_is H.out.b (by decide) 64 1 (by decide)).mono ?_
  rintro e w2 ⟨rfl, Z, F⟩
  replace H : Hid (RL _ _ _ _ _ _ [(3, 1), (4, 5), (5, 5)] [7]) := hideIt (H.out.dc Z F)
  clear Z F
  go_wp2_with fail
  refine (next_is H.out.a (by decide) 4 true (by decide) (by decide)).mono ?_
  rintro e w2 ⟨rfl, g⟩
  replace H := hideIt (H.out.kp g)
  clear g
  go_wp2_with fail
  refine (levels_is H.out.a (by decide) 34 (by decide)).mono ?_
  rintro e w2 ⟨rfl, g⟩
  replace H := hideIt (H.out.kp g)
  clear g
  go_wp2_with fail
  refine (drop_is H.out.a (gdOf [(3, 1), (4, 5), (5, 5)] (by decide)) (by decide) 4 true (by decide)).mono ?_
  rintro e w2 ⟨rfl, Z, F⟩
  replace H : Hid (RL _ _ _ _ _ _ [(3, 1), (5, 5)] [7]) := hideIt (H.out.pr Z F)
  clear Z F
  go_wp2_with fail
  refine (drop_is H.out.a (gdOf [(3, 1), (5, 5)] (by decide)) (by decide) 5 true (by decide)).mono ?_
  rintro e w2 ⟨rfl, Z, F⟩
  replace H : Hid (RL _ _ _ _ _ _ [(3, 1)] [7]) := hideIt (H.out.pr Z F)
  clear Z F
  go_wp2_with fail
  refine (next_is H.out.a (by decide) 3 true (by decide) (by decide)).mono ?_
  rintro e w2 ⟨rfl, g⟩
  replace H := hideIt (H.out.kp g)
  clear g
  go_wp2_with fail
  refine (pop_is H.out.b (by decide) (by decide) 7 true (by decide) (by decide)).mono ?_
  rintro e w2 ⟨rfl, Z, F⟩
  replace H : Hid (RL _ _ _ _ _ _ [(3, 1)] []) := hideIt (H.out.dc Z F)
  clear Z F
  go_wp2_with fail
  refine (pop_is H.out.b (by decide) (by decide) 0 false (by decide) (by decide)).mono ?_
  rintro e w2 ⟨rfl, Z, F⟩
  replace H : Hid (RL _ _ _ _ _ _ [(3, 1)] []) := hideIt (H.out.dc Z F)
  clear Z F
  go_wp2_with fail
  refine (drop_is H.out.a (gdOf [(3, 1)] (by decide)) (by decide) 5 false (by decide)).mono ?_
  rintro e w2 ⟨rfl, Z, F⟩
  replace H : Hid (RL _ _ _ _ _ _ [(3, 1)] []) := hideIt (H.out.pr Z F)
  clear Z F
  go_wp2
  go_ret
  exact ⟨rfl, H.out.gr⟩
end Go.Proofs.Ytlekmpidhgjpdaa
