/-
  THE CONTRACT of donjonlaw21's works: true. Entries that the call itself writes down.
-/
import Derived.Test.YtpacgdplbddclaaArgs
namespace Go.Proofs.Ytpacgdplbddclaa
set_option maxRecDepth 10000
open Go.RowKit
set_option linter.unusedVariables false

section
variable {w0 w w' w1 : World} {P : Nat → Prop} {p : Nat} {T : List (Int × Int)} {n n' : Nat} {l l' : Int} {F F' : Nat → List (Int × Int)}
theorem oTurn (h : On (fun w O => SA w O p T n l F) w0 w P) (Z : SA w' (wide P w w') p T n' l' F') (f : Fr P w w') : On (fun w O => SA w O p T n' l' F') w0 w' (wide P w w') := On.turn (A' := fun w O => SA w O p T n' l' F') h Z f
theorem oKept (h : On (fun w O => SA w O p T n l F) w0 w P) (g : w.grownBy w' none) : On (fun w O => SA w O p T n l F) w0 w' P := On.kept (kSA p T n l F) h g
theorem oNew (g0 : w0.grownBy w none) (A1 : SA w1 (fun i => w.heap.size ≤ i ∧ i < w1.heap.size) p T n l F) (g1 : w.grownBy w1 none) : On (fun w O => SA w O p T n l F) w0 w1 (fun i => w.heap.size ≤ i ∧ i < w1.heap.size) :=
  ⟨A1, fun i hi => by have := g0.size; omega, gbTrans g0 g1⟩
end
theorem pairs1 (w : World) (a b : Int) : Pairs (w.alloc (.cells #[.int .i64 a, .int .i64 b] 49)) (some ⟨w.heap.size, 0, none⟩) [(a, b)] := by
  intro i o h
  have hi := (List.getElem?_eq_some_iff.1 h).1
  simp at hi
  subst hi
  simp at h
  subst h
  exact ⟨_, rfl, by rw [addAt]; simp, by rw [addAt]; simp⟩
theorem pairs2 (w : World) (a b c d : Int) : Pairs (w.alloc (.cells #[.int .i64 a, .int .i64 b, .int .i64 c, .int .i64 d] 49)) (some ⟨w.heap.size, 0, none⟩) [(a, b), (c, d)] := by
  intro i o h
  have hi := (List.getElem?_eq_some_iff.1 h).1
  simp at hi
  have : i = 0 ∨ i = 1 := by omega
  rcases this with rfl | rfl
  · simp at h
    subst h
    exact ⟨_, rfl, by rw [addAt]; simp, by rw [addAt]; simp⟩
  · simp at h
    subst h
    exact ⟨_, rfl, by rw [addAt]; simp, by rw [addAt]; simp⟩
theorem pairs0 (w : World) : Pairs w none [] := fun i o h => by simp at h
/-- New, of entries that are a schedule. -/
theorem snew_ok (w : World) (x : Option Addr) (n cap : Nat) (T : List (Int × Int)) (h : Pairs w x T) (hn : T.length = n) (ok : M.Ok T) :
    Calls Try.prog 8 #[.slice x n cap] w fun e w' => ∃ p, e = .returned (.tuple #[ptr p, .int .i64 0]) ∧ SA w' (fun i => w.heap.size ≤ i ∧ i < w'.heap.size) p T 0 (M.tt T 0) (fun _ => []) ∧ w.grownBy w' none := by
  refine (snew_is w x n cap T h hn 0 (by rw [M.ok_iff.2 ok]; rfl)).mono ?_
  rintro e w1 ⟨q, rfl, g, _, h2⟩
  obtain ⟨_, _, p, rfl, A⟩ := h2 (by decide)
  exact ⟨p, rfl, A, g⟩
abbrev wT : List (Int × Int) := [(0, 2), (1, 1)]
theorem wOk : M.Ok wT := M.ok_iff.1 (by decide)
abbrev wF1 : Nat → List (Int × Int) := M.sp (fun _ => []) 5 1 3
abbrev wF2 : Nat → List (Int × Int) := M.sp wF1 6 0 1
set_option maxHeartbeats 4000000 in
set_option maxRecDepth 100000 in
theorem works_is (w : World) : Calls Try.prog 25 #[] w fun e w' => e = .returned (.bool true) ∧ w.grownBy w' none := by
  go_enter Try.func25, Try.ntmps25
  go_wp2_with fail
  refine (snew_ok _ _ 2 2 wT (pairs2 w 0 2 1 1) rfl wOk).mono ?_
  rintro e w1 ⟨p, rfl, A1, g1⟩
  have H := hideIt (oNew (gbAlloc w (.cells #[.int .i64 0, .int .i64 2, .int .i64 1, .int .i64 1] 49) none) A1 g1)
  clear A1 g1
  rw [show M.tt wT 0 = 2 by decide] at H
  have p0 := hideIt (M.Ps.zero wOk)
  rw [show M.tt wT 0 = 2 by decide] at p0
  have p1 := hideIt (p0.out.tick wOk)
  rw [show M.tn wT 0 2 = 0 by decide, show M.tl wT 0 2 = 1 by decide] at p1
  have p2 := hideIt (p1.out.tick wOk)
  rw [show M.tn wT 0 1 = 1 by decide, show M.tl wT 0 1 = 1 by decide] at p2
  have p3 := hideIt (p2.out.tick wOk)
  rw [show M.tn wT 1 1 = 0 by decide, show M.tl wT 1 1 = 2 by decide] at p3
  have G0 := hideIt M.GF.nil
  have G1 : Hid (M.GF wF1) := hideIt (G0.out.put 5 1 3)
  have G2 : Hid (M.GF wF2) := hideIt (G1.out.put 6 0 1)
  go_wp2_with fail
  refine (sput_is H.out.a G0.out 5 1 3 0 (by decide)).mono ?_
  rintro e w2 ⟨rfl, Z, f⟩
  replace H : Hid (On (fun w O => SA w O p wT 0 2 wF1) _ _ _) := hideIt (oTurn H.out Z f)
  clear Z f
  go_wp2_with fail
  refine (sput_is H.out.a G1.out 5 0 3 4 (by decide)).mono ?_
  rintro e w2 ⟨rfl, Z, f⟩
  rw [show M.sp wF1 5 0 3 = wF1 by unfold M.sp; rw [if_neg (by decide)]] at Z
  replace H : Hid (On (fun w O => SA w O p wT 0 2 wF1) _ _ _) := hideIt (oTurn H.out Z f)
  clear Z f
  go_wp2_with fail
  refine (sput_is H.out.a G1.out 6 0 1 0 (by decide)).mono ?_
  rintro e w2 ⟨rfl, Z, f⟩
  replace H : Hid (On (fun w O => SA w O p wT 0 2 wF2) _ _ _) := hideIt (oTurn H.out Z f)
  clear Z f
  go_wp2_with fail
  refine (pick_is H.out.a wOk p0.out G2.out 0 (by decide) 6 true (by decide) (by decide)).mono ?_
  rintro e w2 ⟨rfl, g⟩
  replace H := hideIt (oKept H.out g)
  clear g
  go_wp2_with fail
  refine (tick_is H.out.a wOk p0.out false (by decide)).mono ?_
  rintro e w2 ⟨rfl, Z, f⟩
  rw [show M.tn wT 0 2 = 0 by decide, show M.tl wT 0 2 = 1 by decide] at Z
  replace H : Hid (On (fun w O => SA w O p wT 0 1 wF2) _ _ _) := hideIt (oTurn H.out Z f)
  clear Z f
  go_wp2_with fail
  refine (tick_is H.out.a wOk p1.out true (by decide)).mono ?_
  rintro e w2 ⟨rfl, Z, f⟩
  rw [show M.tn wT 0 1 = 1 by decide, show M.tl wT 0 1 = 1 by decide] at Z
  replace H : Hid (On (fun w O => SA w O p wT 1 1 wF2) _ _ _) := hideIt (oTurn H.out Z f)
  clear Z f
  go_wp2_with fail
  refine (pick_is H.out.a wOk p2.out G2.out 1 (by decide) 5 true (by decide) (by decide)).mono ?_
  rintro e w2 ⟨rfl, g⟩
  replace H := hideIt (oKept H.out g)
  clear g
  go_wp2_with fail
  refine (domain_is H.out.a p2.out.lt (by decide)).mono ?_
  rw [show M.dm wT 1 = 1 by decide]
  rintro e w2 ⟨rfl, g⟩
  replace H := hideIt (oKept H.out g)
  clear g
  go_wp2_with fail
  refine (tick_is H.out.a wOk p2.out true (by decide)).mono ?_
  rintro e w2 ⟨rfl, Z, f⟩
  rw [show M.tn wT 1 1 = 0 by decide, show M.tl wT 1 1 = 2 by decide] at Z
  replace H : Hid (On (fun w O => SA w O p wT 0 2 wF2) _ _ _) := hideIt (oTurn H.out Z f)
  clear Z f
  go_wp2_with fail
  refine (snew_is _ none 0 0 [] (pairs0 _) rfl 1 (by decide)).mono ?_
  rintro e w2 ⟨q, rfl, g, _⟩
  replace H := hideIt (oKept H.out g)
  clear g
  go_wp2_with fail
  refine (domain_is H.out.a p3.out.lt (by decide)).mono ?_
  rw [show M.dm wT 0 = 0 by decide]
  rintro e w2 ⟨rfl, g⟩
  replace H := hideIt (oKept H.out g)
  clear g
  go_wp2
  go_ret
  exact ⟨rfl, H.out.gr⟩
end Go.Proofs.Ytpacgdplbddclaa
