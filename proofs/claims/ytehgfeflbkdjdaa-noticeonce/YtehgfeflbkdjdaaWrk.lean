/-
  THE CONTRACT of donjonlaw19's works: true. Words together, plain.
-/
import Derived.Test.YtehgfeflbkdjdaaArgs
namespace Go.Proofs.Ytehgfeflbkdjdaa
set_option maxRecDepth 10000
open Go.RowKit
set_option linter.unusedVariables false

section
variable {w0 w w' w1 : World} {P : Nat → Prop} {p : Nat} {W W' : Int} {b b' : Option Int} {L L' : List Int}
theorem oTurn (h : On (fun w O => NA w O p W b L) w0 w P) (T : NA w' (wide P w w') p W' b' L') (f : Fr P w w') : On (fun w O => NA w O p W' b' L') w0 w' (wide P w w') := On.turn (A' := fun w O => NA w O p W' b' L') h T f
theorem oKept (h : On (fun w O => NA w O p W b L) w0 w P) (g : w.grownBy w' none) : On (fun w O => NA w O p W b L) w0 w' P := On.kept (kNA p W b L) h g
theorem oNew (A1 : NA w1 (fun i => w.heap.size ≤ i ∧ i < w1.heap.size) p 0 none []) (g1 : w.grownBy w1 none) : On (fun w O => NA w O p 0 none []) w w1 (fun i => w.heap.size ≤ i ∧ i < w1.heap.size) := ⟨A1, fun i hi => hi, g1⟩
end
theorem M.or_zero {g : Int} (h : U64 g) : M.or 0 g = g := by
  obtain ⟨n, rfl⟩ : ∃ n : Nat, g = n := ⟨g.toNat, by have := h.1; omega⟩
  have hn : n < 18446744073709551616 := by have := h.2; omega
  unfold M.or
  rw [show (0 : Int) = ((0 : Nat) : Int) from rfl, u64_or_nat 0 n (by decide) (by simpa using hn)]
  simp
/-- Nobody waits, or the word is nought. -/
theorem M.sig_yes {W g : Int} {b : Option Int} {L : List Int} {bd : Bool} (h : L = [] ∨ W = 0) (hg : U64 g) (ho : M.so b L bd = true) : M.sv W b L g bd = M.or W g ∧ M.sw W b L g bd = 0 := by
  cases L with
  | cons x L =>
    obtain rfl : W = 0 := h.resolve_left (by simp)
    exact ⟨(M.or_zero hg).symm, rfl⟩
  | nil =>
    cases b with
    | none => cases bd <;> cases ho
    | some a =>
      cases bd with
      | false => cases ho
      | true => exact ⟨rfl, rfl⟩
theorem M.sig_no {W g : Int} {b : Option Int} {L : List Int} {bd : Bool} (ho : M.so b L bd = false) : M.sw W b L g bd = M.or W g ∧ L = [] := by
  cases L with
  | cons x L => cases ho
  | nil =>
    cases b with
    | none => cases bd <;> exact ⟨rfl, rfl⟩
    | some a =>
      cases bd with
      | false => exact ⟨rfl, rfl⟩
      | true => cases ho

set_option maxHeartbeats 4000000 in
set_option maxRecDepth 100000 in
theorem works_is (w : World) : Calls Try.prog 22 #[] w fun e w' => e = .returned (.bool true) ∧ w.grownBy w' none := by
  go_enter Try.func22, Try.ntmps22
  go_wp2_with fail
  refine (nnew_is w).mono ?_
  rintro e w1 ⟨p, rfl, A1, g1⟩
  have H := hideIt (oNew A1 g1)
  clear A1 g1
  go_wp2_with fail
  refine (signal_is H.out.a (by decide) (by decide) 1 false 0 0 false (by decide) (by kernel_rfl) (by decide)).mono ?_
  rintro e w2 ⟨rfl, Z, F⟩
  rw [show M.sw 0 none [] 1 false = 1 by kernel_rfl] at Z
  replace H : Hid (On (fun w O => NA w O p 1 none []) _ _ _) := hideIt (oTurn H.out Z F)
  clear Z F
  go_wp2_with fail
  refine (signal_is H.out.a (by decide) (by decide) 4 false 0 0 false (by decide) (by kernel_rfl) (by decide)).mono ?_
  rintro e w2 ⟨rfl, Z, F⟩
  rw [show M.sw 1 none [] 4 false = 5 by kernel_rfl] at Z
  replace H : Hid (On (fun w O => NA w O p 5 none []) _ _ _) := hideIt (oTurn H.out Z F)
  clear Z F
  go_wp2_with fail
  refine (wait_is H.out.a (by decide) (by decide) 3 true 5 true 0 (by decide) (by decide) (by decide)).mono ?_
  rintro e w2 ⟨rfl, Z, F⟩
  rw [show M.ww 5 [] 3 = 0 by decide, show M.wl 5 [] 3 true = [] by decide] at Z
  replace H : Hid (On (fun w O => NA w O p 0 none []) _ _ _) := hideIt (oTurn H.out Z F)
  clear Z F
  go_wp2_with fail
  refine (wait_is H.out.a (by decide) (by decide) 3 true 0 false 0 (by decide) (by decide) (by decide)).mono ?_
  rintro e w2 ⟨rfl, Z, F⟩
  rw [show M.ww 0 [] 3 = 0 by decide, show M.wl 0 [] 3 true = [3] by decide] at Z
  replace H : Hid (On (fun w O => NA w O p 0 none [3]) _ _ _) := hideIt (oTurn H.out Z F)
  clear Z F
  go_wp2_with fail
  refine (wait_is H.out.a (by decide) (by decide) 3 true 0 false 4 (by decide) (by decide) (by decide)).mono ?_
  rintro e w2 ⟨rfl, Z, F⟩
  rw [show M.ww 0 [3] 3 = 0 by decide, show M.wl 0 [3] 3 true = [3] by decide] at Z
  replace H : Hid (On (fun w O => NA w O p 0 none [3]) _ _ _) := hideIt (oTurn H.out Z F)
  clear Z F
  go_wp2_with fail
  refine (signal_is H.out.a (by decide) (by decide) 2 false 3 2 true (by decide) (by kernel_rfl) (by decide)).mono ?_
  rintro e w2 ⟨rfl, Z, F⟩
  rw [show M.sw 0 none [3] 2 false = 0 by kernel_rfl] at Z
  replace H : Hid (On (fun w O => NA w O p 0 none []) _ _ _) := hideIt (oTurn H.out Z F)
  clear Z F
  go_wp2_with fail
  refine (bind_is H.out.a 9 0 (by decide)).mono ?_
  rintro e w2 ⟨rfl, Z, F⟩
  rw [show M.bb none 9 = (some 9) by decide] at Z
  replace H : Hid (On (fun w O => NA w O p 0 (some 9) []) _ _ _) := hideIt (oTurn H.out Z F)
  clear Z F
  go_wp2_with fail
  refine (signal_is H.out.a (by decide) (by decide) 8 true 9 8 true (by decide) (by kernel_rfl) (by decide)).mono ?_
  rintro e w2 ⟨rfl, Z, F⟩
  rw [show M.sw 0 (some 9) [] 8 true = 0 by kernel_rfl] at Z
  replace H : Hid (On (fun w O => NA w O p 0 (some 9) []) _ _ _) := hideIt (oTurn H.out Z F)
  clear Z F
  go_wp2_with fail
  refine (bind_is H.out.a 1 4 (by decide)).mono ?_
  rintro e w2 ⟨rfl, Z, F⟩
  rw [show M.bb (some 9) 1 = (some 9) by decide] at Z
  replace H : Hid (On (fun w O => NA w O p 0 (some 9) []) _ _ _) := hideIt (oTurn H.out Z F)
  clear Z F
  go_wp2
  go_ret
  exact ⟨rfl, H.out.gr⟩
end Go.Proofs.Ytehgfeflbkdjdaa
