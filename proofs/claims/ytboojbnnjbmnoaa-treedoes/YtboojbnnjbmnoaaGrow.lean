/-
  AN ACT in a box of five cells; what a law's first loop makes of it.
-/
import Derived.Test.YtboojbnnjbmnoaaFacts
import Derived.Test.YtboojbnnjbmnoaaArgs
namespace Go.Proofs.Ytboojbnnjbmnoaa
open Go.RowKit
set_option linter.unusedVariables false

/-- A block of five cells: an act. -/
structure OBox (w : World) (x : Nat) (k a b c d : Int) : Prop where
  at0 : w.cell? ⟨x, 0, none⟩ = some (.int .i64 k)
  at1 : w.cell? ⟨x, 1, none⟩ = some (.int .i64 a)
  at2 : w.cell? ⟨x, 2, none⟩ = some (.int .i64 b)
  at3 : w.cell? ⟨x, 3, none⟩ = some (.int .i64 c)
  at4 : w.cell? ⟨x, 4, none⟩ = some (.int .i64 d)
  lt : x < w.heap.size
theorem OBox.fr {O : Nat → Prop} {w w' : World} {x : Nat} {k a b c d : Int} (h : OBox w x k a b c d) (F : Fr O w w') (ho : ¬ O x) : OBox w' x k a b c d :=
  ⟨F.cell h.at0 ho, F.cell h.at1 ho, F.cell h.at2 ho, F.cell h.at3 ho, F.cell h.at4 ho, Nat.lt_of_lt_of_le h.lt F.size⟩
theorem OBox.kept {w w' : World} {x : Nat} {k a b c d : Int} (h : OBox w x k a b c d) (g : w.grownBy w' none) : OBox w' x k a b c d := h.fr (O := fun _ => False) (Fr.grown g) (fun e => e)
theorem oboxNew (w : World) (k a b c d : Int) : ∃ W, w.alloc (.cells #[.int .i64 k, .int .i64 a, .int .i64 b, .int .i64 c, .int .i64 d] 33) = W ∧ OBox W w.heap.size k a b c d ∧ w.grownBy W none :=
  ⟨_, rfl, ⟨by simp, by simp, by simp, by simp, by simp, by simp⟩, gbAlloc _ _ _⟩

/-- Behind a call: the tree has become another one; the list and the act are as they were. -/
structure G9b (w w3 : World) (O : Nat → Prop) (p x : Nat) (vin : Value) (f : Fo) (I : List (Int × Int)) (k a b c d : Int) : Prop where
  own : Own w w3 O p f
  far : ∀ g, vin.ownBlock = some g → ¬ O g
  lst : Lst w3 w.heap.size vin I
  box : OBox w3 x k a b c d
theorem G9.after {w W w3 : World} {p x : Nat} {vin : Value} {f f' : Fo} {I : List (Int × Int)} {O : Nat → Prop} {k a b c d : Int} (h1 : Own w W O p f) (h2 : ∀ g, vin.ownBlock = some g → ¬ O g) (l : Lst W w.heap.size vin I) (bx : OBox W x k a b c d) (hx : ¬ O x) (A : Own w w3 (wide O W w3) p f') (F : Fr O W w3) : G9b w w3 (wide O W w3) p x vin f' I k a b c d :=
  ⟨A, (h1.apart l h2 F).2, l.fr F h2, bx.fr F hx⟩
theorem G9b.back {w w3 : World} {O : Nat → Prop} {p x : Nat} {vin : Value} {f f' : Fo} {I : List (Int × Int)} {k a b c d : Int} (h : G9b w w3 O p x vin f' I k a b c d) (e : f' = f) (nd : I.Nodup) (mem : ∀ x, x ∈ I ↔ x ∈ f.pre) : G9 w w3 p vin f I := by
  subst e
  exact ⟨⟨O, h.own, h.far⟩, h.lst, nd, mem⟩
theorem rootE_yes {f : Fo} {s : Int × Int} (h : f.has s = true) : f.rootE s = 4 ∧ f.rootF s = f := by unfold Fo.rootE Fo.rootF; rw [h]; exact ⟨rfl, rfl⟩
theorem rootE_no {f : Fo} {s : Int × Int} (h : f.has s = false) : f.rootE s = 0 := by unfold Fo.rootE; rw [h]; rfl
theorem childE_cases (f : Fo) (o s : Int × Int) : (f.childE o s = 0 ∧ f.has o = true ∧ f.has s = false) ∨ (∃ e, f.childE o s = e ∧ (e == 0) = false ∧ f.childF o s = f) := by
  unfold Fo.childE Fo.childF
  cases ho : f.has o with
  | false => exact .inr ⟨3, rfl, rfl, rfl⟩
  | true =>
    cases hs : f.has s with
    | true => exact .inr ⟨4, rfl, rfl, rfl⟩
    | false => exact .inl ⟨rfl, rfl, rfl⟩

end Go.Proofs.Ytboojbnnjbmnoaa
