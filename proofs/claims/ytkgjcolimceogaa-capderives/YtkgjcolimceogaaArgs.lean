/-
  WHAT COMES IN: a capability by value; what is asked for, by value.
-/
import Derived.Test.YtkgjcolimceogaaBase
import Derived.Lib.SmallJoins
import Derived.Deep.Slices
import Derived.OpenShut
namespace Go.Proofs.Ytkgjcolimceogaa
open Go.ChangeShapes Go.WideShapes Go.ChangeAt Go.RowKit

/-- A number that a word of 64 bits holds. -/
def U64 (a : Int) : Prop := 0 ≤ a ∧ a < 18446744073709551616

theorem u64_wf {a : Int} (h : (Lit.int .u64 a).wf = true) : U64 a := by
  unfold Lit.wf at h
  rw [Bool.and_eq_true, decide_eq_true_eq, decide_eq_true_eq] at h
  have e1 : IntKind.u64.min = 0 := by decide
  have e2 : IntKind.u64.max = 18446744073709551615 := by decide
  rw [e1, e2] at h
  unfold U64
  omega

theorem endWalk {P : Program} {f : FuncId} {args : Array Value} {w : World} (h : Calls P f args w fun e w' => e = .returned (.bool true) ∧ w.grownBy w' none) :
    Calls P f args w fun e w' => e = .returned (.bool true) ∧ Below w.heap.size w w' :=
  h.mono fun _ _ k => ⟨k.1, gbEnd k.2⟩

theorem capArg {H : Type} {enc : TypeId × Value → H} {W : World} {r : Reach} {b0 base : Nat} {spare : Nat → Bool} {held : Bool} {v : Value} {d : DataW H} {p : List MemPlace}
    (hv : Value.okWide Try.prog W r b0 24 v) (h : DataW.Trod enc Try.prog W base spare held 24 v d p) : ∃ k o r b g n : Int, v = cv ⟨k, o, r, b, g, n⟩ ∧ U64 b ∧ U64 g := by
  obtain ⟨cs, rfl, hsz⟩ := okWide_struct Try.underlying24 hv
  have ce : Try.prog.cellsOf 24 = 6 := by kernel_rfl
  rw [ce] at hsz
  obtain ⟨fuel, hf⟩ := h
  obtain ⟨xs, k, _, _, _, hxl, hf⟩ := DataW.trod_struct Try.underlying24 hf
  have c3 : Try.prog.cellsOf 3 = 1 := by kernel_rfl
  have c4 : Try.prog.cellsOf 22 = 1 := by kernel_rfl
  obtain ⟨l⟩ := cs
  match xs, hxl, l, hsz with
  | [y0, y1, y2, y3, y4, y5], _, [v0, v1, v2, v3, v4, v5], _ =>
    have g0 : DataW.trod enc Try.prog W base spare held k 3 [v0] = some y0 := by have := hf 0 _ rfl; simpa [c3, Value.cells] using this
    have g1 : DataW.trod enc Try.prog W base spare held k 3 [v1] = some y1 := by have := hf 1 _ rfl; simpa [c3, Value.cells] using this
    have g2 : DataW.trod enc Try.prog W base spare held k 3 [v2] = some y2 := by have := hf 2 _ rfl; simpa [c3, Value.cells] using this
    have g3 : DataW.trod enc Try.prog W base spare held k 22 [v3] = some y3 := by have := hf 3 _ rfl; simpa [c4, Value.cells] using this
    have g4 : DataW.trod enc Try.prog W base spare held k 22 [v4] = some y4 := by have := hf 4 _ rfl; simpa [c4, Value.cells] using this
    have g5 : DataW.trod enc Try.prog W base spare held k 3 [v5] = some y5 := by have := hf 5 _ rfl; simpa [c3, Value.cells] using this
    obtain ⟨A0, e0, _⟩ := DataW.trod_int Try.underlying3 g0
    obtain ⟨A1, e1, _⟩ := DataW.trod_int Try.underlying3 g1
    obtain ⟨A2, e2, _⟩ := DataW.trod_int Try.underlying3 g2
    obtain ⟨A3, e3, _, f3⟩ := DataW.trod_int Try.underlying22 g3
    obtain ⟨A4, e4, _, f4⟩ := DataW.trod_int Try.underlying22 g4
    obtain ⟨A5, e5, _⟩ := DataW.trod_int Try.underlying3 g5
    simp only [List.cons.injEq, and_true] at e0 e1 e2 e3 e4 e5
    subst e0 e1 e2 e3 e4 e5
    exact ⟨A0, A1, A2, A3, A4, A5, rfl, u64_wf f3, u64_wf f4⟩

/-- What is asked for, as a value. -/
abbrev av (r b g n : Int) : Value := .agg #[.int .i64 r, .int .u64 b, .int .u64 g, .int .i64 n]

theorem askArg {H : Type} {enc : TypeId × Value → H} {W : World} {r : Reach} {b0 base : Nat} {spare : Nat → Bool} {held : Bool} {v : Value} {d : DataW H} {p : List MemPlace}
    (hv : Value.okWide Try.prog W r b0 33 v) (h : DataW.Trod enc Try.prog W base spare held 33 v d p) : ∃ r b g n : Int, v = av r b g n ∧ U64 b ∧ U64 g := by
  obtain ⟨v0, v1, v2, v3, y0, y1, y2, y3, n, rfl, _, _, h0, h1, h2, h3⟩ := Go.Joins.open_agg4 Try.underlying33 (by kernel_rfl) (by kernel_rfl) hv h
  obtain ⟨A0, e0, _⟩ := DataW.trod_int Try.underlying3 h0
  obtain ⟨A1, e1, _, f1⟩ := DataW.trod_int Try.underlying22 h1
  obtain ⟨A2, e2, _, f2⟩ := DataW.trod_int Try.underlying22 h2
  obtain ⟨A3, e3, _⟩ := DataW.trod_int Try.underlying3 h3
  simp only [List.cons.injEq, and_true] at e0 e1 e2 e3
  subst e0 e1 e2 e3
  exact ⟨A0, A1, A2, A3, rfl, u64_wf f1, u64_wf f2⟩
end Go.Proofs.Ytkgjcolimceogaa
