/-
  WHAT COMES IN: a span by value; a list of spans.
-/
import Derived.Test.YtadllapdhdjpbaaLists
import Derived.Lib.SmallJoins
import Derived.Deep.Slices
import Derived.OpenShut
namespace Go.Proofs.Ytadllapdhdjpbaa
open Go.ChangeShapes Go.WideShapes Go.ChangeAt Go.RowKit

theorem endWalk {P : Program} {f : FuncId} {args : Array Value} {w : World} (h : Calls P f args w fun e w' => e = .returned (.bool true) ∧ w.grownBy w' none) :
    Calls P f args w fun e w' => e = .returned (.bool true) ∧ Below w.heap.size w w' :=
  h.mono fun _ _ k => ⟨k.1, gbEnd k.2⟩

theorem spanArg {H : Type} {enc : TypeId × Value → H} {W : World} {r : Reach} {b0 base : Nat} {spare : Nat → Bool} {held : Bool} {v : Value} {d : DataW H} {p : List MemPlace}
    (hv : Value.okWide Try.prog W r b0 23 v) (h : DataW.Trod enc Try.prog W base spare held 23 v d p) : ∃ A B : Int, v = sp A B := by
  obtain ⟨v0, v1, y0, y1, n, rfl, _, _, h0, h1⟩ := Go.Joins.open_agg2 Try.underlying23 (by kernel_rfl) (by kernel_rfl) hv h
  obtain ⟨A, e0, _⟩ := DataW.trod_int Try.underlying3 h0
  obtain ⟨B, e1, _⟩ := DataW.trod_int Try.underlying3 h1
  simp only [List.cons.injEq, and_true] at e0 e1
  subst e0; subst e1
  exact ⟨A, B, rfl⟩

theorem add_pos (y : Addr) (j : Nat) (h : j ≠ 0) : y.add j = ⟨y.block, y.off + j, none⟩ := by unfold Addr.add; rw [if_neg h]

/-- Down to the spans' cells. -/
theorem spanCells {H : Type} {enc : TypeId × Value → H} {W : World} {base fuel : Nat} {spare : Nat → Bool} {held : Bool} {a : Option Addr} {len cap : Nat} {x : DataW H × List MemPlace}
    (h : DataW.trod enc Try.prog W base spare held fuel 29 [.slice a len cap] = some x) : ∀ i, i < len → ∃ x A B, a = some x ∧ El W (x.add (i * 2)) A B := by
  intro i hi
  rcases Deep.open_slice Try.underlying29 h with ⟨hcs, _⟩ | ⟨y, l, c, m, n, D, Pl, hcs, _, hl, _, hm, _, hx⟩
  · simp at hcs; omega
  · simp at hcs
    obtain ⟨rfl, rfl, rfl⟩ := hcs
    have hlm : len ≤ m := by rw [hm]; split <;> omega
    obtain ⟨cs', h1, h2⟩ := hx i (by omega)
    have ce : Try.prog.cellsOf 23 = 2 := by kernel_rfl
    rw [ce] at h1
    obtain ⟨_, hlen, hcell⟩ := World.cells?_some h1
    obtain ⟨xs, k, hk, hxy, _, hxl, hf⟩ := DataW.trod_struct Try.underlying23 h2
    have c3 : Try.prog.cellsOf 3 = 1 := by kernel_rfl
    match xs, hxl, cs', hlen with
    | [y0, y1], _, [v0, v1], _ =>
      have g0 : DataW.trod enc Try.prog W base spare held k 3 [v0] = some y0 := by have := hf 0 _ rfl; simpa [c3] using this
      have g1 : DataW.trod enc Try.prog W base spare held k 3 [v1] = some y1 := by have := hf 1 _ rfl; simpa [c3] using this
      obtain ⟨A, e0, _⟩ := DataW.trod_int Try.underlying3 g0
      obtain ⟨B, e1, _⟩ := DataW.trod_int Try.underlying3 g1
      simp only [List.cons.injEq, and_true] at e0 e1
      subst e0; subst e1
      have d0 := hcell 0 (by omega)
      have d1 := hcell 1 (by omega)
      rw [add_pos _ _ (by decide)] at d1
      have z : (y.add (i * 2)).add 0 = y.add (i * 2) := by unfold Addr.add; simp
      rw [z] at d0
      exact ⟨y, A, B, rfl, d0, d1⟩

/-- A list that is read off cell by cell. -/
theorem listOf (W : World) (x : Addr) : ∀ len : Nat, (∀ i, i < len → ∃ A B, El W (x.add (i * 2)) A B) → ∃ L : List (Int × Int), L.length = len ∧ Row W x L
  | 0, _ => ⟨[], rfl, fun i p hp => by simp at hp⟩
  | n + 1, h => by
    obtain ⟨L, hl, hr⟩ := listOf W x n (fun i hi => h i (by omega))
    obtain ⟨A, B, e⟩ := h n (by omega)
    refine ⟨L ++ [(A, B)], by simp [hl], fun i p hp => ?_⟩
    by_cases hi : i < L.length
    · rw [List.getElem?_append_left hi] at hp; exact hr i p hp
    · have hi2 : i < (L ++ [(A, B)]).length := (List.getElem?_eq_some_iff.1 hp).1
      rw [List.length_append, List.length_singleton] at hi2
      obtain rfl : i = n := by omega
      rw [List.getElem?_append_right (by omega), hl, Nat.sub_self] at hp
      simp at hp; subst hp; exact e

/-- A list of spans that comes in: nil, or its elements lie from an address on. -/
theorem spansArg {H : Type} {enc : TypeId × Value → H} {W : World} {base : Nat} {spare : Nat → Bool} {held : Bool} {a : Option Addr} {len cap : Nat} {d : DataW H} {p : List MemPlace}
    (h : DataW.Trod enc Try.prog W base spare held 29 (.slice a len cap) d p) : ∃ L : List (Int × Int), L.length = len ∧ (∀ x, a = some x → Row W x L) ∧ (a = none → len = 0) := by
  obtain ⟨fuel, hf⟩ := h
  have hc := spanCells hf
  cases a with
  | none =>
    have : len = 0 := Classical.byContradiction fun e => by obtain ⟨x, _, _, hx, _⟩ := hc 0 (by omega); cases hx
    exact ⟨[], this.symm, (fun x hx => nomatch hx), fun _ => this⟩
  | some x =>
    obtain ⟨L, hl, hr⟩ := listOf W x len (fun i hi => by obtain ⟨y, A, B, hy, e⟩ := hc i hi; cases hy; exact ⟨A, B, e⟩)
    exact ⟨L, hl, (fun y hy => by cases hy; exact hr), fun e => nomatch e⟩

end Go.Proofs.Ytadllapdhdjpbaa
