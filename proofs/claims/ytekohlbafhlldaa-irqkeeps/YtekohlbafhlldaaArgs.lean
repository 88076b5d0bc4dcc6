/-
  WHAT COMES IN: a list of acts (donjonlaw22's Op: three cells), a list of numbers. Two things side by side, all new.
-/
import Derived.Test.YtekohlbafhlldaaIqc
import Derived.Lib.SmallJoins
import Derived.ProofKit
import Derived.OpenShut
import Derived.Below
import Derived.Deep.Slices
namespace Go.Proofs.Ytekohlbafhlldaa
set_option maxRecDepth 10000
open Go.ChangeShapes Go.WideShapes Go.ChangeAt Go.RowKit
set_option linter.unusedVariables false

theorem endWalk {P : Program} {f : FuncId} {args : Array Value} {w : World} (h : Calls P f args w fun e w' => e = .returned (.bool true) ∧ w.grownBy w' none) :
    Calls P f args w fun e w' => e = .returned (.bool true) ∧ Below w.heap.size w w' :=
  h.mono fun _ _ k => ⟨k.1, gbEnd k.2⟩

theorem intCells {H : Type} {enc : TypeId × Value → H} {W : World} {base fuel : Nat} {spare : Nat → Bool} {held : Bool} {a : Option Addr} {len cap : Nat} {x : DataW H × List MemPlace}
    (h : DataW.trod enc Try.prog W base spare held fuel 41 [.slice a len cap] = some x) : ∀ i, i < len → ∃ x z, a = some x ∧ W.cell? (x.add i) = some (.int .i64 z) := by
  intro i hi
  rcases Deep.open_slice Try.underlying41 h with ⟨hcs, _⟩ | ⟨y, l, c, m, n, D, Pl, hcs, _, hl, _, hm, _, hx⟩
  · simp at hcs; omega
  · simp at hcs
    obtain ⟨rfl, rfl, rfl⟩ := hcs
    have hlm : len ≤ m := by rw [hm]; split <;> omega
    obtain ⟨cs', h1, h2⟩ := hx i (by omega)
    have ce : Try.prog.cellsOf 3 = 1 := by kernel_rfl
    rw [ce] at h1
    obtain ⟨_, hlen, hcell⟩ := World.cells?_some h1
    match cs', hlen with
    | [v0], _ =>
      obtain ⟨A0, e0, _⟩ := DataW.trod_int Try.underlying3 h2
      simp only [List.cons.injEq, and_true] at e0
      subst e0
      have d0 := hcell 0 (by omega)
      have z : (y.add (i * 1)).add 0 = y.add i := by unfold Addr.add; simp
      rw [z] at d0
      exact ⟨y, A0, rfl, d0⟩
theorem intsArg {H : Type} {enc : TypeId × Value → H} {W : World} {base : Nat} {spare : Nat → Bool} {held : Bool} {a : Option Addr} {len cap : Nat} {d : DataW H} {p : List MemPlace}
    (h : DataW.Trod enc Try.prog W base spare held 41 (.slice a len cap) d p) : ∀ i, i < len → ∃ x z, a = some x ∧ W.cell? (x.add i) = some (.int .i64 z) := by
  obtain ⟨fuel, hf⟩ := h
  exact intCells hf

theorem add_pos (y : Addr) (j : Nat) (h : j ≠ 0) : y.add j = ⟨y.block, y.off + j, none⟩ := by unfold Addr.add; rw [if_neg h]

/-- An act. -/
structure Q where
  k : Int
  n : Int
  d : Int
/-- An act in memory, from an address on. -/
structure El3 (w : World) (y : Addr) (q : Q) : Prop where
  at0 : w.cell? y = some (.int .i64 q.k)
  at1 : w.cell? ⟨y.block, y.off + 1, none⟩ = some (.int .i64 q.n)
  at2 : w.cell? ⟨y.block, y.off + 2, none⟩ = some (.int .i64 q.d)
theorem El3.kept {w w' : World} {y : Addr} {q : Q} (h : El3 w y q) (g : w.grownBy w' none) : El3 w' y q :=
  ⟨g.cell h.at0 (by simp), g.cell h.at1 (by simp), g.cell h.at2 (by simp)⟩

theorem opCells {H : Type} {enc : TypeId × Value → H} {W : World} {base fuel : Nat} {spare : Nat → Bool} {held : Bool} {a : Option Addr} {len cap : Nat} {x : DataW H × List MemPlace}
    (h : DataW.trod enc Try.prog W base spare held fuel 22 [.slice a len cap] = some x) : ∀ i, i < len → ∃ x q, a = some x ∧ El3 W (x.add (i * 3)) q := by
  intro i hi
  rcases Deep.open_slice Try.underlying22 h with ⟨hcs, _⟩ | ⟨y, l, c, m, n, D, Pl, hcs, _, hl, _, hm, _, hx⟩
  · simp at hcs; omega
  · simp at hcs
    obtain ⟨rfl, rfl, rfl⟩ := hcs
    have hlm : len ≤ m := by rw [hm]; split <;> omega
    obtain ⟨cs', h1, h2⟩ := hx i (by omega)
    have ce : Try.prog.cellsOf 28 = 3 := by kernel_rfl
    rw [ce] at h1
    obtain ⟨_, hlen, hcell⟩ := World.cells?_some h1
    obtain ⟨xs, k, hk, hxy, _, hxl, hf⟩ := DataW.trod_struct Try.underlying28 h2
    have c1 : Try.prog.cellsOf 3 = 1 := by kernel_rfl
    match xs, hxl, cs', hlen with
    | [y0, y1, y2], _, [v0, v1, v2], _ =>
      have g0 : DataW.trod enc Try.prog W base spare held k 3 [v0] = some y0 := by have := hf 0 _ rfl; simpa [c1] using this
      have g1 : DataW.trod enc Try.prog W base spare held k 3 [v1] = some y1 := by have := hf 1 _ rfl; simpa [c1] using this
      have g2 : DataW.trod enc Try.prog W base spare held k 3 [v2] = some y2 := by have := hf 2 _ rfl; simpa [c1] using this
      obtain ⟨A0, e0, _⟩ := DataW.trod_int Try.underlying3 g0
      obtain ⟨A1, e1, _⟩ := DataW.trod_int Try.underlying3 g1
      obtain ⟨A2, e2, _⟩ := DataW.trod_int Try.underlying3 g2
      simp only [List.cons.injEq, and_true] at e0 e1 e2
      subst e0; subst e1; subst e2
      have d0 := hcell 0 (by omega)
      have d1 := hcell 1 (by omega)
      have d2 := hcell 2 (by omega)
      rw [add_pos _ _ (by decide)] at d1 d2
      have z : (y.add (i * 3)).add 0 = y.add (i * 3) := by unfold Addr.add; simp
      rw [z] at d0
      exact ⟨y, ⟨A0, A1, A2⟩, rfl, ⟨d0, d1, d2⟩⟩
/-- A list that comes in: each of its elements lies where it lies. -/
theorem opsArg {H : Type} {enc : TypeId × Value → H} {W : World} {base : Nat} {spare : Nat → Bool} {held : Bool} {a : Option Addr} {len cap : Nat} {d : DataW H} {p : List MemPlace}
    (h : DataW.Trod enc Try.prog W base spare held 22 (.slice a len cap) d p) : ∀ i, i < len → ∃ x q, a = some x ∧ El3 W (x.add (i * 3)) q := by
  obtain ⟨fuel, hf⟩ := h
  exact opCells hf
/-- The acts that come in. -/
def Acts3 (w : World) (a : Option Addr) (len : Nat) : Prop := ∀ i, i < len → ∃ x q, a = some x ∧ El3 w (x.add (i * 3)) q
theorem Acts3.kept {w w' : World} {a : Option Addr} {len : Nat} (h : Acts3 w a len) (g : w.grownBy w' none) : Acts3 w' a len := fun i hi => by
  obtain ⟨x, q, h1, h2⟩ := h i hi
  exact ⟨x, q, h1, h2.kept g⟩

/-! ### An act, in a block of its own -/
structure QBox (w : World) (x : Nat) (q : Q) : Prop where
  at0 : w.cell? ⟨x, 0, none⟩ = some (.int .i64 q.k)
  at1 : w.cell? ⟨x, 1, none⟩ = some (.int .i64 q.n)
  at2 : w.cell? ⟨x, 2, none⟩ = some (.int .i64 q.d)
  lt : x < w.heap.size
theorem QBox.fr {O : Nat → Prop} {w w' : World} {x : Nat} {q : Q} (h : QBox w x q) (k : Fr O w w') (ho : ¬ O x) : QBox w' x q := ⟨k.cell h.at0 ho, k.cell h.at1 ho, k.cell h.at2 ho, Nat.lt_of_lt_of_le h.lt k.size⟩
theorem QBox.kept {w w' : World} {x : Nat} {q : Q} (h : QBox w x q) (g : w.grownBy w' none) : QBox w' x q := h.fr (O := fun _ => False) (Fr.grown g) (fun e => e)
theorem qboxNew (w : World) (q : Q) : ∃ W, w.alloc (.cells #[.int .i64 q.k, .int .i64 q.n, .int .i64 q.d] 28) = W ∧ QBox W w.heap.size q ∧ w.grownBy W none := ⟨_, rfl, ⟨by simp, by simp, by simp, by simp⟩, gbAlloc _ _ _⟩

/-! ### Side by side -/
/-- What is kept where nothing of its blocks turns. -/
def Keeps (A : World → (Nat → Prop) → Prop) : Prop := ∀ (w w' : World) (O O' : Nat → Prop), A w O → Fr O' w w' → (∀ i, O i → ¬ O' i) → A w' O
theorem kIA (x : Nat) (i : I) : Keeps (fun w O => IA w O x i) := fun _ _ _ _ h F d => h.fr F d
/-- The program's lines, all new since w0. -/
structure On (w0 w : World) (P : Nat → Prop) (x : Nat) (i : I) : Prop where
  a : IA w P x i
  lo : ∀ k, P k → w0.heap.size ≤ k ∧ k < w.heap.size
  gr : w0.grownBy w none
/-- Two things, all new since w0, apart. -/
structure Tw (A B : World → (Nat → Prop) → Prop) (w0 w : World) (P R : Nat → Prop) : Prop where
  a : A w P
  b : B w R
  lo : ∀ i, P i → w0.heap.size ≤ i ∧ i < w.heap.size
  lr : ∀ i, R i → w0.heap.size ≤ i ∧ i < w.heap.size
  ap : ∀ i, P i → ¬ R i
  gr : w0.grownBy w none
section
variable {A A' B B' : World → (Nat → Prop) → Prop} {w0 w w' : World} {P R : Nat → Prop} {x : Nat} {i i' : I}
theorem On.kept (h : On w0 w P x i) (g : w.grownBy w' none) : On w0 w' P x i :=
  ⟨h.a.kept g, fun k hk => ⟨(h.lo k hk).1, Nat.lt_of_lt_of_le (h.lo k hk).2 g.size⟩, gbTrans h.gr g⟩
theorem On.turn (h : On w0 w P x i) (T : IA w' P x i') (k : Fr P w w') : On w0 w' P x i' :=
  ⟨T, fun j hj => ⟨(h.lo j hj).1, Nat.lt_of_lt_of_le (h.lo j hj).2 k.size⟩, Fr.since h.gr k (fun j hj => (h.lo j hj).1)⟩
/-- Something else, new since w0 too, turned. -/
theorem On.beside (h : On w0 w P x i) {O : Nat → Prop} (k : Fr O w w') (ho : ∀ j, O j → w0.heap.size ≤ j ∧ ¬ P j) : On w0 w' P x i :=
  ⟨h.a.fr k (fun j hj e => (ho j e).2 hj), fun j hj => ⟨(h.lo j hj).1, Nat.lt_of_lt_of_le (h.lo j hj).2 k.size⟩, Fr.since h.gr k (fun j hj => (ho j hj).1)⟩
theorem Tw.kept (hA : Keeps A) (hB : Keeps B) (h : Tw A B w0 w P R) (g : w.grownBy w' none) : Tw A B w0 w' P R :=
  ⟨hA _ _ _ (fun _ => False) h.a (Fr.grown g) (fun _ _ e => e), hB _ _ _ (fun _ => False) h.b (Fr.grown g) (fun _ _ e => e), fun i hi => ⟨(h.lo i hi).1, Nat.lt_of_lt_of_le (h.lo i hi).2 g.size⟩, fun i hi => ⟨(h.lr i hi).1, Nat.lt_of_lt_of_le (h.lr i hi).2 g.size⟩, h.ap, gbTrans h.gr g⟩
theorem Tw.prog (hB : Keeps B) (h : Tw A B w0 w P R) (T : A' w' P) (k : Fr P w w') : Tw A' B w0 w' P R :=
  ⟨T, hB _ _ _ _ h.b k (fun i hi e => h.ap i e hi), fun i hi => ⟨(h.lo i hi).1, Nat.lt_of_lt_of_le (h.lo i hi).2 k.size⟩, fun i hi => ⟨(h.lr i hi).1, Nat.lt_of_lt_of_le (h.lr i hi).2 k.size⟩, h.ap, Fr.since h.gr k (fun i hi => (h.lo i hi).1)⟩
theorem Tw.doc (hA : Keeps A) (h : Tw A B w0 w P R) (T : B' w' R) (k : Fr R w w') : Tw A B' w0 w' P R :=
  ⟨hA _ _ _ _ h.a k (fun i hi e => h.ap i hi e), T, fun i hi => ⟨(h.lo i hi).1, Nat.lt_of_lt_of_le (h.lo i hi).2 k.size⟩, fun i hi => ⟨(h.lr i hi).1, Nat.lt_of_lt_of_le (h.lr i hi).2 k.size⟩, h.ap, Fr.since h.gr k (fun i hi => (h.lr i hi).1)⟩
end
/-- int(uint64(a) % m). -/
theorem modArg (a : Int) (m : Nat) (hm : 0 < m) : ∃ U y : Nat, IntKind.u64.wrap a = (U : Int) ∧ (U : Int) % (m : Int) = (y : Int) ∧ y < m := by
  have h0 : 0 ≤ IntKind.u64.wrap a := by rw [IntKind.wrap_u64]; omega
  obtain ⟨U, hU⟩ : ∃ U : Nat, IntKind.u64.wrap a = (U : Int) := ⟨(IntKind.u64.wrap a).toNat, by omega⟩
  refine ⟨U, U % m, hU, by norm_cast, Nat.mod_lt _ hm⟩
end Go.Proofs.Ytekohlbafhlldaa
