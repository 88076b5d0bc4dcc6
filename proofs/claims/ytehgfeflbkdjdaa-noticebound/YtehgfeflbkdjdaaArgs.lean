/-
  WHAT COMES IN: a list of acts (donjonlaw19's Op: four cells); words. Two things side by side, all new.
-/
import Derived.Test.YtehgfeflbkdjdaaNtc
import Derived.Lib.SmallJoins
import Derived.ProofKit
import Derived.OpenShut
import Derived.Below
import Derived.Deep.Slices
namespace Go.Proofs.Ytehgfeflbkdjdaa
set_option maxRecDepth 10000
open Go.ChangeShapes Go.WideShapes Go.ChangeAt Go.RowKit
set_option linter.unusedVariables false

theorem endWalk {P : Program} {f : FuncId} {args : Array Value} {w : World} (h : Calls P f args w fun e w' => e = .returned (.bool true) ∧ w.grownBy w' none) :
    Calls P f args w fun e w' => e = .returned (.bool true) ∧ Below w.heap.size w w' :=
  h.mono fun _ _ k => ⟨k.1, gbEnd k.2⟩

theorem add_pos (y : Addr) (j : Nat) (h : j ≠ 0) : y.add j = ⟨y.block, y.off + j, none⟩ := by unfold Addr.add; rw [if_neg h]

/-- A number that a word of 64 bits holds. -/
def U64 (a : Int) : Prop := 0 ≤ a ∧ a < 18446744073709551616
theorem u64_wf {a : Int} (h : (Lit.int .u64 a).wf = true) : U64 a := by
  unfold Lit.wf at h
  rw [Bool.and_eq_true, decide_eq_true_eq, decide_eq_true_eq] at h
  have e1 : IntKind.u64.min = 0 := by decide
  have e2 : IntKind.u64.max = 18446744073709551615 := by decide
  rw [e1, e2] at h
  unfold U64
  omega
/-- An act. -/
structure Q where
  k : Int
  i : Int
  g : Int
  b : Bool
/-- An act in memory, from an address on. -/
structure El4 (w : World) (y : Addr) (q : Q) : Prop where
  at0 : w.cell? y = some (.int .i64 q.k)
  at1 : w.cell? ⟨y.block, y.off + 1, none⟩ = some (.int .i64 q.i)
  at2 : w.cell? ⟨y.block, y.off + 2, none⟩ = some (.int .u64 q.g)
  at3 : w.cell? ⟨y.block, y.off + 3, none⟩ = some (.bool q.b)
theorem El4.kept {w w' : World} {y : Addr} {q : Q} (h : El4 w y q) (g : w.grownBy w' none) : El4 w' y q :=
  ⟨g.cell h.at0 (by simp), g.cell h.at1 (by simp), g.cell h.at2 (by simp), g.cell h.at3 (by simp)⟩

theorem opCells {H : Type} {enc : TypeId × Value → H} {W : World} {base fuel : Nat} {spare : Nat → Bool} {held : Bool} {a : Option Addr} {len cap : Nat} {x : DataW H × List MemPlace}
    (h : DataW.trod enc Try.prog W base spare held fuel 22 [.slice a len cap] = some x) : ∀ i, i < len → ∃ x q, a = some x ∧ El4 W (x.add (i * 4)) q ∧ U64 q.g := by
  intro i hi
  rcases Deep.open_slice Try.underlying22 h with ⟨hcs, _⟩ | ⟨y, l, c, m, n, D, Pl, hcs, _, hl, _, hm, _, hx⟩
  · simp at hcs; omega
  · simp at hcs
    obtain ⟨rfl, rfl, rfl⟩ := hcs
    have hlm : len ≤ m := by rw [hm]; split <;> omega
    obtain ⟨cs', h1, h2⟩ := hx i (by omega)
    have ce : Try.prog.cellsOf 31 = 4 := by kernel_rfl
    rw [ce] at h1
    obtain ⟨_, hlen, hcell⟩ := World.cells?_some h1
    obtain ⟨xs, k, hk, hxy, _, hxl, hf⟩ := DataW.trod_struct Try.underlying31 h2
    have c1 : Try.prog.cellsOf 3 = 1 := by kernel_rfl
    have c2 : Try.prog.cellsOf 4 = 1 := by kernel_rfl
    have c3 : Try.prog.cellsOf 26 = 1 := by kernel_rfl
    match xs, hxl, cs', hlen with
    | [y0, y1, y2, y3], _, [v0, v1, v2, v3], _ =>
      have g0 : DataW.trod enc Try.prog W base spare held k 3 [v0] = some y0 := by have := hf 0 _ rfl; simpa [c1] using this
      have g1 : DataW.trod enc Try.prog W base spare held k 3 [v1] = some y1 := by have := hf 1 _ rfl; simpa [c1] using this
      have g2 : DataW.trod enc Try.prog W base spare held k 26 [v2] = some y2 := by have := hf 2 _ rfl; simpa [c1, c3] using this
      have g3 : DataW.trod enc Try.prog W base spare held k 4 [v3] = some y3 := by have := hf 3 _ rfl; simpa [c1, c2, c3] using this
      obtain ⟨A0, e0, _⟩ := DataW.trod_int Try.underlying3 g0
      obtain ⟨A1, e1, _⟩ := DataW.trod_int Try.underlying3 g1
      obtain ⟨A2, e2, _, w2⟩ := DataW.trod_int Try.underlying26 g2
      obtain ⟨A3, e3, _⟩ := DataW.trod_bool Try.underlying4 g3
      simp only [List.cons.injEq, and_true] at e0 e1 e2 e3
      subst e0; subst e1; subst e2; subst e3
      have d0 := hcell 0 (by omega)
      have d1 := hcell 1 (by omega)
      have d2 := hcell 2 (by omega)
      have d3 := hcell 3 (by omega)
      rw [add_pos _ _ (by decide)] at d1 d2 d3
      have z : (y.add (i * 4)).add 0 = y.add (i * 4) := by unfold Addr.add; simp
      rw [z] at d0
      exact ⟨y, ⟨A0, A1, A2, A3⟩, rfl, ⟨d0, d1, d2, d3⟩, u64_wf w2⟩
/-- A list that comes in: each of its elements lies where it lies. -/
theorem opsArg {H : Type} {enc : TypeId × Value → H} {W : World} {base : Nat} {spare : Nat → Bool} {held : Bool} {a : Option Addr} {len cap : Nat} {d : DataW H} {p : List MemPlace}
    (h : DataW.Trod enc Try.prog W base spare held 22 (.slice a len cap) d p) : ∀ i, i < len → ∃ x q, a = some x ∧ El4 W (x.add (i * 4)) q ∧ U64 q.g := by
  obtain ⟨fuel, hf⟩ := h
  exact opCells hf
/-- The acts that come in. -/
def Acts4 (w : World) (a : Option Addr) (len : Nat) : Prop := ∀ i, i < len → ∃ x q, a = some x ∧ El4 w (x.add (i * 4)) q ∧ U64 q.g
theorem wordCells {H : Type} {enc : TypeId × Value → H} {W : World} {base fuel : Nat} {spare : Nat → Bool} {held : Bool} {a : Option Addr} {len cap : Nat} {x : DataW H × List MemPlace}
    (h : DataW.trod enc Try.prog W base spare held fuel 46 [.slice a len cap] = some x) : ∀ i, i < len → ∃ (x : Addr) (z : Nat), a = some x ∧ W.cell? (x.add i) = some (.int .u64 (z : Int)) ∧ z < 18446744073709551616 := by
  intro i hi
  rcases Deep.open_slice Try.underlying46 h with ⟨hcs, _⟩ | ⟨y, l, c, m, n, D, Pl, hcs, _, hl, _, hm, _, hx⟩
  · simp at hcs; omega
  · simp at hcs
    obtain ⟨rfl, rfl, rfl⟩ := hcs
    have hlm : len ≤ m := by rw [hm]; split <;> omega
    obtain ⟨cs', h1, h2⟩ := hx i (by omega)
    have ce : Try.prog.cellsOf 26 = 1 := by kernel_rfl
    rw [ce] at h1
    obtain ⟨_, hlen, hcell⟩ := World.cells?_some h1
    match cs', hlen with
    | [v0], _ =>
      obtain ⟨A0, e0, _, w0⟩ := DataW.trod_int Try.underlying26 h2
      simp only [List.cons.injEq, and_true] at e0
      subst e0
      have d0 := hcell 0 (by omega)
      have z : (y.add (i * 1)).add 0 = y.add i := by unfold Addr.add; simp
      rw [z] at d0
      have u0 := u64_wf w0
      obtain ⟨Z, rfl⟩ : ∃ Z : Nat, A0 = Z := ⟨A0.toNat, by have := u0.1; omega⟩
      exact ⟨y, Z, rfl, d0, by have := u0.2; omega⟩
theorem wordsArg {H : Type} {enc : TypeId × Value → H} {W : World} {base : Nat} {spare : Nat → Bool} {held : Bool} {a : Option Addr} {len cap : Nat} {d : DataW H} {p : List MemPlace}
    (h : DataW.Trod enc Try.prog W base spare held 46 (.slice a len cap) d p) : ∀ i, i < len → ∃ (x : Addr) (z : Nat), a = some x ∧ W.cell? (x.add i) = some (.int .u64 (z : Int)) ∧ z < 18446744073709551616 := by
  obtain ⟨fuel, hf⟩ := h
  exact wordCells hf
/-- The words that come in. -/
def Wds (w : World) (a : Option Addr) (len : Nat) : Prop := ∀ i, i < len → ∃ (x : Addr) (z : Nat), a = some x ∧ w.cell? (x.add i) = some (.int .u64 (z : Int)) ∧ z < 18446744073709551616

/-! ### Side by side -/
/-- What is kept where nothing of its blocks turns. -/
def Keeps (A : World → (Nat → Prop) → Prop) : Prop := ∀ (w w' : World) (O O' : Nat → Prop), A w O → Fr O' w w' → (∀ i, O i → ¬ O' i) → A w' O
theorem keepsHA {α : Type} (e : α → List Value) (tk : TypeId) (s p : Nat) (L : List α) : Keeps (fun w O => HA e tk s w O p L) := fun _ _ _ _ h F hd => h.fr F hd
/-- One thing, all new since w0. -/
structure On (A : World → (Nat → Prop) → Prop) (w0 w : World) (P : Nat → Prop) : Prop where
  a : A w P
  lo : ∀ i, P i → w0.heap.size ≤ i ∧ i < w.heap.size
  gr : w0.grownBy w none
/-- Two things, all new since w0, apart. -/
structure Tw (A B : World → (Nat → Prop) → Prop) (w0 w : World) (P R : Nat → Prop) : Prop where
  a : A w P
  b : B w R
  lo : ∀ i, P i → w0.heap.size ≤ i ∧ i < w.heap.size
  lr : ∀ i, R i → w0.heap.size ≤ i ∧ i < w.heap.size
  ap : ∀ i, P i → ¬ R i
  gr : w0.grownBy w none
section
variable {A A' B B' : World → (Nat → Prop) → Prop} {w0 w w' : World} {P R : Nat → Prop}
theorem On.kept (hA : Keeps A) (h : On A w0 w P) (g : w.grownBy w' none) : On A w0 w' P :=
  ⟨hA _ _ _ (fun _ => False) h.a (Fr.grown g) (fun _ _ e => e), fun i hi => ⟨(h.lo i hi).1, Nat.lt_of_lt_of_le (h.lo i hi).2 g.size⟩, gbTrans h.gr g⟩
theorem On.turn (h : On A w0 w P) (T : A' w' (wide P w w')) (k : Fr P w w') : On A' w0 w' (wide P w w') := by
  refine ⟨T, fun i hi => ?_, Fr.since h.gr k (fun i hi => (h.lo i hi).1)⟩
  have h0 := h.gr.size
  have h1 := k.size
  rcases hi with hi | hi
  · have := h.lo i hi; omega
  · omega
/-- Another list, with a base of its own, turned: what is there stays. -/
theorem On.beside (hA : Keeps A) (h : On A w0 w P) {O : Nat → Prop} (k : Fr O w w') (ho : ∀ i, O i → w0.heap.size ≤ i ∧ ¬ P i) : On A w0 w' P :=
  ⟨hA _ _ _ _ h.a k (fun i hi e => (ho i e).2 hi), fun i hi => ⟨(h.lo i hi).1, Nat.lt_of_lt_of_le (h.lo i hi).2 k.size⟩, Fr.since h.gr k (fun i hi => (ho i hi).1)⟩
theorem Tw.kept (hA : Keeps A) (hB : Keeps B) (h : Tw A B w0 w P R) (g : w.grownBy w' none) : Tw A B w0 w' P R :=
  ⟨hA _ _ _ (fun _ => False) h.a (Fr.grown g) (fun _ _ e => e), hB _ _ _ (fun _ => False) h.b (Fr.grown g) (fun _ _ e => e), fun i hi => ⟨(h.lo i hi).1, Nat.lt_of_lt_of_le (h.lo i hi).2 g.size⟩, fun i hi => ⟨(h.lr i hi).1, Nat.lt_of_lt_of_le (h.lr i hi).2 g.size⟩, h.ap, gbTrans h.gr g⟩
theorem Tw.prog (hB : Keeps B) (h : Tw A B w0 w P R) (T : A' w' (wide P w w')) (k : Fr P w w') : Tw A' B w0 w' (wide P w w') R := by
  have h0 := h.gr.size
  have h1 := k.size
  refine ⟨T, hB _ _ _ _ h.b k (fun i hi e => h.ap i e hi), fun i hi => ?_, fun i hi => ⟨(h.lr i hi).1, Nat.lt_of_lt_of_le (h.lr i hi).2 k.size⟩, fun i hi e => ?_, Fr.since h.gr k (fun i hi => (h.lo i hi).1)⟩
  · rcases hi with hi | hi
    · have := h.lo i hi; omega
    · omega
  · rcases hi with hi | hi
    · exact h.ap i hi e
    · have := (h.lr i e).2; omega
theorem Tw.doc (hA : Keeps A) (h : Tw A B w0 w P R) (T : B' w' (wide R w w')) (k : Fr R w w') : Tw A B' w0 w' P (wide R w w') := by
  have h0 := h.gr.size
  have h1 := k.size
  refine ⟨hA _ _ _ _ h.a k (fun i hi e => h.ap i hi e), T, fun i hi => ⟨(h.lo i hi).1, Nat.lt_of_lt_of_le (h.lo i hi).2 k.size⟩, fun i hi => ?_, fun i hi e => ?_, Fr.since h.gr k (fun i hi => (h.lr i hi).1)⟩
  · rcases hi with hi | hi
    · have := h.lr i hi; omega
    · omega
  · rcases e with e | e
    · exact h.ap i hi e
    · have := (h.lo i hi).2; omega
end
theorem kNA (p : Nat) (W : Int) (b : Option Int) (L : List Int) : Keeps (fun w O => NA w O p W b L) := fun _ _ _ _ h F hd => h.fr F hd
/-- An act, in a block of its own. -/
structure QBox (w : World) (x : Nat) (q : Q) : Prop where
  at0 : w.cell? ⟨x, 0, none⟩ = some (.int .i64 q.k)
  at1 : w.cell? ⟨x, 1, none⟩ = some (.int .i64 q.i)
  at2 : w.cell? ⟨x, 2, none⟩ = some (.int .u64 q.g)
  at3 : w.cell? ⟨x, 3, none⟩ = some (.bool q.b)
  lt : x < w.heap.size
theorem QBox.fr {O : Nat → Prop} {w w' : World} {x : Nat} {q : Q} (h : QBox w x q) (k : Fr O w w') (ho : ¬ O x) : QBox w' x q := ⟨k.cell h.at0 ho, k.cell h.at1 ho, k.cell h.at2 ho, k.cell h.at3 ho, Nat.lt_of_lt_of_le h.lt k.size⟩
theorem QBox.kept {w w' : World} {x : Nat} {q : Q} (h : QBox w x q) (g : w.grownBy w' none) : QBox w' x q := h.fr (O := fun _ => False) (Fr.grown g) (fun e => e)
theorem qboxNew (w : World) (q : Q) : ∃ W, w.alloc (.cells #[.int .i64 q.k, .int .i64 q.i, .int .u64 q.g, .bool q.b] 31) = W ∧ QBox W w.heap.size q ∧ w.grownBy W none := ⟨_, rfl, ⟨by simp, by simp, by simp, by simp, by simp⟩, gbAlloc _ _ _⟩

/-- int(uint64(a) % m). -/
theorem modArg (a : Int) (m : Nat) (hm : 0 < m) : ∃ U y : Nat, IntKind.u64.wrap a = (U : Int) ∧ (U : Int) % (m : Int) = (y : Int) ∧ y < m := by
  have h0 : 0 ≤ IntKind.u64.wrap a := by rw [IntKind.wrap_u64]; omega
  obtain ⟨U, hU⟩ : ∃ U : Nat, IntKind.u64.wrap a = (U : Int) := ⟨(IntKind.u64.wrap a).toNat, by omega⟩
  refine ⟨U, U % m, hU, by norm_cast, Nat.mod_lt _ hm⟩
end Go.Proofs.Ytehgfeflbkdjdaa
