/-
  WHAT COMES IN: an act by value; registers that are nought; what comes of a thread that is blocked.
-/
import Derived.Test.YtaojiojbpkldkaaFct
import Derived.Lib.SmallJoins
import Derived.Deep.Slices
import Derived.OpenShut
namespace Go.Proofs.Ytaojiojbpkldkaa
set_option maxRecDepth 10000
open Go.ChangeShapes Go.WideShapes Go.ChangeAt Go.RowKit
set_option linter.unusedVariables false

/-- What is done with a thread: as what it is blocked (what it is at, on, its badge, whether it calls), who asks; a level and a domain. -/
structure A where
  s : Int
  o : Int
  b : Nat
  c : Bool
  r : Int
  l : Int
  d : Int
def al (q : A) : List Value := [.int .i64 q.s, .int .i64 q.o, .int .u64 (q.b : Int), .bool q.c, .int .i64 q.r, .int .i64 q.l, .int .i64 q.d]
def ac (q : A) : Array Value := (al q).toArray

/-- A number that a word of 64 bits holds. -/
theorem u64_wf {a : Int} (h : (Lit.int .u64 a).wf = true) : 0 ≤ a ∧ a < 18446744073709551616 := by
  unfold Lit.wf at h
  rw [Bool.and_eq_true, decide_eq_true_eq, decide_eq_true_eq] at h
  have e1 : IntKind.u64.min = 0 := by decide
  have e2 : IntKind.u64.max = 18446744073709551615 := by decide
  rw [e1, e2] at h
  omega

theorem actCells {H : Type} {enc : TypeId × Value → H} {W : World} {base fuel : Nat} {spare : Nat → Bool} {held : Bool} {l : List Value} {x : DataW H × List MemPlace} (hsz : l.length = 7)
    (hf : DataW.trod enc Try.prog W base spare held fuel 37 l = some x) : ∃ q : A, l = al q ∧ q.b < 18446744073709551616 := by
  obtain ⟨xs, k, _, _, _, hxl, hf⟩ := DataW.trod_struct Try.underlying37 hf
  have c3 : Try.prog.cellsOf 3 = 1 := by kernel_rfl
  have c4 : Try.prog.cellsOf 25 = 1 := by kernel_rfl
  have c5 : Try.prog.cellsOf 4 = 1 := by kernel_rfl
  match xs, hxl, l, hsz with
  | [y0, y1, y2, y3, y4, y5, y6], _, [v0, v1, v2, v3, v4, v5, v6], _ =>
    have g0 : DataW.trod enc Try.prog W base spare held k 3 [v0] = some y0 := by have := hf 0 _ rfl; simpa [c3, Value.cells] using this
    have g1 : DataW.trod enc Try.prog W base spare held k 3 [v1] = some y1 := by have := hf 1 _ rfl; simpa [c3, Value.cells] using this
    have g2 : DataW.trod enc Try.prog W base spare held k 25 [v2] = some y2 := by have := hf 2 _ rfl; simpa [c4, Value.cells] using this
    have g3 : DataW.trod enc Try.prog W base spare held k 4 [v3] = some y3 := by have := hf 3 _ rfl; simpa [c5, Value.cells] using this
    have g4 : DataW.trod enc Try.prog W base spare held k 3 [v4] = some y4 := by have := hf 4 _ rfl; simpa [c3, Value.cells] using this
    have g5 : DataW.trod enc Try.prog W base spare held k 3 [v5] = some y5 := by have := hf 5 _ rfl; simpa [c3, Value.cells] using this
    have g6 : DataW.trod enc Try.prog W base spare held k 3 [v6] = some y6 := by have := hf 6 _ rfl; simpa [c3, Value.cells] using this
    obtain ⟨A0, e0, _⟩ := DataW.trod_int Try.underlying3 g0
    obtain ⟨A1, e1, _⟩ := DataW.trod_int Try.underlying3 g1
    obtain ⟨A2, e2, _, f2⟩ := DataW.trod_int Try.underlying25 g2
    obtain ⟨A3, e3, _⟩ := DataW.trod_bool Try.underlying4 g3
    obtain ⟨A4, e4, _⟩ := DataW.trod_int Try.underlying3 g4
    obtain ⟨A5, e5, _⟩ := DataW.trod_int Try.underlying3 g5
    obtain ⟨A6, e6, _⟩ := DataW.trod_int Try.underlying3 g6
    simp only [List.cons.injEq, and_true] at e0 e1 e2 e3 e4 e5 e6
    subst e0 e1 e2 e3 e4 e5 e6
    have u := u64_wf f2
    obtain ⟨Z, rfl⟩ : ∃ Z : Nat, A2 = Z := ⟨A2.toNat, by omega⟩
    exact ⟨⟨A0, A1, Z, A3, A4, A5, A6⟩, rfl, by show Z < _; omega⟩

theorem actArg {H : Type} {enc : TypeId × Value → H} {W : World} {r : Reach} {b0 base : Nat} {spare : Nat → Bool} {held : Bool} {v : Value} {d : DataW H} {p : List MemPlace}
    (hv : Value.okWide Try.prog W r b0 37 v) (h : DataW.Trod enc Try.prog W base spare held 37 v d p) : ∃ q : A, v = .agg (ac q) ∧ q.b < 18446744073709551616 := by
  obtain ⟨cs, rfl, hsz⟩ := okWide_struct Try.underlying37 hv
  have ce : Try.prog.cellsOf 37 = 7 := by kernel_rfl
  rw [ce] at hsz
  obtain ⟨fuel, hf⟩ := h
  obtain ⟨l⟩ := cs
  obtain ⟨q, e, hb⟩ := actCells (l := l) hsz hf
  subst e
  exact ⟨q, rfl, hb⟩

theorem wordCells {H : Type} {enc : TypeId × Value → H} {W : World} {base fuel : Nat} {spare : Nat → Bool} {held : Bool} {a : Option Addr} {len cap : Nat} {x : DataW H × List MemPlace}
    (h : DataW.trod enc Try.prog W base spare held fuel 46 [.slice a len cap] = some x) : ∀ i, i < len → ∃ (x : Addr) (z : Int), a = some x ∧ W.cell? (x.add i) = some (.int .u64 z) := by
  intro i hi
  rcases Deep.open_slice Try.underlying46 h with ⟨hcs, _⟩ | ⟨y, l, c, m, n, D, Pl, hcs, _, hl, _, hm, _, hx⟩
  · simp at hcs; omega
  · simp at hcs
    obtain ⟨rfl, rfl, rfl⟩ := hcs
    have hlm : len ≤ m := by rw [hm]; split <;> omega
    obtain ⟨cs', h1, h2⟩ := hx i (by omega)
    have ce : Try.prog.cellsOf 25 = 1 := by kernel_rfl
    rw [ce] at h1
    obtain ⟨_, hlen, hcell⟩ := World.cells?_some h1
    match cs', hlen with
    | [v0], _ =>
      obtain ⟨A0, e0, _, w0⟩ := DataW.trod_int Try.underlying25 h2
      simp only [List.cons.injEq, and_true] at e0
      subst e0
      have d0 := hcell 0 (by omega)
      have z : (y.add (i * 1)).add 0 = y.add i := by unfold Addr.add; simp
      rw [z] at d0
      exact ⟨y, A0, rfl, d0⟩
theorem wordsArg {H : Type} {enc : TypeId × Value → H} {W : World} {base : Nat} {spare : Nat → Bool} {held : Bool} {a : Option Addr} {len cap : Nat} {d : DataW H} {p : List MemPlace}
    (h : DataW.Trod enc Try.prog W base spare held 46 (.slice a len cap) d p) : ∀ i, i < len → ∃ (x : Addr) (z : Int), a = some x ∧ W.cell? (x.add i) = some (.int .u64 z) := by
  obtain ⟨fuel, hf⟩ := h
  exact wordCells hf

/-- A block that is an act. -/
def AB (w : World) (x : Nat) (q : A) : Prop := w.heap[x]? = some (.cells (ac q) 37 (0, 0))
theorem AB.lt {w : World} {x : Nat} {q : A} (h : AB w x q) : x < w.heap.size := (Array.getElem?_eq_some_iff.1 h).1
theorem AB.keep {w w' : World} {x : Nat} {q : A} {r : Option Nat} (h : AB w x q) (g : w.grownBy w' r) (hr : some x ≠ r) : AB w' x q := (g.block x h.lt hr).trans h
theorem AB.kept {w w' : World} {x : Nat} {q : A} (h : AB w x q) (g : w.grownBy w' none) : AB w' x q := h.keep g (by simp)
theorem AB.past {w1 V W : World} {x y : Nat} {q : A} (B : AB w1 y q) (k : w1.grownBy V none) (l : w1.heap.size ≤ x) (h : V.grownBy W (some x)) : AB W y q :=
  (B.kept k).keep h (by have := B.lt; simp; omega)
theorem AB.cell {w : World} {x : Nat} {q : A} (h : AB w x q) (i : Nat) : w.cell? ⟨x, i, none⟩ = (al q)[i]? := by
  rw [cell_of_row w x i _ _ _ h]; unfold ac; simp
theorem cellKept {w w' : World} {a : Addr} {v : Value} (h : w.cell? a = some v) (g : w.grownBy w' none) : w'.cell? a = some v := by
  rw [← h]
  unfold World.cell?
  by_cases c : a.block < w.heap.size
  · rw [g.block a.block c (by simp)]
  · unfold World.cell? at h
    rw [Array.getElem?_eq_none (by omega)] at h
    simp at h
section
variable {w : World} {ops : Array Oper} {rest : List Oper} {o : Oper} {a : Act} {Q : Exit → Act → World → Prop}
theorem wpList_boxA (hg : o.guard = none) (z : Operand) (ho : o.op = .box 37 z) {q : A} (hx : a.eval z = .agg (ac q))
    (h : ∀ W x, AB W x q → w.grownBy W none → w.heap.size ≤ x → wpList Try.prog ops Q rest (a.put o.dst (.pointer (some ⟨x, 0, none⟩))) W) : wpList Try.prog ops Q (o :: rest) a w :=
  wpList_plain hg fun K' hK' => by
    have e : (newRow 37 (ac q)).run Try.prog w = .ok ⟨w.heap.size, 0, none⟩ (w.alloc (.cells (ac q) 37)) := by simp [newRow, go_sem]
    unfold Oper.wp execOp
    simp only [ho, hx, Instr.box, newVar, Value.cells, Sem.run_bind, e, Result.andThen_ok, Sem.run_pure]
    exact hK' _ _ (h _ _ (heap_alloc_new w _) (gbAlloc _ _ _) (Nat.le_refl _))
theorem run_zeroR (w : World) : (zeroValue 27).run Try.prog w = .ok (.agg (rc nil8)) w := by kernel_rfl
theorem wpList_allocR (hg : o.guard = none) (ho : o.op = .alloc 27)
    (h : ∀ W x, RB W x nil8 → w.grownBy W none → w.heap.size ≤ x → wpList Try.prog ops Q rest (a.put o.dst (.pointer (some ⟨x, 0, none⟩))) W) : wpList Try.prog ops Q (o :: rest) a w :=
  wpList_plain hg fun K' hK' => by
    have e : (newRow 27 (rc nil8)).run Try.prog w = .ok ⟨w.heap.size, 0, none⟩ (w.alloc (.cells (rc nil8) 27)) := by simp [newRow, go_sem]
    unfold Oper.wp execOp
    simp only [ho, Instr.alloc, newVar, Value.cells, Sem.run_bind, run_zeroR, e, Result.andThen_ok, Sem.run_pure]
    exact hK' _ _ (h _ _ (RB.made w nil8) (gbAlloc _ _ _) (Nat.le_refl _))
end

/-! ### What comes of a thread that is ready, and blocked -/
/-- One that is ready. -/
def tr (l d : Int) : T := ⟨1, 0, 0, false, -1, l, d, 0, nil8⟩
theorem st_new (L D : Nat) (hL : L < 8) (hD : D < 4) : M.st (tn L D) = (tr L D, 0) := by
  unfold M.st
  rw [if_pos (tn_right L D hL hD).ck, if_pos (show (tn L D).s = 0 from rfl)]
  rfl
theorem tr_right (L D : Nat) (hL : L < 8) (hD : D < 4) : Right (tr L D) :=
  ⟨by show (0 : Int) ≤ 1; decide, by show (1 : Int) ≤ 5; decide, fun _ => rfl, fun _ => ⟨rfl, rfl⟩, by show (0 : Int) ≤ 0; decide, by show (0 : Int) < 64; decide, by show 0 < _; decide, .inl rfl, by show (0 : Int) ≤ (L : Int); omega, by show (L : Int) < 8; omega, by show (0 : Int) ≤ (D : Int); omega, by show (D : Int) < 4; omega, by show (0 : Int) ≤ 0; decide, by show (0 : Int) < 4096; decide⟩
theorem bl_ways (t : T) (s o : Int) (b : Nat) (c : Bool) (R : Right t) (h1 : t.s = 1) :
    (∃ v, (v != 0) = true ∧ M.bl t s o b c = (T0, v)) ∨ (M.bl t s o b c = ({ t with s := s, o := o, b := b, c := c }, 0) ∧ M.cw { t with s := s, o := o, b := b, c := c } = 0) := by
  unfold M.bl
  rw [if_pos R.ck, if_pos h1]
  by_cases q : M.cw { t with s := s, o := o, b := b, c := c } = 0
  · right; rw [if_pos q]; exact ⟨rfl, q⟩
  · left; rw [if_neg q]; exact ⟨_, by simpa using q, rfl⟩
theorem cw_right {t : T} (h : M.cw t = 0) : Right t ∧ t.s ≠ 0 ∧ t.s ≠ 1 := by
  unfold M.cw at h
  by_cases q : M.ck t = 0
  · rw [if_pos q] at h
    by_cases r : t.s = 0 ∨ t.s = 1
    · rw [if_pos r] at h; exact absurd h (by decide)
    · exact ⟨(ck_iff t).1 q, fun e => r (.inl e), fun e => r (.inr e)⟩
  · rw [if_neg q] at h; exact absurd h q
theorem wk_yes {t : T} (f : Nat → Int) (h : M.cw t = 0) : M.wk t f = (⟨1, 0, 0, false, t.r, t.l, t.d, t.p, f⟩, 0) := by
  unfold M.wk
  rw [if_pos h]
  rfl
theorem sp_is (t : T) : M.sp t = ⟨0, 0, 0, false, t.r, t.l, t.d, t.p, t.f⟩ := rfl
end Go.Proofs.Ytaojiojbpkldkaa
