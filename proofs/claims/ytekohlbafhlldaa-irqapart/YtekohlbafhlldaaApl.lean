/-
  PLAIN: two eight lines that agree in the even ones, all of one domain; the odd ones are another domain's.
-/
import Derived.Test.YtekohlbafhlldaaOwd
namespace Go.Proofs.Ytekohlbafhlldaa
set_option maxRecDepth 10000
open Go.RowKit
set_option linter.unusedVariables false
namespace M
/-- They agree in the even lines, which are d's; the odd ones are e's. -/
structure Ap (d e : Int) (i j : I) : Prop where
  ev : ∀ k, k < 8 → k % 2 = 0 → i.p k = j.p k ∧ i.m k = j.m k ∧ i.o k = d ∧ j.o k = d
  od : ∀ k, k < 8 → k % 2 = 1 → i.o k = e ∧ j.o k = e
  de : d ≠ e
  d1 : 0 ≤ d
theorem Ap.begin (d e : Int) (h : d ≠ e) (h1 : 0 ≤ d) : Ap d e (oj d e 8) (oj d e 8) := by
  refine ⟨fun k hk c => ?_, fun k hk c => ?_, h, h1⟩
  · simp [oj, hk, c]
  · simp [oj, hk, c]
/-- What turns in the second's odd lines alone. -/
theorem Ap.odd {d e : Int} {i j : I} (h : Ap d e i j) (j' : I) (hk : ∀ k, k < 8 → k % 2 = 0 → j'.p k = j.p k ∧ j'.m k = j.m k) (ho : ∀ k, k < 8 → j'.o k = j.o k) : Ap d e i j' := by
  refine ⟨fun k hk8 c => ?_, fun k hk8 c => ?_, h.de, h.d1⟩
  · obtain ⟨a1, a2, a3, a4⟩ := h.ev k hk8 c
    obtain ⟨b1, b2⟩ := hk k hk8 c
    exact ⟨by rw [b1]; exact a1, by rw [b2]; exact a2, a3, by rw [ho k hk8]; exact a4⟩
  · obtain ⟨a1, a2⟩ := h.od k hk8 c
    exact ⟨a1, by rw [ho k hk8]; exact a2⟩
theorem Ap.oraise {d e : Int} {i j : I} (h : Ap d e i j) (n : Nat) (hn : n < 8) (c : n % 2 = 1) : Ap d e i (rs j (n : Int)) := by
  have l : isL (n : Int) = true := isL_iff.2 (by omega)
  unfold rs
  rw [if_pos l, Int.toNat_natCast]
  refine h.odd _ (fun k _ c2 => ?_) (fun _ _ => rfl)
  have : ¬ k = n := by omega
  simp [ub, this]
theorem Ap.oack {d e : Int} {i j : I} (h : Ap d e i j) (n : Nat) (hn : n < 8) (c : n % 2 = 1) : Ap d e i (ak j (n : Int)) := by
  unfold ak
  split
  · rw [Int.toNat_natCast]
    refine h.odd _ (fun k _ c2 => ?_) (fun _ _ => rfl)
    have : ¬ k = n := by omega
    simp [ub, this]
  · exact h
theorem Ap.onext {d e : Int} {i j : I} (h : Ap d e i j) (r : Option Nat) (hr : Nx j e r) : Ap d e i (ns j r) := by
  cases r with
  | none => exact h
  | some n =>
    obtain ⟨hn, hh, _⟩ := hr
    have c : n % 2 = 1 := by
      by_cases c : n % 2 = 1
      · exact c
      · have := h.ev n hn (by omega)
        unfold hit at hh
        rw [this.2.2.2] at hh
        simp only [Bool.and_eq_true, beq_iff_eq] at hh
        exact (h.de hh.1.1).elim
    unfold ns
    refine h.odd _ (fun k _ c2 => ?_) (fun _ _ => rfl)
    have : ¬ k = n := by omega
    simp [ub, this]
/-- What turns in both's even lines alike. -/
theorem Ap.both {d e : Int} {i j : I} (h : Ap d e i j) (i' j' : I) (hk : ∀ k, k < 8 → k % 2 = 0 → i'.p k = j'.p k ∧ i'.m k = j'.m k) (ho : ∀ k, k < 8 → i'.o k = i.o k ∧ j'.o k = j.o k) : Ap d e i' j' := by
  refine ⟨fun k hk8 c => ?_, fun k hk8 c => ?_, h.de, h.d1⟩
  · obtain ⟨a1, a2, a3, a4⟩ := h.ev k hk8 c
    obtain ⟨b1, b2⟩ := hk k hk8 c
    obtain ⟨o1, o2⟩ := ho k hk8
    exact ⟨b1, b2, by rw [o1]; exact a3, by rw [o2]; exact a4⟩
  · obtain ⟨a1, a2⟩ := h.od k hk8 c
    obtain ⟨o1, o2⟩ := ho k hk8
    exact ⟨by rw [o1]; exact a1, by rw [o2]; exact a2⟩
theorem Ap.raise {d e : Int} {i j : I} (h : Ap d e i j) (n : Int) : Ap d e (rs i n) (rs j n) := by
  unfold rs
  split
  · refine h.both _ _ (fun k hk c => ?_) (fun _ _ => ⟨rfl, rfl⟩)
    obtain ⟨a1, a2, _, _⟩ := h.ev k hk c
    unfold ub
    simp only []
    rw [a1, a2]
    exact ⟨rfl, rfl⟩
  · exact h
theorem Ap.ack {d e : Int} {i j : I} (h : Ap d e i j) (n : Nat) (hn : n < 8) (c : n % 2 = 0) : ae i (n : Int) = ae j (n : Int) ∧ Ap d e (ak i (n : Int)) (ak j (n : Int)) := by
  obtain ⟨a1, a2, a3, a4⟩ := h.ev n hn c
  have l : isL (n : Int) = true := isL_iff.2 (by omega)
  have d1 := h.d1
  constructor
  · unfold ae
    rw [Int.toNat_natCast, a2, a3, a4]
  · unfold ak
    rw [Int.toNat_natCast, if_pos ⟨l, by omega⟩, if_pos ⟨l, by omega⟩]
    refine h.both _ _ (fun k hk c => ?_) (fun _ _ => ⟨rfl, rfl⟩)
    obtain ⟨a1, a2, _, _⟩ := h.ev k hk c
    unfold ub
    simp only []
    rw [a1, a2]
    exact ⟨rfl, rfl⟩
theorem Ap.hit {d e : Int} {i j : I} (h : Ap d e i j) (k : Nat) (hk : k < 8) : hit i d k = hit j d k := by
  unfold M.hit
  by_cases c : k % 2 = 0
  · obtain ⟨a1, a2, a3, a4⟩ := h.ev k hk c
    rw [a1, a2, a3, a4]
  · obtain ⟨a1, a2⟩ := h.od k hk (by omega)
    rw [a1, a2]
    have : (e == d) = false := by
      have := h.de
      simp
      omega
    rw [this]
    rfl
theorem Ap.next {d e : Int} {i j : I} (h : Ap d e i j) (r : Option Nat) (hr : Nx i d r) : Nx j d r ∧ Ap d e (ns i r) (ns j r) := by
  cases r with
  | none => exact ⟨fun k hk => by rw [← h.hit k hk]; exact hr k hk, h⟩
  | some n =>
    obtain ⟨hn, hh, hb⟩ := hr
    refine ⟨⟨hn, by rw [← h.hit n hn]; exact hh, fun k hk => by rw [← h.hit k (by omega)]; exact hb k hk⟩, ?_⟩
    unfold ns
    refine h.both _ _ (fun k hk c => ?_) (fun _ _ => ⟨rfl, rfl⟩)
    obtain ⟨a1, a2, _, _⟩ := h.ev k hk c
    unfold ub
    simp only []
    rw [a1, a2]
    exact ⟨rfl, rfl⟩
end M
/-- An act in a block of its own, which may be written. -/
structure QF (w : World) (y : Nat) (r : Q) : Prop where
  q : QBox w y r
  f : w.frozen? ⟨y, 1, none⟩ = false
section
variable {w w' : World} {y : Nat} {r : Q}
theorem QF.fr {O : Nat → Prop} (h : QF w y r) (F : Fr O w w') (ho : ¬ O y) : QF w' y r := ⟨h.q.fr F ho, (F.frozen h.q.lt ho).trans h.f⟩
theorem QF.kept (h : QF w y r) (g : w.grownBy w' none) : QF w' y r := h.fr (O := fun _ => False) (Fr.grown g) (fun e => e)
theorem QF.made (w : World) (q : Q) : ∃ W, w.alloc (.cells #[.int .i64 q.k, .int .i64 q.n, .int .i64 q.d] 28) = W ∧ QF W w.heap.size q ∧ w.grownBy W none := by
  obtain ⟨W, h1, h2, h3, h4⟩ := qboxFz w q
  exact ⟨W, h1, ⟨h2, h4⟩, h3⟩
end
/-- The program's lines, twice, side by side. -/
abbrev S2 (w0 w : World) (P R : Nat → Prop) (p q : Nat) (i j : I) : Prop := Tw (fun w O => IA w O p i) (fun w O => IA w O q j) w0 w P R
section
variable {w0 w w' : World} {P R : Nat → Prop} {p q : Nat} {i j i' : I}
theorem S2.pr (h : S2 w0 w P R p q i j) (Z : IA w' P p i') (f : Fr P w w') : S2 w0 w' P R p q i' j := Tw.prog (A' := fun w O => IA w O p i') (kIA q j) h Z f
theorem S2.dc (h : S2 w0 w P R p q i j) (Z : IA w' R q i') (f : Fr R w w') : S2 w0 w' P R p q i i' := Tw.doc (B' := fun w O => IA w O q i') (kIA p i) h Z f
theorem S2.kp (h : S2 w0 w P R p q i j) (g : w.grownBy w' none) : S2 w0 w' P R p q i j := Tw.kept (kIA p i) (kIA q j) h g
/-- A block that is none of theirs, new since w0 too, is written. -/
theorem S2.aside (h : S2 w0 w P R p q i j) {y : Nat} (g : w.grownBy w' (some y)) (hy : w0.heap.size ≤ y) (hp : ¬ P y) (hr : ¬ R y) : S2 w0 w' P R p q i j := by
  have F : Fr (fun k => k = y) w w' := Fr.at g rfl
  exact ⟨h.a.fr F (fun k hk e => hp (by rw [← e]; exact hk)), h.b.fr F (fun k hk e => hr (by rw [← e]; exact hk)), fun k hk => ⟨(h.lo k hk).1, Nat.lt_of_lt_of_le (h.lo k hk).2 g.size⟩, fun k hk => ⟨(h.lr k hk).1, Nat.lt_of_lt_of_le (h.lr k hk).2 g.size⟩, h.ap, Fr.since h.gr F (fun k hk => by subst hk; exact hy)⟩
end
/-- Both, agreeing in what is d's. -/
structure Rl (w0 w : World) (P R : Nat → Prop) (p q : Nat) (d e : Int) (i j : I) : Prop where
  t : S2 w0 w P R p q i j
  ap : M.Ap d e i j
end Go.Proofs.Ytekohlbafhlldaa
