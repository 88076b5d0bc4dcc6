/-
  NODES AND TREE TOGETHER: the two parts of a Caps in memory, all of whose blocks are new, with the calls of either part on them. Speaks of no function of package moves.
-/
import Derived.Test.YtkpcdfiebjigbaaFull
import Derived.Test.YtkpcdfiebjigbaaLess
import Derived.Test.YtkpcdfiebjigbaaTWrk
namespace Go.Proofs.Ytkpcdfiebjigbaa
set_option maxRecDepth 10000
open Go.RowKit
set_option linter.unusedVariables false

abbrev wide (O : Nat → Prop) (w w' : World) : Nat → Prop := T9.wide O w w'
theorem wide_in {O : Nat → Prop} {w w' : World} (i : Nat) (h : O i) : wide O w w' i := .inl h

/-- Both parts; their blocks (and the Caps' own one) are among O, which were not there for w0; nothing else has turned since. -/
structure Cs (w0 w : World) (O : Nat → Prop) (p s t m : Nat) (S : St) (f : T9.Fo) : Prop where
  ex : ∃ OS OT, SAt w s m OS S ∧ T9.TAt w t OT f ∧ (∀ i, OS i → ¬ OT i) ∧ (∀ i, OS i → O i ∧ i ≠ p) ∧ ∀ i, OT i → O i ∧ i ≠ p
  box : w.heap[p]? = some (.cells #[.pointer (some ⟨s, 0, none⟩), .pointer (some ⟨t, 0, none⟩)] 47)
  op : O p
  lo : ∀ i, O i → w0.heap.size ≤ i ∧ i < w.heap.size
  gr : w0.grownBy w none
  gs : Good S
  gt : T9.Good f

namespace Cs
theorem c0 {w0 w : World} {O : Nat → Prop} {p s t m : Nat} {S : St} {f : T9.Fo} (h : Cs w0 w O p s t m S f) : w.cell? ⟨p, 0, none⟩ = some (.pointer (some ⟨s, 0, none⟩)) := by simp [World.cell?, h.box]
theorem c1 {w0 w : World} {O : Nat → Prop} {p s t m : Nat} {S : St} {f : T9.Fo} (h : Cs w0 w O p s t m S f) : w.cell? ⟨p, 1, none⟩ = some (.pointer (some ⟨t, 0, none⟩)) := by simp [World.cell?, h.box]
theorem plt {w0 w : World} {O : Nat → Prop} {p s t m : Nat} {S : St} {f : T9.Fo} (h : Cs w0 w O p s t m S f) : p < w.heap.size := (h.lo p h.op).2
theorem kept {w0 w w' : World} {O : Nat → Prop} {p s t m : Nat} {S : St} {f : T9.Fo} (h : Cs w0 w O p s t m S f) (g : w.grownBy w' none) : Cs w0 w' O p s t m S f := by
  obtain ⟨OS, OT, h1, h2, h3, h4, h5⟩ := h.ex
  exact ⟨⟨OS, OT, h1.kept g, h2.kept g, h3, h4, h5⟩, (g.block p h.plt (by simp)).trans h.box, h.op, fun i hi => ⟨(h.lo i hi).1, Nat.lt_of_lt_of_le (h.lo i hi).2 g.size⟩, gbTrans h.gr g, h.gs, h.gt⟩
theorem mono {w0 w : World} {O O' : Nat → Prop} {p s t m : Nat} {S : St} {f : T9.Fo} (h : Cs w0 w O p s t m S f) (ho : ∀ i, O i → O' i) (hl : ∀ i, O' i → w0.heap.size ≤ i ∧ i < w.heap.size) : Cs w0 w O' p s t m S f := by
  obtain ⟨OS, OT, h1, h2, h3, h4, h5⟩ := h.ex
  exact ⟨⟨OS, OT, h1, h2, h3, fun i hi => ⟨ho i (h4 i hi).1, (h4 i hi).2⟩, fun i hi => ⟨ho i (h5 i hi).1, (h5 i hi).2⟩⟩, h.box, ho p h.op, hl, h.gr, h.gs, h.gt⟩
theorem more {w0 w : World} {O : Nat → Prop} {p s t m n : Nat} {S : St} {f : T9.Fo} (h : Cs w0 w O p s t m S f) (hn : m ≤ n) : Cs w0 w O p s t n S f := by
  obtain ⟨OS, OT, h1, h2, h3, h4, h5⟩ := h.ex
  exact ⟨⟨OS, OT, h1.mono (fun _ h => h) hn, h2, h3, h4, h5⟩, h.box, h.op, h.lo, h.gr, h.gs, h.gt⟩
/-- Some other new block is written. -/
theorem keep {w0 w w' : World} {O : Nat → Prop} {p s t m : Nat} {S : St} {f : T9.Fo} {x : Nat} (h : Cs w0 w O p s t m S f) (g : w.grownBy w' (some x)) (hx : ¬ O x) (hl : w0.heap.size ≤ x) : Cs w0 w' O p s t m S f := by
  obtain ⟨OS, OT, h1, h2, h3, h4, h5⟩ := h.ex
  have F : Fr (fun i => i = x) w w' := Fr.at g rfl
  exact ⟨⟨OS, OT, h1.fr F (fun i hi e => hx (e ▸ (h4 i hi).1)), h2.fr F (fun i hi e => hx (e ▸ (h5 i hi).1)), h3, h4, h5⟩, (F.block p h.plt (fun e => hx (e ▸ h.op))).trans h.box, h.op, fun i hi => ⟨(h.lo i hi).1, Nat.lt_of_lt_of_le (h.lo i hi).2 g.size⟩, gbNew (gbTrans (gbAny h.gr _) g) hl, h.gs, h.gt⟩
theorem gro {w0 w w' : World} {O : Nat → Prop} {p s t m : Nat} {S : St} {f : T9.Fo} (h : Cs w0 w O p s t m S f) (F : Fr O w w') : w0.grownBy w' none := by
  have := h.gr.size
  exact ((Fr.grown (O := O) h.gr).trans F).new (fun i hi e => absurd (h.lo i e).1 (by omega))
/-- The store has turned. -/
theorem store {w0 w w' : World} {O OS OS' OT : Nat → Prop} {p s t m m' : Nat} {S S' : St} {f : T9.Fo} (h : Cs w0 w O p s t m S f) (h2 : T9.TAt w t OT f) (h3 : ∀ i, OS i → ¬ OT i) (h4 : ∀ i, OS i → O i ∧ i ≠ p) (h5 : ∀ i, OT i → O i ∧ i ≠ p)
    (A : SAt w' s m' OS' S') (hO : ∀ i, OS' i → OS i ∨ (w.heap.size ≤ i ∧ i < w'.heap.size)) (F : Fr OS w w') (G : Good S') : Cs w0 w' (wide O w w') p s t m' S' f ∧ Fr O w w' := by
  have F' : Fr O w w' := F.mono (fun i _ hi => (h4 i hi).1)
  have hs := F.size
  have h0 := h.gr.size
  refine ⟨⟨⟨OS', OT, A, h2.fr F (fun i hi e => h3 i e hi), fun i hi e => ?_, fun i hi => ?_, fun i hi => ⟨.inl (h5 i hi).1, (h5 i hi).2⟩⟩, (F.block p h.plt (fun e => (h4 p e).2 rfl)).trans h.box, .inl h.op, fun i hi => ?_, h.gro F', G, h.gt⟩, F'⟩
  · rcases hO i hi with k | k
    · exact h3 i k e
    · have := (h.lo i (h5 i e).1).2; omega
  · rcases hO i hi with k | k
    · exact ⟨.inl (h4 i k).1, (h4 i k).2⟩
    · have := h.plt; exact ⟨.inr k, by omega⟩
  · rcases hi with k | k
    · have := h.lo i k; omega
    · omega
/-- The tree has turned. -/
theorem tree {w0 w w' : World} {O OS OT : Nat → Prop} {p s t m : Nat} {S : St} {f f' : T9.Fo} (h : Cs w0 w O p s t m S f) (h1 : SAt w s m OS S) (h3 : ∀ i, OS i → ¬ OT i) (h4 : ∀ i, OS i → O i ∧ i ≠ p) (h5 : ∀ i, OT i → O i ∧ i ≠ p)
    (A : T9.TAt w' t (T9.wide OT w w') f') (F : Fr OT w w') (G : T9.Good f') : Cs w0 w' (wide O w w') p s t m S f' ∧ Fr O w w' := by
  have F' : Fr O w w' := F.mono (fun i _ hi => (h5 i hi).1)
  have hs := F.size
  have h0 := h.gr.size
  refine ⟨⟨⟨OS, T9.wide OT w w', h1.fr F h3, A, fun i hi e => ?_, fun i hi => ⟨.inl (h4 i hi).1, (h4 i hi).2⟩, fun i hi => ?_⟩, (F.block p h.plt (fun e => (h5 p e).2 rfl)).trans h.box, .inl h.op, fun i hi => ?_, h.gro F', h.gs, G⟩, F'⟩
  · rcases e with k | k
    · exact h3 i hi k
    · have := (h.lo i (h4 i hi).1).2; omega
  · rcases hi with k | k
    · exact ⟨.inl (h5 i k).1, (h5 i k).2⟩
    · have := h.plt; exact ⟨.inr k, by omega⟩
  · rcases hi with k | k
    · have := h.lo i k; omega
    · omega

/-! ### The calls of either part -/
theorem get {w0 w : World} {O : Nat → Prop} {p s t m : Nat} {S : St} {f : T9.Fo} (h : Cs w0 w O p s t m S f) (n i k o r b g u e : Int) (hn : I64 n) (hc : M.getC S n i = ⟨k, o, r, b, g, u⟩) (he : M.getE S n i = e) :
    Calls Try.prog 17 #[.pointer (some ⟨s, 0, none⟩), sv n i] w fun x w' => x = .returned (.tuple #[cv ⟨k, o, r, b, g, u⟩, .int .i64 e]) ∧ w.grownBy w' none := by
  obtain ⟨OS, OT, h1, _⟩ := h.ex
  exact get_is h1 h.gs n i k o r b g u e hn hc he
theorem put {w0 w : World} {O : Nat → Prop} {p s t m : Nat} {S : St} {f : T9.Fo} (h : Cs w0 w O p s t m S f) (n i k o r b g u e : Int) (hn : I64 n) (hb : 0 ≤ b) (hg : 0 ≤ g) (he : M.putE S n i ⟨k, o, r, b, g, u⟩ = e) :
    Calls Try.prog 30 #[.pointer (some ⟨s, 0, none⟩), sv n i, cv ⟨k, o, r, b, g, u⟩] w fun x w' => x = .returned (.int .i64 e) ∧ Cs w0 w' (wide O w w') p s t m (M.putS S n i ⟨k, o, r, b, g, u⟩) f ∧ Fr O w w' := by
  obtain ⟨OS, OT, h1, h2, h3, h4, h5⟩ := h.ex
  refine (put_is h1 h.gs n i k o r b g u e hn hb hg he).mono ?_
  rintro _ w' ⟨rfl, A, F⟩
  exact ⟨rfl, h.store h2 h3 h4 h5 A (fun i hi => .inl hi) F (h.gs.put n i _)⟩
theorem take {w0 w : World} {O : Nat → Prop} {p s t m : Nat} {S : St} {f : T9.Fo} (h : Cs w0 w O p s t m S f) (n i k o r b g u e : Int) (hn : I64 n) (hc : M.takeC S n i = ⟨k, o, r, b, g, u⟩) (he : M.takeE S n i = e) :
    Calls Try.prog 38 #[.pointer (some ⟨s, 0, none⟩), sv n i] w fun x w' => x = .returned (.tuple #[cv ⟨k, o, r, b, g, u⟩, .int .i64 e]) ∧ Cs w0 w' (wide O w w') p s t m (M.takeS S n i) f ∧ Fr O w w' := by
  obtain ⟨OS, OT, h1, h2, h3, h4, h5⟩ := h.ex
  refine (take_is h1 h.gs n i k o r b g u e hn hc he).mono ?_
  rintro _ w' ⟨rfl, A, F⟩
  exact ⟨rfl, h.store h2 h3 h4 h5 A (fun i hi => .inl hi) F (h.gs.take n i)⟩
theorem add {w0 w : World} {O : Nat → Prop} {p s t m : Nat} {S : St} {f : T9.Fo} (h : Cs w0 w O p s t m S f) (id r e : Int) (hid : I64 id) (hm : m ≤ 1000) (he : M.addE S id r = e) :
    Calls Try.prog 29 #[.pointer (some ⟨s, 0, none⟩), .int .i64 id, .int .i64 r] w fun x w' => x = .returned (.int .i64 e) ∧ Cs w0 w' (wide O w w') p s t (m + 1) (M.addS S id r) f ∧ Fr O w w' := by
  obtain ⟨OS, OT, h1, h2, h3, h4, h5⟩ := h.ex
  refine (add_is h1 h.gs id r e hid hm he).mono ?_
  rintro _ w' ⟨rfl, A, F⟩
  exact ⟨rfl, h.store h2 h3 h4 h5 A (fun i hi => by rcases hi with k | ⟨rfl, k⟩; exact .inl k; exact .inr ⟨Nat.le_refl _, k⟩) F (h.gs.add id r)⟩
theorem wipe {w0 w : World} {O : Nat → Prop} {p s t m : Nat} {S : St} {f : T9.Fo} (h : Cs w0 w O p s t m S f) (id e : Int) (hid : I64 id) (he : M.dropE S id = e) :
    Calls Try.prog 48 #[.pointer (some ⟨s, 0, none⟩), .int .i64 id] w fun x w' => x = .returned (.int .i64 e) ∧ Cs w0 w' (wide O w w') p s t m (M.dropS S id) f ∧ Fr O w w' := by
  obtain ⟨OS, OT, h1, h2, h3, h4, h5⟩ := h.ex
  refine (drop_is h1 h.gs id e hid he).mono ?_
  rintro _ w' ⟨rfl, A, F⟩
  exact ⟨rfl, h.store h2 h3 h4 h5 A (fun i hi => .inl hi) F (h.gs.drop id)⟩
theorem full {w0 w : World} {O : Nat → Prop} {p s t m : Nat} {S : St} {f : T9.Fo} (h : Cs w0 w O p s t m S f) :
    Calls Try.prog 16 #[.pointer (some ⟨s, 0, none⟩)] w fun e w' => ∃ v, e = .returned v ∧ Lst w' w.heap.size v (M.full S) ∧ w.grownBy w' none := by
  obtain ⟨OS, OT, h1, _⟩ := h.ex
  exact full_is h1
theorem root {w0 w : World} {O : Nat → Prop} {p s t m : Nat} {S : St} {f : T9.Fo} (h : Cs w0 w O p s t m S f) (n i e : Int) (hn : I64 n) (hi : I64 i) (hm : f.len ≤ 1000) (he : f.rootE (n, i) = e) :
    Calls Try.prog 31 #[.pointer (some ⟨t, 0, none⟩), sv n i] w fun x w' => x = .returned (.int .i64 e) ∧ Cs w0 w' (wide O w w') p s t m S (f.rootF (n, i)) ∧ Fr O w w' := by
  obtain ⟨OS, OT, h1, h2, h3, h4, h5⟩ := h.ex
  refine (T9.root_is h2 n i e hn hi hm he).mono ?_
  rintro _ w' ⟨rfl, A, F⟩
  exact ⟨rfl, h.tree h1 h3 h4 h5 A F (h.gt.root hn hi)⟩
theorem child {w0 w : World} {O : Nat → Prop} {p s t m : Nat} {S : St} {f : T9.Fo} (h : Cs w0 w O p s t m S f) (n i a c e : Int) (hn : I64 n) (hi : I64 i) (ha : I64 a) (hc : I64 c) (hm : f.len ≤ 1000) (he : f.childE (n, i) (a, c) = e) :
    Calls Try.prog 45 #[.pointer (some ⟨t, 0, none⟩), sv n i, sv a c] w fun x w' => x = .returned (.int .i64 e) ∧ Cs w0 w' (wide O w w') p s t m S (f.childF (n, i) (a, c)) ∧ Fr O w w' := by
  obtain ⟨OS, OT, h1, h2, h3, h4, h5⟩ := h.ex
  refine (T9.child_is h2 h.gt n i a c e hn hi ha hc hm he).mono ?_
  rintro _ w' ⟨rfl, A, F⟩
  exact ⟨rfl, h.tree h1 h3 h4 h5 A F (h.gt.child ha hc)⟩
theorem drop {w0 w : World} {O : Nat → Prop} {p s t m : Nat} {S : St} {f : T9.Fo} (h : Cs w0 w O p s t m S f) (n i e : Int) (hn : I64 n) (hi : I64 i) (hm : f.len ≤ 1000) (he : f.dropE (n, i) = e) :
    Calls Try.prog 39 #[.pointer (some ⟨t, 0, none⟩), sv n i] w fun x w' => x = .returned (.int .i64 e) ∧ Cs w0 w' (wide O w w') p s t m S (f.dropF (n, i)) ∧ Fr O w w' := by
  obtain ⟨OS, OT, h1, h2, h3, h4, h5⟩ := h.ex
  refine (T9.drop_is h2 h.gt n i e hn hi hm he).mono ?_
  rintro _ w' ⟨rfl, A, F⟩
  exact ⟨rfl, h.tree h1 h3 h4 h5 A F (h.gt.drop _)⟩
theorem move {w0 w : World} {O : Nat → Prop} {p s t m : Nat} {S : St} {f : T9.Fo} (h : Cs w0 w O p s t m S f) (n i a c e : Int) (hn : I64 n) (hi : I64 i) (ha : I64 a) (hc : I64 c) (hm : f.len ≤ 1000) (he : f.moveE (n, i) (a, c) = e) :
    Calls Try.prog 53 #[.pointer (some ⟨t, 0, none⟩), sv n i, sv a c] w fun x w' => x = .returned (.int .i64 e) ∧ Cs w0 w' (wide O w w') p s t m S (f.moveF (n, i) (a, c)) ∧ Fr O w w' := by
  obtain ⟨OS, OT, h1, h2, h3, h4, h5⟩ := h.ex
  refine (T9.move_is h2 h.gt n i a c e hn hi ha hc hm he).mono ?_
  rintro _ w' ⟨rfl, A, F⟩
  exact ⟨rfl, h.tree h1 h3 h4 h5 A F (h.gt.move _ ha hc)⟩
theorem kin {w0 w : World} {O : Nat → Prop} {p s t m : Nat} {S : St} {f : T9.Fo} (h : Cs w0 w O p s t m S f) (n i : Int) (hn : I64 n) (hi : I64 i) (hm : f.len ≤ 1000) :
    Calls Try.prog 18 #[.pointer (some ⟨t, 0, none⟩), sv n i] w fun e w' => ∃ v', e = .returned v' ∧ Lst w' w.heap.size v' (f.kin (n, i)) ∧ w.grownBy w' none := by
  obtain ⟨OS, OT, h1, h2, h3, h4, h5⟩ := h.ex
  exact T9.kin_is h2 h.gt n i hn hi hm _ rfl
end Cs
end Go.Proofs.Ytkpcdfiebjigbaa
