/-
  THE DOCUMENT'S CAPS IN MEMORY (donjonref10): one block of two cells, the store's list and the tree's row; with the calls of either part on it. Speaks of no function of donjonref10.
-/
import Derived.Test.YtdnoidnpiaadaaaGreatSRdrop
import Derived.Test.YtdnoidnpiaadaaaGreatG15
import Derived.Test.YtdnoidnpiaadaaaGreatG16
import Derived.Test.YtdnoidnpiaadaaaGreatRchk
import Derived.Test.YtdnoidnpiaadaaaGreatG5
namespace Go.Proofs.YtdnoidnpiaadaaaGreat
set_option maxRecDepth 10000
open Go.RowKit
set_option linter.unusedVariables false

/-- Both parts in one block; their blocks are among O, which were not there for w0; nothing else has turned since. -/
structure Rc (w0 w : World) (O : Nat → Prop) (q : Nat) (S : St) (f : T9.Fo) : Prop where
  ex : ∃ vS vT OS OT, RAt vT w q OS S ∧ T9.RAt vS 48 w q OT f ∧ (∀ i, OS i → OT i → i = q) ∧ (∀ i, OS i → O i) ∧ ∀ i, OT i → O i
  lo : ∀ i, O i → w0.heap.size ≤ i ∧ i < w.heap.size
  gr : w0.grownBy w none
  gs : Good S
  gt : T9.Good f

namespace Rc
theorem op {w0 w : World} {O : Nat → Prop} {q : Nat} {S : St} {f : T9.Fo} (h : Rc w0 w O q S f) : O q := by
  obtain ⟨vS, vT, OS, OT, ⟨v, l, a, b, _⟩, h2, h3, h4, h5⟩ := h.ex
  exact h4 q b
theorem plt {w0 w : World} {O : Nat → Prop} {q : Nat} {S : St} {f : T9.Fo} (h : Rc w0 w O q S f) : q < w.heap.size := (h.lo q h.op).2
theorem kept {w0 w w' : World} {O : Nat → Prop} {q : Nat} {S : St} {f : T9.Fo} (h : Rc w0 w O q S f) (g : w.grownBy w' none) : Rc w0 w' O q S f := by
  obtain ⟨vS, vT, OS, OT, h1, h2, h3, h4, h5⟩ := h.ex
  exact ⟨⟨vS, vT, OS, OT, h1.kept g, h2.kept g, h3, h4, h5⟩, fun i hi => ⟨(h.lo i hi).1, Nat.lt_of_lt_of_le (h.lo i hi).2 g.size⟩, gbTrans h.gr g, h.gs, h.gt⟩
theorem mono {w0 w : World} {O O' : Nat → Prop} {q : Nat} {S : St} {f : T9.Fo} (h : Rc w0 w O q S f) (ho : ∀ i, O i → O' i) (hl : ∀ i, O' i → w0.heap.size ≤ i ∧ i < w.heap.size) : Rc w0 w O' q S f := by
  obtain ⟨vS, vT, OS, OT, h1, h2, h3, h4, h5⟩ := h.ex
  exact ⟨⟨vS, vT, OS, OT, h1, h2, h3, fun i hi => ho i (h4 i hi), fun i hi => ho i (h5 i hi)⟩, hl, h.gr, h.gs, h.gt⟩
/-- Other blocks are written. -/
theorem fr {w0 w w' : World} {O O' : Nat → Prop} {q : Nat} {S : St} {f : T9.Fo} (h : Rc w0 w O q S f) (F : Fr O' w w') (ho : ∀ i, O i → ¬ O' i) (hl : ∀ i, O' i → w0.heap.size ≤ i) : Rc w0 w' O q S f := by
  obtain ⟨vS, vT, OS, OT, h1, h2, h3, h4, h5⟩ := h.ex
  have := h.gr.size
  exact ⟨⟨vS, vT, OS, OT, h1.fr F (fun i hi => ho i (h4 i hi)), h2.fr F (fun i hi => ho i (h5 i hi)), h3, h4, h5⟩, fun i hi => ⟨(h.lo i hi).1, Nat.lt_of_lt_of_le (h.lo i hi).2 F.size⟩,
    ((Fr.grown (O := O') h.gr).trans F).new (fun i hi e => absurd (hl i e) (by omega)), h.gs, h.gt⟩
theorem keep {w0 w w' : World} {O : Nat → Prop} {q : Nat} {S : St} {f : T9.Fo} {x : Nat} (h : Rc w0 w O q S f) (g : w.grownBy w' (some x)) (hx : ¬ O x) (hl : w0.heap.size ≤ x) : Rc w0 w' O q S f :=
  h.fr (O' := fun i => i = x) (Fr.at g rfl) (fun i hi e => hx (e ▸ hi)) (fun i hi => hi ▸ hl)
theorem gro {w0 w w' : World} {O : Nat → Prop} {q : Nat} {S : St} {f : T9.Fo} (h : Rc w0 w O q S f) (F : Fr O w w') : w0.grownBy w' none := by
  have := h.gr.size
  exact ((Fr.grown (O := O) h.gr).trans F).new (fun i hi e => absurd (h.lo i e).1 (by omega))
/-- The store has turned. -/
theorem store {w0 w w' : World} {O OS OS' OT : Nat → Prop} {q : Nat} {S S' : St} {f : T9.Fo} {vS vT : Value} (h : Rc w0 w O q S f) (h1 : RAt vT w q OS S) (h2 : T9.RAt vS 48 w q OT f) (h3 : ∀ i, OS i → OT i → i = q) (h4 : ∀ i, OS i → O i) (h5 : ∀ i, OT i → O i)
    (A : RAt vT w' q OS' S') (hO : ∀ i, OS' i → OS i ∨ (w.heap.size ≤ i ∧ i < w'.heap.size)) (F : Fr OS w w') (G : Good S') : Rc w0 w' (wide O w w') q S' f ∧ Fr O w w' := by
  have F' : Fr O w w' := F.mono (fun i _ hi => h4 i hi)
  have hs := F.size
  have h0 := h.gr.size
  obtain ⟨v, a1, a2, a3⟩ := h2
  obtain ⟨v', l', b1, b2, b3, b4⟩ := A
  obtain ⟨v0, l0, c1, c2, c3, c4⟩ := h1
  have e0 : v = vT := by
    have := a1.box.symm.trans c1.box
    simp only [Option.some.injEq, Obj.cells.injEq, and_true] at this
    have t := congrArg (fun l : Array Value => l[1]?) this
    simpa using t
  subst e0
  refine ⟨⟨⟨v', v, OS', OT, ⟨v', l', b1, b2, b3, b4⟩, ⟨v, ⟨b1.box, a1.row.fr F (fun g hg e => ?_)⟩, a2, a3⟩, fun i hi e => ?_, fun i hi => ?_, fun i hi => .inl (h5 i hi)⟩, fun i hi => ?_, h.gro F', G, h.gt⟩, F'⟩
  · exact a1.gp hg (h3 g e (a3 g hg))
  · rcases hO i hi with k | k
    · exact h3 i k e
    · have := (h.lo i (h5 i e)).2; omega
  · rcases hO i hi with k | k
    · exact .inl (h4 i k)
    · exact .inr k
  · rcases hi with k | k
    · have := h.lo i k; omega
    · omega
/-- The tree has turned. -/
theorem tree {w0 w w' : World} {O OS OT : Nat → Prop} {q : Nat} {S : St} {f f' : T9.Fo} {vS vT : Value} (h : Rc w0 w O q S f) (h1 : RAt vT w q OS S) (h2 : T9.RAt vS 48 w q OT f) (h3 : ∀ i, OS i → OT i → i = q) (h4 : ∀ i, OS i → O i) (h5 : ∀ i, OT i → O i)
    (A : T9.RAt vS 48 w' q (T9.wide OT w w') f') (F : Fr OT w w') (G : T9.Good f') : Rc w0 w' (wide O w w') q S f' ∧ Fr O w w' := by
  have F' : Fr O w w' := F.mono (fun i _ hi => h5 i hi)
  have hs := F.size
  have h0 := h.gr.size
  obtain ⟨v, a1, a2, a3⟩ := h2
  obtain ⟨v', b1, b2, b3⟩ := A
  obtain ⟨v0, l0, c1, c2, c3, c4⟩ := h1
  have e0 : v0 = vS := by
    have := c1.box.symm.trans a1.box
    simp only [Option.some.injEq, Obj.cells.injEq, and_true] at this
    have t := congrArg (fun l : Array Value => l[0]?) this
    simpa using t
  subst e0
  refine ⟨⟨⟨v0, v', OS, T9.wide OT w w', ⟨v0, l0, ⟨b1.box, c1.ls.fr F (fun b hb e => ?_), c1.srt, fun e he => ?_, c1.gone, c1.hnd⟩, c2, c3, c4⟩, ⟨v', b1, b2, b3⟩, fun i hi e => ?_, fun i hi => .inl (h4 i hi), fun i hi => ?_⟩, fun i hi => ?_, h.gro F', h.gs, G⟩, F'⟩
  · exact c1.gp hb (h3 b (c3 b hb) e)
  · obtain ⟨d, k1, k2, k3⟩ := c1.node e he
    exact ⟨d, k1, k2, k3.fr F (fun z => c1.hp he (h3 _ (c4 e he) z))⟩
  · rcases e with k | k
    · exact h3 i hi k
    · have := (h.lo i (h4 i hi)).2; omega
  · rcases hi with k | k
    · exact .inl (h5 i k)
    · exact .inr k
  · rcases hi with k | k
    · have := h.lo i k; omega
    · omega

/-! ### The calls of either part -/
theorem get {w0 w : World} {O : Nat → Prop} {q : Nat} {S : St} {f : T9.Fo} (h : Rc w0 w O q S f) (n i k o r b g u e : Int) (hc : M.getC S n i = ⟨k, o, r, b, g, u⟩) (he : M.getE S n i = e) :
    Calls Tryz.prog 52 #[.pointer (some ⟨q, 0, none⟩), sv n i] w fun x w' => x = .returned (.tuple #[cv ⟨k, o, r, b, g, u⟩, .int .i64 e]) ∧ w.grownBy w' none := by
  obtain ⟨vS, vT, OS, OT, h1, _⟩ := h.ex
  exact rget_is h1 h.gs n i k o r b g u e hc he
theorem put {w0 w : World} {O : Nat → Prop} {q : Nat} {S : St} {f : T9.Fo} (h : Rc w0 w O q S f) (n i k o r b g u e : Int) (he : M.putE S n i ⟨k, o, r, b, g, u⟩ = e) :
    Calls Tryz.prog 78 #[.pointer (some ⟨q, 0, none⟩), sv n i, cv ⟨k, o, r, b, g, u⟩] w fun x w' => x = .returned (.int .i64 e) ∧ Rc w0 w' (wide O w w') q (M.putS S n i ⟨k, o, r, b, g, u⟩) f ∧ Fr O w w' := by
  obtain ⟨vS, vT, OS, OT, h1, h2, h3, h4, h5⟩ := h.ex
  refine (rput_is h1 h.gs n i k o r b g u e he).mono ?_
  rintro _ w' ⟨rfl, A, F⟩
  exact ⟨rfl, h.store h1 h2 h3 h4 h5 A (fun i hi => .inl hi) F (h.gs.put n i _)⟩
theorem take {w0 w : World} {O : Nat → Prop} {q : Nat} {S : St} {f : T9.Fo} (h : Rc w0 w O q S f) (n i k o r b g u e : Int) (hc : M.takeC S n i = ⟨k, o, r, b, g, u⟩) (he : M.takeE S n i = e) :
    Calls Tryz.prog 93 #[.pointer (some ⟨q, 0, none⟩), sv n i] w fun x w' => x = .returned (.tuple #[cv ⟨k, o, r, b, g, u⟩, .int .i64 e]) ∧ Rc w0 w' (wide O w w') q (M.takeS S n i) f ∧ Fr O w w' := by
  obtain ⟨vS, vT, OS, OT, h1, h2, h3, h4, h5⟩ := h.ex
  refine (rtake_is h1 h.gs n i k o r b g u e hc he).mono ?_
  rintro _ w' ⟨rfl, A, F⟩
  exact ⟨rfl, h.store h1 h2 h3 h4 h5 A (fun i hi => .inl hi) F (h.gs.take n i)⟩
theorem add {w0 w : World} {O : Nat → Prop} {q : Nat} {S : St} {f : T9.Fo} (h : Rc w0 w O q S f) (id r e : Int) (he : M.addE S id r = e) :
    Calls Tryz.prog 30 #[.pointer (some ⟨q, 0, none⟩), .int .i64 id, .int .i64 r] w fun x w' => x = .returned (.int .i64 e) ∧ Rc w0 w' (wide O w w') q (M.addS S id r) f ∧ Fr O w w' := by
  obtain ⟨vS, vT, OS, OT, h1, h2, h3, h4, h5⟩ := h.ex
  refine (radd_is h1 h.gs id r e he).mono ?_
  rintro _ w' ⟨rfl, A, F⟩
  exact ⟨rfl, h.store h1 h2 h3 h4 h5 A (fun i hi => hi) F (h.gs.add id r)⟩
theorem wipe {w0 w : World} {O : Nat → Prop} {q : Nat} {S : St} {f : T9.Fo} (h : Rc w0 w O q S f) (id e : Int) (he : M.dropE S id = e) :
    Calls Tryz.prog 32 #[.pointer (some ⟨q, 0, none⟩), .int .i64 id] w fun x w' => x = .returned (.int .i64 e) ∧ Rc w0 w' (wide O w w') q (M.dropS S id) f ∧ Fr O w w' := by
  obtain ⟨vS, vT, OS, OT, h1, h2, h3, h4, h5⟩ := h.ex
  refine (rdrop_is h1 h.gs id e he).mono ?_
  rintro _ w' ⟨rfl, A, F⟩
  exact ⟨rfl, h.store h1 h2 h3 h4 h5 A (fun i hi => hi) F (h.gs.drop id)⟩
theorem radix {w0 w : World} {O : Nat → Prop} {q : Nat} {S : St} {f : T9.Fo} (h : Rc w0 w O q S f) (id r : Int) (hr : M.rad S id = r) :
    Calls Tryz.prog 10 #[.pointer (some ⟨q, 0, none⟩), .int .i64 id] w fun e w' => e = .returned (.int .i64 r) ∧ w.grownBy w' none := by
  obtain ⟨vS, vT, OS, OT, h1, _⟩ := h.ex
  exact rradix_is h1 h.gs id r hr
theorem count {w0 w : World} {O : Nat → Prop} {q : Nat} {S : St} {f : T9.Fo} (h : Rc w0 w O q S f) (k o v : Int) (hv : (M.cnt S k o : Int) = v) :
    Calls Tryz.prog 12 #[.pointer (some ⟨q, 0, none⟩), .int .i64 k, .int .i64 o] w fun e w' => e = .returned (.int .i64 v) ∧ w.grownBy w' none := by
  obtain ⟨vS, vT, OS, OT, h1, _⟩ := h.ex
  exact rcount_is h1 h.gs k o v hv
theorem full {w0 w : World} {O : Nat → Prop} {q : Nat} {S : St} {f : T9.Fo} (h : Rc w0 w O q S f) :
    Calls Tryz.prog 49 #[.pointer (some ⟨q, 0, none⟩)] w fun e w' => ∃ v, e = .returned v ∧ Lst w' w.heap.size v (M.full S) ∧ w.grownBy w' none := by
  obtain ⟨vS, vT, OS, OT, h1, _⟩ := h.ex
  exact rfull_is h1 h.gs
theorem root {w0 w : World} {O : Nat → Prop} {q : Nat} {S : St} {f : T9.Fo} (h : Rc w0 w O q S f) (n i e : Int) (hn : I64 n) (hi : I64 i) (hm : f.len ≤ 60) (he : f.rootE (n, i) = e) :
    Calls Tryz.prog 79 #[.pointer (some ⟨q, 1, none⟩), sv n i] w fun x w' => x = .returned (.int .i64 e) ∧ Rc w0 w' (wide O w w') q S (f.rootF (n, i)) ∧ Fr O w w' := by
  obtain ⟨vS, vT, OS, OT, h1, h2, h3, h4, h5⟩ := h.ex
  refine (T9.rroot_is h2 h.gt hm n i e he).mono ?_
  rintro _ w' ⟨rfl, A, F⟩
  exact ⟨rfl, h.tree h1 h2 h3 h4 h5 A F (h.gt.root hn hi)⟩
theorem child {w0 w : World} {O : Nat → Prop} {q : Nat} {S : St} {f : T9.Fo} (h : Rc w0 w O q S f) (n i a c e : Int) (ha : I64 a) (hc : I64 c) (hm : f.len ≤ 60) (he : f.childE (n, i) (a, c) = e) :
    Calls Tryz.prog 84 #[.pointer (some ⟨q, 1, none⟩), sv n i, sv a c] w fun x w' => x = .returned (.int .i64 e) ∧ Rc w0 w' (wide O w w') q S (f.childF (n, i) (a, c)) ∧ Fr O w w' := by
  obtain ⟨vS, vT, OS, OT, h1, h2, h3, h4, h5⟩ := h.ex
  refine (T9.rchild_is h2 h.gt hm n i a c e he).mono ?_
  rintro _ w' ⟨rfl, A, F⟩
  exact ⟨rfl, h.tree h1 h2 h3 h4 h5 A F (h.gt.child ha hc)⟩
theorem drop {w0 w : World} {O : Nat → Prop} {q : Nat} {S : St} {f : T9.Fo} (h : Rc w0 w O q S f) (n i e : Int) (hm : f.len ≤ 60) (he : f.dropE (n, i) = e) :
    Calls Tryz.prog 97 #[.pointer (some ⟨q, 1, none⟩), sv n i] w fun x w' => x = .returned (.int .i64 e) ∧ Rc w0 w' (wide O w w') q S (f.dropF (n, i)) ∧ Fr O w w' := by
  obtain ⟨vS, vT, OS, OT, h1, h2, h3, h4, h5⟩ := h.ex
  refine (T9.rdrop_is h2 h.gt hm n i e he).mono ?_
  rintro _ w' ⟨rfl, A, F⟩
  exact ⟨rfl, h.tree h1 h2 h3 h4 h5 A F (h.gt.drop _)⟩
theorem move {w0 w : World} {O : Nat → Prop} {q : Nat} {S : St} {f : T9.Fo} (h : Rc w0 w O q S f) (n i a c e : Int) (ha : I64 a) (hc : I64 c) (hm : f.len ≤ 60) (he : f.moveE (n, i) (a, c) = e) :
    Calls Tryz.prog 94 #[.pointer (some ⟨q, 1, none⟩), sv n i, sv a c] w fun x w' => x = .returned (.int .i64 e) ∧ Rc w0 w' (wide O w w') q S (f.moveF (n, i) (a, c)) ∧ Fr O w w' := by
  obtain ⟨vS, vT, OS, OT, h1, h2, h3, h4, h5⟩ := h.ex
  refine (T9.rmove_is h2 h.gt hm n i a c e he).mono ?_
  rintro _ w' ⟨rfl, A, F⟩
  exact ⟨rfl, h.tree h1 h2 h3 h4 h5 A F (h.gt.move _ ha hc)⟩
theorem kin {w0 w : World} {O : Nat → Prop} {q : Nat} {S : St} {f : T9.Fo} (h : Rc w0 w O q S f) (n i : Int) (hm : f.len ≤ 60) :
    Calls Tryz.prog 15 #[.pointer (some ⟨q, 1, none⟩), sv n i] w fun e w' => ∃ v', e = .returned v' ∧ Lst w' w.heap.size v' (f.kin (n, i)) ∧ w.grownBy w' none := by
  obtain ⟨vS, vT, OS, OT, h1, h2, _⟩ := h.ex
  exact T9.rkin_is h2 h.gt hm n i _ rfl
theorem children {w0 w : World} {O : Nat → Prop} {q : Nat} {S : St} {f : T9.Fo} (h : Rc w0 w O q S f) (n i : Int) (hm : f.len ≤ 60) :
    Calls Tryz.prog 56 #[.pointer (some ⟨q, 1, none⟩), sv n i] w fun e w' => ∃ v', e = .returned v' ∧ Lst w' w.heap.size v' (f.children (n, i)) ∧ w.grownBy w' none := by
  obtain ⟨vS, vT, OS, OT, h1, h2, _⟩ := h.ex
  exact T9.rchildren_is h2 h.gt hm n i _ rfl
theorem parent {w0 w : World} {O : Nat → Prop} {q : Nat} {S : St} {f : T9.Fo} (h : Rc w0 w O q S f) (n i : Int) (hm : f.len ≤ 60) (on oa : Int) (ob : Bool) (e1 : T9.oN (f.parent (n, i)) = on) (e2 : T9.oA (f.parent (n, i)) = oa) (e3 : T9.oB (f.parent (n, i)) = ob) :
    Calls Tryz.prog 54 #[.pointer (some ⟨q, 1, none⟩), sv n i] w fun e w' => e = .returned (.tuple #[sv on oa, .bool ob]) ∧ w.grownBy w' none := by
  obtain ⟨vS, vT, OS, OT, h1, h2, _⟩ := h.ex
  exact T9.rparent_is h2 h.gt hm n i on oa ob e1 e2 e3
end Rc

/-- From w on: the document's parts as they are now, their blocks, and the frame. -/
structure Wr (w0 w wc : World) (O Oc : Nat → Prop) (q : Nat) (S : St) (f : T9.Fo) : Prop where
  rc : Rc w0 wc Oc q S f
  fr : Fr O w wc
  sub : ∀ i, Oc i → O i ∨ w.heap.size ≤ i
theorem Wr.start {w0 w : World} {O : Nat → Prop} {q : Nat} {S : St} {f : T9.Fo} (h : Rc w0 w O q S f) : Wr w0 w w O O q S f := ⟨h, Fr.refl O w, fun i hi => .inl hi⟩
theorem Wr.kept {w0 w wc wd : World} {O Oc : Nat → Prop} {q : Nat} {S : St} {f : T9.Fo} (h : Wr w0 w wc O Oc q S f) (g : wc.grownBy wd none) : Wr w0 w wd O Oc q S f :=
  ⟨h.rc.kept g, h.fr.trans (Fr.grown g), h.sub⟩
theorem Wr.call {w0 w wc wd : World} {O Oc : Nat → Prop} {q : Nat} {S S' : St} {f f' : T9.Fo} (h : Wr w0 w wc O Oc q S f) (A : Rc w0 wd (wide Oc wc wd) q S' f') (F : Fr Oc wc wd) : Wr w0 w wd O (wide Oc wc wd) q S' f' := by
  refine ⟨A, h.fr.join F (fun i hi k => ?_), fun i hi => ?_⟩
  · rcases h.sub i k with e | e
    · exact e
    · omega
  · rcases hi with e | e
    · exact h.sub i e
    · have := h.fr.size; exact .inr (by omega)
theorem Wr.keep {w0 w wc wd : World} {O Oc : Nat → Prop} {q x : Nat} {S : St} {f : T9.Fo} (h : Wr w0 w wc O Oc q S f) (g : wc.grownBy wd (some x)) (hx : ¬ Oc x) (hw : w.heap.size ≤ x) (h0 : w0.heap.size ≤ w.heap.size) : Wr w0 w wd O Oc q S f :=
  ⟨h.rc.keep g hx (Nat.le_trans h0 hw), h.fr.join (Fr.at (O := fun i => i = x) g rfl) (fun i hi e => by omega), h.sub⟩
theorem Wr.fin {w0 w wc : World} {O Oc : Nat → Prop} {q : Nat} {S : St} {f : T9.Fo} (h : Wr w0 w wc O Oc q S f) (h0 : w0.heap.size ≤ w.heap.size) (ho : ∀ i, O i → w0.heap.size ≤ i ∧ i < w.heap.size) : Rc w0 wc (wide O w wc) q S f ∧ Fr O w wc := by
  have hs := h.fr.size
  refine ⟨h.rc.mono (fun i hi => ?_) (fun i hi => ?_), h.fr⟩
  · rcases h.sub i hi with e | e
    · exact .inl e
    · exact .inr ⟨e, (h.rc.lo i hi).2⟩
  · rcases hi with e | e
    · have := ho i e; omega
    · omega
theorem Wr.out {w0 w wc : World} {O Oc : Nat → Prop} {q : Nat} {S : St} {f : T9.Fo} (h : Wr w0 w wc O Oc q S f) {x : Nat} (hx : wc.heap.size ≤ x) : ¬ Oc x := fun e => by have := (h.rc.lo x e).2; omega
end Go.Proofs.YtdnoidnpiaadaaaGreat

/-
  THE DOCUMENT'S SIDE (donjonref05): Derive, Weaker.
-/
namespace Go.Proofs.YtdnoidnpiaadaaaGreat
set_option maxRecDepth 10000
open Go.RowKit

set_option maxHeartbeats 1000000 in
theorem rd_check (k o r b g n rt bd gd bt : Int) (v : Int) (hv : (v != 0) = true)
    (HC : ∀ w, Calls Tryz.prog 110 #[cv ⟨k, o, r, b, g, n⟩] w fun e w' => e = .returned (.int .i64 v) ∧ w.grownBy w' none) (w : World) :
    Calls Tryz.prog 86 #[cv ⟨k, o, r, b, g, n⟩, .int .i64 rt, .int .u64 bd, .int .u64 gd, .int .i64 bt] w fun e w' => e = .returned (.tuple #[cv C.zero, .int .i64 v]) ∧ w.grownBy w' none := by
  obtain ⟨X5, X10, gW⟩ := boxes2 w ⟨k, o, r, b, g, n⟩ C.zero _ rfl
  go_enter Tryz.func86, Tryz.ntmps86
  go_wp2_with fail
  refine (HC _).mono ?_
  rintro e w1 ⟨rfl, g1⟩
  obtain ⟨c0, c1, c2, c3, c4, c5, clt, cfr⟩ := X5.kept g1
  obtain ⟨a0, a1, a2, a3, a4, a5, lt, fr⟩ := X10.kept g1
  have G1 := gbTrans gW g1
  clear X5 X10 gW g1
  simp only at c0 c1 c2 c3 c4 c5
  go_wp2
  exact bodyPost_ret (v := .tuple #[cv C.zero, .int .i64 v]) (by simp [results, Tryz.results86, go_sem, a0, a1, a2, a3, a4, a5]) rfl ⟨rfl, by repeat (first | with_reducible exact G1 | refine gbSetNew ?_ _ _ _ (by omega))⟩

set_option maxHeartbeats 1000000 in
theorem rd_null (o r b g n rt bd gd bt : Int)
    (HC : ∀ w, Calls Tryz.prog 110 #[cv ⟨0, o, r, b, g, n⟩] w fun e w' => e = .returned (.int .i64 0) ∧ w.grownBy w' none) (w : World) :
    Calls Tryz.prog 86 #[cv ⟨0, o, r, b, g, n⟩, .int .i64 rt, .int .u64 bd, .int .u64 gd, .int .i64 bt] w fun e w' => e = .returned (.tuple #[cv C.zero, .int .i64 3]) ∧ w.grownBy w' none := by
  obtain ⟨X5, X10, gW⟩ := boxes2 w ⟨0, o, r, b, g, n⟩ C.zero _ rfl
  go_enter Tryz.func86, Tryz.ntmps86
  go_wp2_with fail
  refine (HC _).mono ?_
  rintro e w1 ⟨rfl, g1⟩
  obtain ⟨c0, c1, c2, c3, c4, c5, clt, cfr⟩ := X5.kept g1
  obtain ⟨a0, a1, a2, a3, a4, a5, lt, fr⟩ := X10.kept g1
  have G1 := gbTrans gW g1
  clear X5 X10 gW g1
  simp only at c0 c1 c2 c3 c4 c5
  go_wp2
  exact bodyPost_ret (v := .tuple #[cv C.zero, .int .i64 3]) (by simp [results, Tryz.results86, go_sem, a0, a1, a2, a3, a4, a5]) rfl ⟨rfl, by repeat (first | with_reducible exact G1 | refine gbSetNew ?_ _ _ _ (by omega))⟩

set_option maxHeartbeats 1000000 in
theorem rd_kind1 (o r b g n rt bd gd bt : Int)
    (HC : ∀ w, Calls Tryz.prog 110 #[cv ⟨1, o, r, b, g, n⟩] w fun e w' => e = .returned (.int .i64 0) ∧ w.grownBy w' none) (w : World) :
    Calls Tryz.prog 86 #[cv ⟨1, o, r, b, g, n⟩, .int .i64 rt, .int .u64 bd, .int .u64 gd, .int .i64 bt] w fun e w' => e = .returned (.tuple #[cv C.zero, .int .i64 2]) ∧ w.grownBy w' none := by
  obtain ⟨X5, X10, gW⟩ := boxes2 w ⟨1, o, r, b, g, n⟩ C.zero _ rfl
  go_enter Tryz.func86, Tryz.ntmps86
  go_wp2_with fail
  refine (HC _).mono ?_
  rintro e w1 ⟨rfl, g1⟩
  obtain ⟨c0, c1, c2, c3, c4, c5, clt, cfr⟩ := X5.kept g1
  obtain ⟨a0, a1, a2, a3, a4, a5, lt, fr⟩ := X10.kept g1
  have G1 := gbTrans gW g1
  clear X5 X10 gW g1
  simp only at c0 c1 c2 c3 c4 c5
  go_wp2
  exact bodyPost_ret (v := .tuple #[cv C.zero, .int .i64 2]) (by simp [results, Tryz.results86, go_sem, a0, a1, a2, a3, a4, a5]) rfl ⟨rfl, by repeat (first | with_reducible exact G1 | refine gbSetNew ?_ _ _ _ (by omega))⟩

set_option maxHeartbeats 1000000 in
theorem rd_kind10 (o r b g n rt bd gd bt : Int)
    (HC : ∀ w, Calls Tryz.prog 110 #[cv ⟨10, o, r, b, g, n⟩] w fun e w' => e = .returned (.int .i64 0) ∧ w.grownBy w' none) (w : World) :
    Calls Tryz.prog 86 #[cv ⟨10, o, r, b, g, n⟩, .int .i64 rt, .int .u64 bd, .int .u64 gd, .int .i64 bt] w fun e w' => e = .returned (.tuple #[cv C.zero, .int .i64 2]) ∧ w.grownBy w' none := by
  obtain ⟨X5, X10, gW⟩ := boxes2 w ⟨10, o, r, b, g, n⟩ C.zero _ rfl
  go_enter Tryz.func86, Tryz.ntmps86
  go_wp2_with fail
  refine (HC _).mono ?_
  rintro e w1 ⟨rfl, g1⟩
  obtain ⟨c0, c1, c2, c3, c4, c5, clt, cfr⟩ := X5.kept g1
  obtain ⟨a0, a1, a2, a3, a4, a5, lt, fr⟩ := X10.kept g1
  have G1 := gbTrans gW g1
  clear X5 X10 gW g1
  simp only at c0 c1 c2 c3 c4 c5
  go_wp2
  exact bodyPost_ret (v := .tuple #[cv C.zero, .int .i64 2]) (by simp [results, Tryz.results86, go_sem, a0, a1, a2, a3, a4, a5]) rfl ⟨rfl, by repeat (first | with_reducible exact G1 | refine gbSetNew ?_ _ _ _ (by omega))⟩

set_option maxHeartbeats 1000000 in
theorem rd_kind11 (o r b g n rt bd gd bt : Int)
    (HC : ∀ w, Calls Tryz.prog 110 #[cv ⟨11, o, r, b, g, n⟩] w fun e w' => e = .returned (.int .i64 0) ∧ w.grownBy w' none) (w : World) :
    Calls Tryz.prog 86 #[cv ⟨11, o, r, b, g, n⟩, .int .i64 rt, .int .u64 bd, .int .u64 gd, .int .i64 bt] w fun e w' => e = .returned (.tuple #[cv C.zero, .int .i64 2]) ∧ w.grownBy w' none := by
  obtain ⟨X5, X10, gW⟩ := boxes2 w ⟨11, o, r, b, g, n⟩ C.zero _ rfl
  go_enter Tryz.func86, Tryz.ntmps86
  go_wp2_with fail
  refine (HC _).mono ?_
  rintro e w1 ⟨rfl, g1⟩
  obtain ⟨c0, c1, c2, c3, c4, c5, clt, cfr⟩ := X5.kept g1
  obtain ⟨a0, a1, a2, a3, a4, a5, lt, fr⟩ := X10.kept g1
  have G1 := gbTrans gW g1
  clear X5 X10 gW g1
  simp only at c0 c1 c2 c3 c4 c5
  go_wp2
  exact bodyPost_ret (v := .tuple #[cv C.zero, .int .i64 2]) (by simp [results, Tryz.results86, go_sem, a0, a1, a2, a3, a4, a5]) rfl ⟨rfl, by repeat (first | with_reducible exact G1 | refine gbSetNew ?_ _ _ _ (by omega))⟩

set_option maxHeartbeats 1000000 in
theorem rd_rights (k o r b g n rt bd gd bt : Int) (h0 : (k == 0) = false) (h1 : (k == 1) = false) (h10 : (k == 10) = false) (h11 : (k == 11) = false) (hr : M.ck rt = false)
    (HC : ∀ w, Calls Tryz.prog 110 #[cv ⟨k, o, r, b, g, n⟩] w fun e w' => e = .returned (.int .i64 0) ∧ w.grownBy w' none) (w : World) :
    Calls Tryz.prog 86 #[cv ⟨k, o, r, b, g, n⟩, .int .i64 rt, .int .u64 bd, .int .u64 gd, .int .i64 bt] w fun e w' => e = .returned (.tuple #[cv C.zero, .int .i64 5]) ∧ w.grownBy w' none := by
  obtain ⟨X5, X10, gW⟩ := boxes2 w ⟨k, o, r, b, g, n⟩ C.zero _ rfl
  go_enter Tryz.func86, Tryz.ntmps86
  go_wp2_with fail
  refine (HC _).mono ?_
  rintro e w1 ⟨rfl, g1⟩
  obtain ⟨c0, c1, c2, c3, c4, c5, clt, cfr⟩ := X5.kept g1
  obtain ⟨a0, a1, a2, a3, a4, a5, lt, fr⟩ := X10.kept g1
  have G1 := gbTrans gW g1
  clear X5 X10 gW g1
  simp only at c0 c1 c2 c3 c4 c5
  go_wp2_with fail
  refine (rcheck_is rt false hr _).mono ?_
  rintro e w' ⟨rfl, rfl⟩
  go_wp2
  exact bodyPost_ret (v := .tuple #[cv C.zero, .int .i64 5]) (by simp [results, Tryz.results86, go_sem, a0, a1, a2, a3, a4, a5]) rfl ⟨rfl, by repeat (first | with_reducible exact G1 | refine gbSetNew ?_ _ _ _ (by omega))⟩

set_option maxHeartbeats 1000000 in
theorem rd_plain (k o r b g n rt bd gd bt : Int) (h0 : (k == 0) = false) (h1 : (k == 1) = false) (h10 : (k == 10) = false) (h11 : (k == 11) = false) (hr : M.ck rt = true) (v1 : M.rgd k = false) (v2 : M.bgd k = false) (h2 : (k == 2) = false)
    (HC : ∀ w, Calls Tryz.prog 110 #[cv ⟨k, o, r, b, g, n⟩] w fun e w' => e = .returned (.int .i64 0) ∧ w.grownBy w' none) (w : World) :
    Calls Tryz.prog 86 #[cv ⟨k, o, r, b, g, n⟩, .int .i64 rt, .int .u64 bd, .int .u64 gd, .int .i64 bt] w fun e w' => e = .returned (.tuple #[cv ⟨k, o, r, b, g, n⟩, .int .i64 0]) ∧ w.grownBy w' none := by
  obtain ⟨X5, X10, gW⟩ := boxes2 w ⟨k, o, r, b, g, n⟩ C.zero _ rfl
  go_enter Tryz.func86, Tryz.ntmps86
  go_wp2_with fail
  refine (HC _).mono ?_
  rintro e w1 ⟨rfl, g1⟩
  obtain ⟨c0, c1, c2, c3, c4, c5, clt, cfr⟩ := X5.kept g1
  obtain ⟨a0, a1, a2, a3, a4, a5, lt, fr⟩ := X10.kept g1
  have G1 := gbTrans gW g1
  clear X5 X10 gW g1
  simp only at c0 c1 c2 c3 c4 c5
  go_wp2_with fail
  refine (rcheck_is rt true hr _).mono ?_
  rintro e w' ⟨rfl, rfl⟩
  go_wp2_with fail
  refine (righted_is k false v1 _).mono ?_
  rintro e w' ⟨rfl, rfl⟩
  go_wp2_with fail
  refine (badged_is k false v2 _).mono ?_
  rintro e w' ⟨rfl, rfl⟩
  go_wp2
  exact bodyPost_ret (v := .tuple #[cv ⟨k, o, r, b, g, n⟩, .int .i64 0]) (by simp [results, Tryz.results86, go_sem, a0, a1, a2, a3, a4, a5]) rfl ⟨rfl, by repeat (first | with_reducible exact G1 | refine gbSetNew ?_ _ _ _ (by omega))⟩

set_option maxHeartbeats 1000000 in
theorem rd_node_no (o r b g n rt bd gd bt : Int) (hr : M.ck rt = true) (hg : M.grd gd bt = false)
    (HC : ∀ w, Calls Tryz.prog 110 #[cv ⟨2, o, r, b, g, n⟩] w fun e w' => e = .returned (.int .i64 0) ∧ w.grownBy w' none) (w : World) :
    Calls Tryz.prog 86 #[cv ⟨2, o, r, b, g, n⟩, .int .i64 rt, .int .u64 bd, .int .u64 gd, .int .i64 bt] w fun e w' => e = .returned (.tuple #[cv C.zero, .int .i64 10]) ∧ w.grownBy w' none := by
  obtain ⟨X5, X10, gW⟩ := boxes2 w ⟨2, o, r, b, g, n⟩ C.zero _ rfl
  go_enter Tryz.func86, Tryz.ntmps86
  go_wp2_with fail
  refine (HC _).mono ?_
  rintro e w1 ⟨rfl, g1⟩
  obtain ⟨c0, c1, c2, c3, c4, c5, clt, cfr⟩ := X5.kept g1
  obtain ⟨a0, a1, a2, a3, a4, a5, lt, fr⟩ := X10.kept g1
  have G1 := gbTrans gW g1
  clear X5 X10 gW g1
  simp only at c0 c1 c2 c3 c4 c5
  go_wp2_with fail
  refine (rcheck_is rt true hr _).mono ?_
  rintro e w' ⟨rfl, rfl⟩
  go_wp2_with fail
  refine (righted_is 2 false rfl _).mono ?_
  rintro e w' ⟨rfl, rfl⟩
  go_wp2_with fail
  refine (badged_is 2 false rfl _).mono ?_
  rintro e w' ⟨rfl, rfl⟩
  go_wp2_with fail
  refine (guarded_is gd bt false hg _).mono ?_
  rintro e w' ⟨rfl, rfl⟩
  go_wp2
  exact bodyPost_ret (v := .tuple #[cv C.zero, .int .i64 10]) (by simp [results, Tryz.results86, go_sem, a0, a1, a2, a3, a4, a5]) rfl ⟨rfl, by repeat (first | with_reducible exact G1 | refine gbSetNew ?_ _ _ _ (by omega))⟩

set_option maxHeartbeats 1000000 in
theorem rd_node_yes (o r b g n rt bd gd bt : Int) (hr : M.ck rt = true) (hg : M.grd gd bt = true)
    (HC : ∀ w, Calls Tryz.prog 110 #[cv ⟨2, o, r, b, g, n⟩] w fun e w' => e = .returned (.int .i64 0) ∧ w.grownBy w' none) (w : World) :
    Calls Tryz.prog 86 #[cv ⟨2, o, r, b, g, n⟩, .int .i64 rt, .int .u64 bd, .int .u64 gd, .int .i64 bt] w fun e w' => e = .returned (.tuple #[cv ⟨2, o, r, b, gd, bt⟩, .int .i64 0]) ∧ w.grownBy w' none := by
  obtain ⟨X5, X10, gW⟩ := boxes2 w ⟨2, o, r, b, g, n⟩ C.zero _ rfl
  go_enter Tryz.func86, Tryz.ntmps86
  go_wp2_with fail
  refine (HC _).mono ?_
  rintro e w1 ⟨rfl, g1⟩
  obtain ⟨c0, c1, c2, c3, c4, c5, clt, cfr⟩ := X5.kept g1
  obtain ⟨a0, a1, a2, a3, a4, a5, lt, fr⟩ := X10.kept g1
  have G1 := gbTrans gW g1
  clear X5 X10 gW g1
  simp only at c0 c1 c2 c3 c4 c5
  go_wp2_with fail
  refine (rcheck_is rt true hr _).mono ?_
  rintro e w' ⟨rfl, rfl⟩
  go_wp2_with fail
  refine (righted_is 2 false rfl _).mono ?_
  rintro e w' ⟨rfl, rfl⟩
  go_wp2_with fail
  refine (badged_is 2 false rfl _).mono ?_
  rintro e w' ⟨rfl, rfl⟩
  go_wp2_with fail
  refine (guarded_is gd bt true hg _).mono ?_
  rintro e w' ⟨rfl, rfl⟩
  go_wp2
  exact bodyPost_ret (v := .tuple #[cv ⟨2, o, r, b, gd, bt⟩, .int .i64 0]) (by simp [results, Tryz.results86, go_sem, a0, a1, a2, a3, a4, a5]) rfl ⟨rfl, by repeat (first | with_reducible exact G1 | refine gbSetNew ?_ _ _ _ (by omega))⟩

set_option maxHeartbeats 1000000 in
theorem rd_frame (o r b g n rt bd gd bt r' : Int) (hr : M.ck rt = true)
    (HM : ∀ w, Calls Tryz.prog 117 #[.int .i64 r, .int .i64 rt] w fun e w' => e = .returned (.int .i64 r') ∧ w' = w)
    (HC : ∀ w, Calls Tryz.prog 110 #[cv ⟨6, o, r, b, g, n⟩] w fun e w' => e = .returned (.int .i64 0) ∧ w.grownBy w' none) (w : World) :
    Calls Tryz.prog 86 #[cv ⟨6, o, r, b, g, n⟩, .int .i64 rt, .int .u64 bd, .int .u64 gd, .int .i64 bt] w fun e w' => e = .returned (.tuple #[cv ⟨6, o, r', b, g, n⟩, .int .i64 0]) ∧ w.grownBy w' none := by
  obtain ⟨X5, X10, gW⟩ := boxes2 w ⟨6, o, r, b, g, n⟩ C.zero _ rfl
  go_enter Tryz.func86, Tryz.ntmps86
  go_wp2_with fail
  refine (HC _).mono ?_
  rintro e w1 ⟨rfl, g1⟩
  obtain ⟨c0, c1, c2, c3, c4, c5, clt, cfr⟩ := X5.kept g1
  obtain ⟨a0, a1, a2, a3, a4, a5, lt, fr⟩ := X10.kept g1
  have G1 := gbTrans gW g1
  clear X5 X10 gW g1
  simp only at c0 c1 c2 c3 c4 c5
  go_wp2_with fail
  refine (rcheck_is rt true hr _).mono ?_
  rintro e w' ⟨rfl, rfl⟩
  go_wp2_with fail
  refine (righted_is 6 true rfl _).mono ?_
  rintro e w' ⟨rfl, rfl⟩
  go_wp2_with fail
  refine (HM _).mono ?_
  rintro e w' ⟨rfl, rfl⟩
  go_wp2_with fail
  refine (badged_is 6 false rfl _).mono ?_
  rintro e w' ⟨rfl, rfl⟩
  go_wp2
  exact bodyPost_ret (v := .tuple #[cv ⟨6, o, r', b, g, n⟩, .int .i64 0]) (by simp [results, Tryz.results86, go_sem, a0, a1, a2, a3, a4, a5]) rfl ⟨rfl, by repeat (first | with_reducible exact G1 | refine gbSetNew ?_ _ _ _ (by omega))⟩

set_option maxHeartbeats 1000000 in
theorem rd_keep4 (o r b g n rt bd gd bt r' : Int) (hr : M.ck rt = true) (hb : (bd != 0) = false)
    (HM : ∀ w, Calls Tryz.prog 117 #[.int .i64 r, .int .i64 rt] w fun e w' => e = .returned (.int .i64 r') ∧ w' = w)
    (HC : ∀ w, Calls Tryz.prog 110 #[cv ⟨4, o, r, b, g, n⟩] w fun e w' => e = .returned (.int .i64 0) ∧ w.grownBy w' none) (w : World) :
    Calls Tryz.prog 86 #[cv ⟨4, o, r, b, g, n⟩, .int .i64 rt, .int .u64 bd, .int .u64 gd, .int .i64 bt] w fun e w' => e = .returned (.tuple #[cv ⟨4, o, r', b, g, n⟩, .int .i64 0]) ∧ w.grownBy w' none := by
  obtain ⟨X5, X10, gW⟩ := boxes2 w ⟨4, o, r, b, g, n⟩ C.zero _ rfl
  go_enter Tryz.func86, Tryz.ntmps86
  go_wp2_with fail
  refine (HC _).mono ?_
  rintro e w1 ⟨rfl, g1⟩
  obtain ⟨c0, c1, c2, c3, c4, c5, clt, cfr⟩ := X5.kept g1
  obtain ⟨a0, a1, a2, a3, a4, a5, lt, fr⟩ := X10.kept g1
  have G1 := gbTrans gW g1
  clear X5 X10 gW g1
  simp only at c0 c1 c2 c3 c4 c5
  go_wp2_with fail
  refine (rcheck_is rt true hr _).mono ?_
  rintro e w' ⟨rfl, rfl⟩
  go_wp2_with fail
  refine (righted_is 4 true rfl _).mono ?_
  rintro e w' ⟨rfl, rfl⟩
  go_wp2_with fail
  refine (HM _).mono ?_
  rintro e w' ⟨rfl, rfl⟩
  go_wp2_with fail
  refine (badged_is 4 true rfl _).mono ?_
  rintro e w' ⟨rfl, rfl⟩
  go_wp2
  exact bodyPost_ret (v := .tuple #[cv ⟨4, o, r', b, g, n⟩, .int .i64 0]) (by simp [results, Tryz.results86, go_sem, a0, a1, a2, a3, a4, a5]) rfl ⟨rfl, by repeat (first | with_reducible exact G1 | refine gbSetNew ?_ _ _ _ (by omega))⟩

set_option maxHeartbeats 1000000 in
theorem rd_state4 (o r b g n rt bd gd bt r' : Int) (hr : M.ck rt = true) (hb : (bd != 0) = true) (hc : (b != 0) = true)
    (HM : ∀ w, Calls Tryz.prog 117 #[.int .i64 r, .int .i64 rt] w fun e w' => e = .returned (.int .i64 r') ∧ w' = w)
    (HC : ∀ w, Calls Tryz.prog 110 #[cv ⟨4, o, r, b, g, n⟩] w fun e w' => e = .returned (.int .i64 0) ∧ w.grownBy w' none) (w : World) :
    Calls Tryz.prog 86 #[cv ⟨4, o, r, b, g, n⟩, .int .i64 rt, .int .u64 bd, .int .u64 gd, .int .i64 bt] w fun e w' => e = .returned (.tuple #[cv C.zero, .int .i64 8]) ∧ w.grownBy w' none := by
  obtain ⟨X5, X10, gW⟩ := boxes2 w ⟨4, o, r, b, g, n⟩ C.zero _ rfl
  go_enter Tryz.func86, Tryz.ntmps86
  go_wp2_with fail
  refine (HC _).mono ?_
  rintro e w1 ⟨rfl, g1⟩
  obtain ⟨c0, c1, c2, c3, c4, c5, clt, cfr⟩ := X5.kept g1
  obtain ⟨a0, a1, a2, a3, a4, a5, lt, fr⟩ := X10.kept g1
  have G1 := gbTrans gW g1
  clear X5 X10 gW g1
  simp only at c0 c1 c2 c3 c4 c5
  go_wp2_with fail
  refine (rcheck_is rt true hr _).mono ?_
  rintro e w' ⟨rfl, rfl⟩
  go_wp2_with fail
  refine (righted_is 4 true rfl _).mono ?_
  rintro e w' ⟨rfl, rfl⟩
  go_wp2_with fail
  refine (HM _).mono ?_
  rintro e w' ⟨rfl, rfl⟩
  go_wp2_with fail
  refine (badged_is 4 true rfl _).mono ?_
  rintro e w' ⟨rfl, rfl⟩
  go_wp2
  exact bodyPost_ret (v := .tuple #[cv C.zero, .int .i64 8]) (by simp [results, Tryz.results86, go_sem, a0, a1, a2, a3, a4, a5]) rfl ⟨rfl, by repeat (first | with_reducible exact G1 | refine gbSetNew ?_ _ _ _ (by omega))⟩

set_option maxHeartbeats 1000000 in
theorem rd_far4 (o r b g n rt bd gd bt r' : Int) (hr : M.ck rt = true) (hb : (bd != 0) = true) (hc : (b != 0) = false) (hd : ¬ bd < 268435456)
    (HM : ∀ w, Calls Tryz.prog 117 #[.int .i64 r, .int .i64 rt] w fun e w' => e = .returned (.int .i64 r') ∧ w' = w)
    (HC : ∀ w, Calls Tryz.prog 110 #[cv ⟨4, o, r, b, g, n⟩] w fun e w' => e = .returned (.int .i64 0) ∧ w.grownBy w' none) (w : World) :
    Calls Tryz.prog 86 #[cv ⟨4, o, r, b, g, n⟩, .int .i64 rt, .int .u64 bd, .int .u64 gd, .int .i64 bt] w fun e w' => e = .returned (.tuple #[cv C.zero, .int .i64 10]) ∧ w.grownBy w' none := by
  obtain ⟨X5, X10, gW⟩ := boxes2 w ⟨4, o, r, b, g, n⟩ C.zero _ rfl
  go_enter Tryz.func86, Tryz.ntmps86
  go_wp2_with fail
  refine (HC _).mono ?_
  rintro e w1 ⟨rfl, g1⟩
  obtain ⟨c0, c1, c2, c3, c4, c5, clt, cfr⟩ := X5.kept g1
  obtain ⟨a0, a1, a2, a3, a4, a5, lt, fr⟩ := X10.kept g1
  have G1 := gbTrans gW g1
  clear X5 X10 gW g1
  simp only at c0 c1 c2 c3 c4 c5
  go_wp2_with fail
  refine (rcheck_is rt true hr _).mono ?_
  rintro e w' ⟨rfl, rfl⟩
  go_wp2_with fail
  refine (righted_is 4 true rfl _).mono ?_
  rintro e w' ⟨rfl, rfl⟩
  go_wp2_with fail
  refine (HM _).mono ?_
  rintro e w' ⟨rfl, rfl⟩
  go_wp2_with fail
  refine (badged_is 4 true rfl _).mono ?_
  rintro e w' ⟨rfl, rfl⟩
  go_wp2
  exact bodyPost_ret (v := .tuple #[cv C.zero, .int .i64 10]) (by simp [results, Tryz.results86, go_sem, a0, a1, a2, a3, a4, a5]) rfl ⟨rfl, by repeat (first | with_reducible exact G1 | refine gbSetNew ?_ _ _ _ (by omega))⟩

set_option maxHeartbeats 1000000 in
theorem rd_new4 (o r b g n rt bd gd bt r' : Int) (hr : M.ck rt = true) (hb : (bd != 0) = true) (hc : (b != 0) = false) (hd : bd < 268435456)
    (HM : ∀ w, Calls Tryz.prog 117 #[.int .i64 r, .int .i64 rt] w fun e w' => e = .returned (.int .i64 r') ∧ w' = w)
    (HC : ∀ w, Calls Tryz.prog 110 #[cv ⟨4, o, r, b, g, n⟩] w fun e w' => e = .returned (.int .i64 0) ∧ w.grownBy w' none) (w : World) :
    Calls Tryz.prog 86 #[cv ⟨4, o, r, b, g, n⟩, .int .i64 rt, .int .u64 bd, .int .u64 gd, .int .i64 bt] w fun e w' => e = .returned (.tuple #[cv ⟨4, o, r', bd, g, n⟩, .int .i64 0]) ∧ w.grownBy w' none := by
  obtain ⟨X5, X10, gW⟩ := boxes2 w ⟨4, o, r, b, g, n⟩ C.zero _ rfl
  go_enter Tryz.func86, Tryz.ntmps86
  go_wp2_with fail
  refine (HC _).mono ?_
  rintro e w1 ⟨rfl, g1⟩
  obtain ⟨c0, c1, c2, c3, c4, c5, clt, cfr⟩ := X5.kept g1
  obtain ⟨a0, a1, a2, a3, a4, a5, lt, fr⟩ := X10.kept g1
  have G1 := gbTrans gW g1
  clear X5 X10 gW g1
  simp only at c0 c1 c2 c3 c4 c5
  go_wp2_with fail
  refine (rcheck_is rt true hr _).mono ?_
  rintro e w' ⟨rfl, rfl⟩
  go_wp2_with fail
  refine (righted_is 4 true rfl _).mono ?_
  rintro e w' ⟨rfl, rfl⟩
  go_wp2_with fail
  refine (HM _).mono ?_
  rintro e w' ⟨rfl, rfl⟩
  go_wp2_with fail
  refine (badged_is 4 true rfl _).mono ?_
  rintro e w' ⟨rfl, rfl⟩
  go_wp2
  exact bodyPost_ret (v := .tuple #[cv ⟨4, o, r', bd, g, n⟩, .int .i64 0]) (by simp [results, Tryz.results86, go_sem, a0, a1, a2, a3, a4, a5]) rfl ⟨rfl, by repeat (first | with_reducible exact G1 | refine gbSetNew ?_ _ _ _ (by omega))⟩

set_option maxHeartbeats 1000000 in
theorem rd_keep5 (o r b g n rt bd gd bt r' : Int) (hr : M.ck rt = true) (hb : (bd != 0) = false)
    (HM : ∀ w, Calls Tryz.prog 117 #[.int .i64 r, .int .i64 rt] w fun e w' => e = .returned (.int .i64 r') ∧ w' = w)
    (HC : ∀ w, Calls Tryz.prog 110 #[cv ⟨5, o, r, b, g, n⟩] w fun e w' => e = .returned (.int .i64 0) ∧ w.grownBy w' none) (w : World) :
    Calls Tryz.prog 86 #[cv ⟨5, o, r, b, g, n⟩, .int .i64 rt, .int .u64 bd, .int .u64 gd, .int .i64 bt] w fun e w' => e = .returned (.tuple #[cv ⟨5, o, r', b, g, n⟩, .int .i64 0]) ∧ w.grownBy w' none := by
  obtain ⟨X5, X10, gW⟩ := boxes2 w ⟨5, o, r, b, g, n⟩ C.zero _ rfl
  go_enter Tryz.func86, Tryz.ntmps86
  go_wp2_with fail
  refine (HC _).mono ?_
  rintro e w1 ⟨rfl, g1⟩
  obtain ⟨c0, c1, c2, c3, c4, c5, clt, cfr⟩ := X5.kept g1
  obtain ⟨a0, a1, a2, a3, a4, a5, lt, fr⟩ := X10.kept g1
  have G1 := gbTrans gW g1
  clear X5 X10 gW g1
  simp only at c0 c1 c2 c3 c4 c5
  go_wp2_with fail
  refine (rcheck_is rt true hr _).mono ?_
  rintro e w' ⟨rfl, rfl⟩
  go_wp2_with fail
  refine (righted_is 5 true rfl _).mono ?_
  rintro e w' ⟨rfl, rfl⟩
  go_wp2_with fail
  refine (HM _).mono ?_
  rintro e w' ⟨rfl, rfl⟩
  go_wp2_with fail
  refine (badged_is 5 true rfl _).mono ?_
  rintro e w' ⟨rfl, rfl⟩
  go_wp2
  exact bodyPost_ret (v := .tuple #[cv ⟨5, o, r', b, g, n⟩, .int .i64 0]) (by simp [results, Tryz.results86, go_sem, a0, a1, a2, a3, a4, a5]) rfl ⟨rfl, by repeat (first | with_reducible exact G1 | refine gbSetNew ?_ _ _ _ (by omega))⟩

set_option maxHeartbeats 1000000 in
theorem rd_state5 (o r b g n rt bd gd bt r' : Int) (hr : M.ck rt = true) (hb : (bd != 0) = true) (hc : (b != 0) = true)
    (HM : ∀ w, Calls Tryz.prog 117 #[.int .i64 r, .int .i64 rt] w fun e w' => e = .returned (.int .i64 r') ∧ w' = w)
    (HC : ∀ w, Calls Tryz.prog 110 #[cv ⟨5, o, r, b, g, n⟩] w fun e w' => e = .returned (.int .i64 0) ∧ w.grownBy w' none) (w : World) :
    Calls Tryz.prog 86 #[cv ⟨5, o, r, b, g, n⟩, .int .i64 rt, .int .u64 bd, .int .u64 gd, .int .i64 bt] w fun e w' => e = .returned (.tuple #[cv C.zero, .int .i64 8]) ∧ w.grownBy w' none := by
  obtain ⟨X5, X10, gW⟩ := boxes2 w ⟨5, o, r, b, g, n⟩ C.zero _ rfl
  go_enter Tryz.func86, Tryz.ntmps86
  go_wp2_with fail
  refine (HC _).mono ?_
  rintro e w1 ⟨rfl, g1⟩
  obtain ⟨c0, c1, c2, c3, c4, c5, clt, cfr⟩ := X5.kept g1
  obtain ⟨a0, a1, a2, a3, a4, a5, lt, fr⟩ := X10.kept g1
  have G1 := gbTrans gW g1
  clear X5 X10 gW g1
  simp only at c0 c1 c2 c3 c4 c5
  go_wp2_with fail
  refine (rcheck_is rt true hr _).mono ?_
  rintro e w' ⟨rfl, rfl⟩
  go_wp2_with fail
  refine (righted_is 5 true rfl _).mono ?_
  rintro e w' ⟨rfl, rfl⟩
  go_wp2_with fail
  refine (HM _).mono ?_
  rintro e w' ⟨rfl, rfl⟩
  go_wp2_with fail
  refine (badged_is 5 true rfl _).mono ?_
  rintro e w' ⟨rfl, rfl⟩
  go_wp2
  exact bodyPost_ret (v := .tuple #[cv C.zero, .int .i64 8]) (by simp [results, Tryz.results86, go_sem, a0, a1, a2, a3, a4, a5]) rfl ⟨rfl, by repeat (first | with_reducible exact G1 | refine gbSetNew ?_ _ _ _ (by omega))⟩

set_option maxHeartbeats 1000000 in
theorem rd_far5 (o r b g n rt bd gd bt r' : Int) (hr : M.ck rt = true) (hb : (bd != 0) = true) (hc : (b != 0) = false) (hd : ¬ bd < 268435456)
    (HM : ∀ w, Calls Tryz.prog 117 #[.int .i64 r, .int .i64 rt] w fun e w' => e = .returned (.int .i64 r') ∧ w' = w)
    (HC : ∀ w, Calls Tryz.prog 110 #[cv ⟨5, o, r, b, g, n⟩] w fun e w' => e = .returned (.int .i64 0) ∧ w.grownBy w' none) (w : World) :
    Calls Tryz.prog 86 #[cv ⟨5, o, r, b, g, n⟩, .int .i64 rt, .int .u64 bd, .int .u64 gd, .int .i64 bt] w fun e w' => e = .returned (.tuple #[cv C.zero, .int .i64 10]) ∧ w.grownBy w' none := by
  obtain ⟨X5, X10, gW⟩ := boxes2 w ⟨5, o, r, b, g, n⟩ C.zero _ rfl
  go_enter Tryz.func86, Tryz.ntmps86
  go_wp2_with fail
  refine (HC _).mono ?_
  rintro e w1 ⟨rfl, g1⟩
  obtain ⟨c0, c1, c2, c3, c4, c5, clt, cfr⟩ := X5.kept g1
  obtain ⟨a0, a1, a2, a3, a4, a5, lt, fr⟩ := X10.kept g1
  have G1 := gbTrans gW g1
  clear X5 X10 gW g1
  simp only at c0 c1 c2 c3 c4 c5
  go_wp2_with fail
  refine (rcheck_is rt true hr _).mono ?_
  rintro e w' ⟨rfl, rfl⟩
  go_wp2_with fail
  refine (righted_is 5 true rfl _).mono ?_
  rintro e w' ⟨rfl, rfl⟩
  go_wp2_with fail
  refine (HM _).mono ?_
  rintro e w' ⟨rfl, rfl⟩
  go_wp2_with fail
  refine (badged_is 5 true rfl _).mono ?_
  rintro e w' ⟨rfl, rfl⟩
  go_wp2
  exact bodyPost_ret (v := .tuple #[cv C.zero, .int .i64 10]) (by simp [results, Tryz.results86, go_sem, a0, a1, a2, a3, a4, a5]) rfl ⟨rfl, by repeat (first | with_reducible exact G1 | refine gbSetNew ?_ _ _ _ (by omega))⟩

set_option maxHeartbeats 1000000 in
theorem rd_new5 (o r b g n rt bd gd bt r' : Int) (hr : M.ck rt = true) (hb : (bd != 0) = true) (hc : (b != 0) = false) (hd : bd < 268435456)
    (HM : ∀ w, Calls Tryz.prog 117 #[.int .i64 r, .int .i64 rt] w fun e w' => e = .returned (.int .i64 r') ∧ w' = w)
    (HC : ∀ w, Calls Tryz.prog 110 #[cv ⟨5, o, r, b, g, n⟩] w fun e w' => e = .returned (.int .i64 0) ∧ w.grownBy w' none) (w : World) :
    Calls Tryz.prog 86 #[cv ⟨5, o, r, b, g, n⟩, .int .i64 rt, .int .u64 bd, .int .u64 gd, .int .i64 bt] w fun e w' => e = .returned (.tuple #[cv ⟨5, o, r', bd, g, n⟩, .int .i64 0]) ∧ w.grownBy w' none := by
  obtain ⟨X5, X10, gW⟩ := boxes2 w ⟨5, o, r, b, g, n⟩ C.zero _ rfl
  go_enter Tryz.func86, Tryz.ntmps86
  go_wp2_with fail
  refine (HC _).mono ?_
  rintro e w1 ⟨rfl, g1⟩
  obtain ⟨c0, c1, c2, c3, c4, c5, clt, cfr⟩ := X5.kept g1
  obtain ⟨a0, a1, a2, a3, a4, a5, lt, fr⟩ := X10.kept g1
  have G1 := gbTrans gW g1
  clear X5 X10 gW g1
  simp only at c0 c1 c2 c3 c4 c5
  go_wp2_with fail
  refine (rcheck_is rt true hr _).mono ?_
  rintro e w' ⟨rfl, rfl⟩
  go_wp2_with fail
  refine (righted_is 5 true rfl _).mono ?_
  rintro e w' ⟨rfl, rfl⟩
  go_wp2_with fail
  refine (HM _).mono ?_
  rintro e w' ⟨rfl, rfl⟩
  go_wp2_with fail
  refine (badged_is 5 true rfl _).mono ?_
  rintro e w' ⟨rfl, rfl⟩
  go_wp2
  exact bodyPost_ret (v := .tuple #[cv ⟨5, o, r', bd, g, n⟩, .int .i64 0]) (by simp [results, Tryz.results86, go_sem, a0, a1, a2, a3, a4, a5]) rfl ⟨rfl, by repeat (first | with_reducible exact G1 | refine gbSetNew ?_ _ _ _ (by omega))⟩

/-! ### Weaker -/
end Go.Proofs.YtdnoidnpiaadaaaGreat
