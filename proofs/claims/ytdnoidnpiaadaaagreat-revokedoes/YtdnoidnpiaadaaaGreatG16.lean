/-
  NODES AND TREE TOGETHER: the two parts of a Caps in memory, all of whose blocks are new, with the calls of either part on them. Speaks of no function of package moves.
-/
import Derived.Test.YtdnoidnpiaadaaaGreatFull
import Derived.Test.YtdnoidnpiaadaaaGreatG5
import Derived.Test.YtdnoidnpiaadaaaGreatTWrk
namespace Go.Proofs.YtdnoidnpiaadaaaGreat
set_option maxRecDepth 10000
open Go.RowKit
set_option linter.unusedVariables false

abbrev wide (O : Nat → Prop) (w w' : World) : Nat → Prop := T9.wide O w w'
/-- Both parts; their blocks (and the Caps' own one) are among O, which were not there for w0; nothing else has turned since. -/
structure Cs (w0 w : World) (O : Nat → Prop) (p s t m : Nat) (S : St) (f : T9.Fo) : Prop where
  ex : ∃ OS OT, SAt w s m OS S ∧ T9.TAt w t OT f ∧ (∀ i, OS i → ¬ OT i) ∧ (∀ i, OS i → O i ∧ i ≠ p) ∧ ∀ i, OT i → O i ∧ i ≠ p
  box : w.heap[p]? = some (.cells #[.pointer (some ⟨s, 0, none⟩), .pointer (some ⟨t, 0, none⟩)] 40)
  op : O p
  lo : ∀ i, O i → w0.heap.size ≤ i ∧ i < w.heap.size
  gr : w0.grownBy w none
  gs : Good S
  gt : T9.Good f

namespace Cs
theorem c0 {w0 w : World} {O : Nat → Prop} {p s t m : Nat} {S : St} {f : T9.Fo} (h : Cs w0 w O p s t m S f) : w.cell? ⟨p, 0, none⟩ = some (.pointer (some ⟨s, 0, none⟩)) := by simp [World.cell?, h.box]
theorem c1 {w0 w : World} {O : Nat → Prop} {p s t m : Nat} {S : St} {f : T9.Fo} (h : Cs w0 w O p s t m S f) : w.cell? ⟨p, 1, none⟩ = some (.pointer (some ⟨t, 0, none⟩)) := by simp [World.cell?, h.box]
theorem plt {w0 w : World} {O : Nat → Prop} {p s t m : Nat} {S : St} {f : T9.Fo} (h : Cs w0 w O p s t m S f) : p < w.heap.size := (h.lo p h.op).2
theorem kept {w0 w w' : World} {O : Nat → Prop} {p s t m : Nat} {S : St} {f : T9.Fo} (h : Cs w0 w O p s t m S f) (g : w.grownBy w' none) : Cs w0 w' O p s t m S f := by
  obtain ⟨OS, OT, h1, h2, h3, h4, h5⟩ := h.ex
  exact ⟨⟨OS, OT, h1.kept g, h2.kept g, h3, h4, h5⟩, (g.block p h.plt (by simp)).trans h.box, h.op, fun i hi => ⟨(h.lo i hi).1, Nat.lt_of_lt_of_le (h.lo i hi).2 g.size⟩, gbTrans h.gr g, h.gs, h.gt⟩
theorem mono {w0 w : World} {O O' : Nat → Prop} {p s t m : Nat} {S : St} {f : T9.Fo} (h : Cs w0 w O p s t m S f) (ho : ∀ i, O i → O' i) (hl : ∀ i, O' i → w0.heap.size ≤ i ∧ i < w.heap.size) : Cs w0 w O' p s t m S f := by
  obtain ⟨OS, OT, h1, h2, h3, h4, h5⟩ := h.ex
  exact ⟨⟨OS, OT, h1, h2, h3, fun i hi => ⟨ho i (h4 i hi).1, (h4 i hi).2⟩, fun i hi => ⟨ho i (h5 i hi).1, (h5 i hi).2⟩⟩, h.box, ho p h.op, hl, h.gr, h.gs, h.gt⟩
theorem more {w0 w : World} {O : Nat → Prop} {p s t m n : Nat} {S : St} {f : T9.Fo} (h : Cs w0 w O p s t m S f) (hn : m ≤ n) : Cs w0 w O p s t n S f := by
  obtain ⟨OS, OT, h1, h2, h3, h4, h5⟩ := h.ex
  exact ⟨⟨OS, OT, h1.mono (fun _ h => h) hn, h2, h3, h4, h5⟩, h.box, h.op, h.lo, h.gr, h.gs, h.gt⟩
/-- Some other new block is written. -/
theorem keep {w0 w w' : World} {O : Nat → Prop} {p s t m : Nat} {S : St} {f : T9.Fo} {x : Nat} (h : Cs w0 w O p s t m S f) (g : w.grownBy w' (some x)) (hx : ¬ O x) (hl : w0.heap.size ≤ x) : Cs w0 w' O p s t m S f := by
  obtain ⟨OS, OT, h1, h2, h3, h4, h5⟩ := h.ex
  have F : Fr (fun i => i = x) w w' := Fr.at g rfl
  exact ⟨⟨OS, OT, h1.fr F (fun i hi e => hx (e ▸ (h4 i hi).1)), h2.fr F (fun i hi e => hx (e ▸ (h5 i hi).1)), h3, h4, h5⟩, (F.block p h.plt (fun e => hx (e ▸ h.op))).trans h.box, h.op, fun i hi => ⟨(h.lo i hi).1, Nat.lt_of_lt_of_le (h.lo i hi).2 g.size⟩, gbNew (gbTrans (gbAny h.gr _) g) hl, h.gs, h.gt⟩
theorem gro {w0 w w' : World} {O : Nat → Prop} {p s t m : Nat} {S : St} {f : T9.Fo} (h : Cs w0 w O p s t m S f) (F : Fr O w w') : w0.grownBy w' none := by
  have := h.gr.size
  exact ((Fr.grown (O := O) h.gr).trans F).new (fun i hi e => absurd (h.lo i e).1 (by omega))
/-- The store has turned. -/
theorem store {w0 w w' : World} {O OS OS' OT : Nat → Prop} {p s t m m' : Nat} {S S' : St} {f : T9.Fo} (h : Cs w0 w O p s t m S f) (h2 : T9.TAt w t OT f) (h3 : ∀ i, OS i → ¬ OT i) (h4 : ∀ i, OS i → O i ∧ i ≠ p) (h5 : ∀ i, OT i → O i ∧ i ≠ p)
    (A : SAt w' s m' OS' S') (hO : ∀ i, OS' i → OS i ∨ (w.heap.size ≤ i ∧ i < w'.heap.size)) (F : Fr OS w w') (G : Good S') : Cs w0 w' (wide O w w') p s t m' S' f ∧ Fr O w w' := by
  have F' : Fr O w w' := F.mono (fun i _ hi => (h4 i hi).1)
  have hs := F.size
  have h0 := h.gr.size
  refine ⟨⟨⟨OS', OT, A, h2.fr F (fun i hi e => h3 i e hi), fun i hi e => ?_, fun i hi => ?_, fun i hi => ⟨.inl (h5 i hi).1, (h5 i hi).2⟩⟩, (F.block p h.plt (fun e => (h4 p e).2 rfl)).trans h.box, .inl h.op, fun i hi => ?_, h.gro F', G, h.gt⟩, F'⟩
  · rcases hO i hi with k | k
    · exact h3 i k e
    · have := (h.lo i (h5 i e).1).2; omega
  · rcases hO i hi with k | k
    · exact ⟨.inl (h4 i k).1, (h4 i k).2⟩
    · have := h.plt; exact ⟨.inr k, by omega⟩
  · rcases hi with k | k
    · have := h.lo i k; omega
    · omega
/-- The tree has turned. -/
theorem tree {w0 w w' : World} {O OS OT : Nat → Prop} {p s t m : Nat} {S : St} {f f' : T9.Fo} (h : Cs w0 w O p s t m S f) (h1 : SAt w s m OS S) (h3 : ∀ i, OS i → ¬ OT i) (h4 : ∀ i, OS i → O i ∧ i ≠ p) (h5 : ∀ i, OT i → O i ∧ i ≠ p)
    (A : T9.TAt w' t (T9.wide OT w w') f') (F : Fr OT w w') (G : T9.Good f') : Cs w0 w' (wide O w w') p s t m S f' ∧ Fr O w w' := by
  have F' : Fr O w w' := F.mono (fun i _ hi => (h5 i hi).1)
  have hs := F.size
  have h0 := h.gr.size
  refine ⟨⟨⟨OS, T9.wide OT w w', h1.fr F h3, A, fun i hi e => ?_, fun i hi => ⟨.inl (h4 i hi).1, (h4 i hi).2⟩, fun i hi => ?_⟩, (F.block p h.plt (fun e => (h5 p e).2 rfl)).trans h.box, .inl h.op, fun i hi => ?_, h.gro F', h.gs, G⟩, F'⟩
  · rcases e with k | k
    · exact h3 i hi k
    · have := (h.lo i (h4 i hi).1).2; omega
  · rcases hi with k | k
    · exact ⟨.inl (h5 i k).1, (h5 i k).2⟩
    · have := h.plt; exact ⟨.inr k, by omega⟩
  · rcases hi with k | k
    · have := h.lo i k; omega
    · omega

/-! ### The calls of either part -/
theorem get {w0 w : World} {O : Nat → Prop} {p s t m : Nat} {S : St} {f : T9.Fo} (h : Cs w0 w O p s t m S f) (n i k o r b g u e : Int) (hn : I64 n) (hc : M.getC S n i = ⟨k, o, r, b, g, u⟩) (he : M.getE S n i = e) :
    Calls Tryz.prog 51 #[.pointer (some ⟨s, 0, none⟩), sv n i] w fun x w' => x = .returned (.tuple #[cv ⟨k, o, r, b, g, u⟩, .int .i64 e]) ∧ w.grownBy w' none := by
  obtain ⟨OS, OT, h1, _⟩ := h.ex
  exact get_is h1 h.gs n i k o r b g u e hn hc he
theorem put {w0 w : World} {O : Nat → Prop} {p s t m : Nat} {S : St} {f : T9.Fo} (h : Cs w0 w O p s t m S f) (n i k o r b g u e : Int) (hn : I64 n) (hb : 0 ≤ b) (hg : 0 ≤ g) (he : M.putE S n i ⟨k, o, r, b, g, u⟩ = e) :
    Calls Tryz.prog 76 #[.pointer (some ⟨s, 0, none⟩), sv n i, cv ⟨k, o, r, b, g, u⟩] w fun x w' => x = .returned (.int .i64 e) ∧ Cs w0 w' (wide O w w') p s t m (M.putS S n i ⟨k, o, r, b, g, u⟩) f ∧ Fr O w w' := by
  obtain ⟨OS, OT, h1, h2, h3, h4, h5⟩ := h.ex
  refine (put_is h1 h.gs n i k o r b g u e hn hb hg he).mono ?_
  rintro _ w' ⟨rfl, A, F⟩
  exact ⟨rfl, h.store h2 h3 h4 h5 A (fun i hi => .inl hi) F (h.gs.put n i _)⟩
theorem take {w0 w : World} {O : Nat → Prop} {p s t m : Nat} {S : St} {f : T9.Fo} (h : Cs w0 w O p s t m S f) (n i k o r b g u e : Int) (hn : I64 n) (hc : M.takeC S n i = ⟨k, o, r, b, g, u⟩) (he : M.takeE S n i = e) :
    Calls Tryz.prog 95 #[.pointer (some ⟨s, 0, none⟩), sv n i] w fun x w' => x = .returned (.tuple #[cv ⟨k, o, r, b, g, u⟩, .int .i64 e]) ∧ Cs w0 w' (wide O w w') p s t m (M.takeS S n i) f ∧ Fr O w w' := by
  obtain ⟨OS, OT, h1, h2, h3, h4, h5⟩ := h.ex
  refine (take_is h1 h.gs n i k o r b g u e hn hc he).mono ?_
  rintro _ w' ⟨rfl, A, F⟩
  exact ⟨rfl, h.store h2 h3 h4 h5 A (fun i hi => .inl hi) F (h.gs.take n i)⟩
theorem add {w0 w : World} {O : Nat → Prop} {p s t m : Nat} {S : St} {f : T9.Fo} (h : Cs w0 w O p s t m S f) (id r e : Int) (hid : I64 id) (hm : m ≤ 1000) (he : M.addE S id r = e) :
    Calls Tryz.prog 74 #[.pointer (some ⟨s, 0, none⟩), .int .i64 id, .int .i64 r] w fun x w' => x = .returned (.int .i64 e) ∧ Cs w0 w' (wide O w w') p s t (m + 1) (M.addS S id r) f ∧ Fr O w w' := by
  obtain ⟨OS, OT, h1, h2, h3, h4, h5⟩ := h.ex
  refine (add_is h1 h.gs id r e hid hm he).mono ?_
  rintro _ w' ⟨rfl, A, F⟩
  exact ⟨rfl, h.store h2 h3 h4 h5 A (fun i hi => by rcases hi with k | ⟨rfl, k⟩; exact .inl k; exact .inr ⟨Nat.le_refl _, k⟩) F (h.gs.add id r)⟩
theorem wipe {w0 w : World} {O : Nat → Prop} {p s t m : Nat} {S : St} {f : T9.Fo} (h : Cs w0 w O p s t m S f) (id e : Int) (hid : I64 id) (he : M.dropE S id = e) :
    Calls Tryz.prog 75 #[.pointer (some ⟨s, 0, none⟩), .int .i64 id] w fun x w' => x = .returned (.int .i64 e) ∧ Cs w0 w' (wide O w w') p s t m (M.dropS S id) f ∧ Fr O w w' := by
  obtain ⟨OS, OT, h1, h2, h3, h4, h5⟩ := h.ex
  refine (drop_is h1 h.gs id e hid he).mono ?_
  rintro _ w' ⟨rfl, A, F⟩
  exact ⟨rfl, h.store h2 h3 h4 h5 A (fun i hi => .inl hi) F (h.gs.drop id)⟩
theorem full {w0 w : World} {O : Nat → Prop} {p s t m : Nat} {S : St} {f : T9.Fo} (h : Cs w0 w O p s t m S f) :
    Calls Tryz.prog 50 #[.pointer (some ⟨s, 0, none⟩)] w fun e w' => ∃ v, e = .returned v ∧ Lst w' w.heap.size v (M.full S) ∧ w.grownBy w' none := by
  obtain ⟨OS, OT, h1, _⟩ := h.ex
  exact full_is h1
theorem root {w0 w : World} {O : Nat → Prop} {p s t m : Nat} {S : St} {f : T9.Fo} (h : Cs w0 w O p s t m S f) (n i e : Int) (hn : I64 n) (hi : I64 i) (hm : f.len ≤ 1000) (he : f.rootE (n, i) = e) :
    Calls Tryz.prog 77 #[.pointer (some ⟨t, 0, none⟩), sv n i] w fun x w' => x = .returned (.int .i64 e) ∧ Cs w0 w' (wide O w w') p s t m S (f.rootF (n, i)) ∧ Fr O w w' := by
  obtain ⟨OS, OT, h1, h2, h3, h4, h5⟩ := h.ex
  refine (T9.root_is h2 n i e hn hi hm he).mono ?_
  rintro _ w' ⟨rfl, A, F⟩
  exact ⟨rfl, h.tree h1 h3 h4 h5 A F (h.gt.root hn hi)⟩
theorem child {w0 w : World} {O : Nat → Prop} {p s t m : Nat} {S : St} {f : T9.Fo} (h : Cs w0 w O p s t m S f) (n i a c e : Int) (hn : I64 n) (hi : I64 i) (ha : I64 a) (hc : I64 c) (hm : f.len ≤ 1000) (he : f.childE (n, i) (a, c) = e) :
    Calls Tryz.prog 81 #[.pointer (some ⟨t, 0, none⟩), sv n i, sv a c] w fun x w' => x = .returned (.int .i64 e) ∧ Cs w0 w' (wide O w w') p s t m S (f.childF (n, i) (a, c)) ∧ Fr O w w' := by
  obtain ⟨OS, OT, h1, h2, h3, h4, h5⟩ := h.ex
  refine (T9.child_is h2 h.gt n i a c e hn hi ha hc hm he).mono ?_
  rintro _ w' ⟨rfl, A, F⟩
  exact ⟨rfl, h.tree h1 h3 h4 h5 A F (h.gt.child ha hc)⟩
theorem drop {w0 w : World} {O : Nat → Prop} {p s t m : Nat} {S : St} {f : T9.Fo} (h : Cs w0 w O p s t m S f) (n i e : Int) (hn : I64 n) (hi : I64 i) (hm : f.len ≤ 1000) (he : f.dropE (n, i) = e) :
    Calls Tryz.prog 96 #[.pointer (some ⟨t, 0, none⟩), sv n i] w fun x w' => x = .returned (.int .i64 e) ∧ Cs w0 w' (wide O w w') p s t m S (f.dropF (n, i)) ∧ Fr O w w' := by
  obtain ⟨OS, OT, h1, h2, h3, h4, h5⟩ := h.ex
  refine (T9.drop_is h2 h.gt n i e hn hi hm he).mono ?_
  rintro _ w' ⟨rfl, A, F⟩
  exact ⟨rfl, h.tree h1 h3 h4 h5 A F (h.gt.drop _)⟩
theorem move {w0 w : World} {O : Nat → Prop} {p s t m : Nat} {S : St} {f : T9.Fo} (h : Cs w0 w O p s t m S f) (n i a c e : Int) (hn : I64 n) (hi : I64 i) (ha : I64 a) (hc : I64 c) (hm : f.len ≤ 1000) (he : f.moveE (n, i) (a, c) = e) :
    Calls Tryz.prog 120 #[.pointer (some ⟨t, 0, none⟩), sv n i, sv a c] w fun x w' => x = .returned (.int .i64 e) ∧ Cs w0 w' (wide O w w') p s t m S (f.moveF (n, i) (a, c)) ∧ Fr O w w' := by
  obtain ⟨OS, OT, h1, h2, h3, h4, h5⟩ := h.ex
  refine (T9.move_is h2 h.gt n i a c e hn hi ha hc hm he).mono ?_
  rintro _ w' ⟨rfl, A, F⟩
  exact ⟨rfl, h.tree h1 h3 h4 h5 A F (h.gt.move _ ha hc)⟩
theorem kin {w0 w : World} {O : Nat → Prop} {p s t m : Nat} {S : St} {f : T9.Fo} (h : Cs w0 w O p s t m S f) (n i : Int) (hn : I64 n) (hi : I64 i) (hm : f.len ≤ 1000) :
    Calls Tryz.prog 14 #[.pointer (some ⟨t, 0, none⟩), sv n i] w fun e w' => ∃ v', e = .returned v' ∧ Lst w' w.heap.size v' (f.kin (n, i)) ∧ w.grownBy w' none := by
  obtain ⟨OS, OT, h1, h2, h3, h4, h5⟩ := h.ex
  exact T9.kin_is h2 h.gt n i hn hi hm _ rfl
end Cs
end Go.Proofs.YtdnoidnpiaadaaaGreat

/-
  WHAT IS DONE WITH SLOTS, PLAINLY: sources and places, what each call of the chapter answers, what it makes of the store and of the tree, and what holds behind it. Speaks of no function of the program.
-/
namespace Go.Proofs.YtdnoidnpiaadaaaGreat
set_option maxRecDepth 10000
set_option linter.unusedVariables false

namespace M
theorem there_upd (S : St) (n i : Int) (c : C) (a b : Int) : there (upd S n i c) a b = there S a b := by
  unfold there upd
  by_cases e : a = n
  · subst e
    rw [if_pos rfl]
    cases S a <;> rfl
  · rw [if_neg e]
theorem getC_upd {S : St} {n i : Int} (c : C) (ht : there S n i = true) (a b : Int) : getC (upd S n i c) a b = if a = n ∧ b = i then c else getC S a b := by
  obtain ⟨d, j, hs, rfl, hj⟩ := there_yes ht
  cases h2 : there S a b
  · rw [getC_no h2, getC_no (by rw [there_upd]; exact h2)]
    rw [if_neg (by rintro ⟨rfl, rfl⟩; rw [ht] at h2; cases h2)]
  · obtain ⟨d2, j2, hs2, rfl, hj2⟩ := there_yes h2
    rw [getC_at hs2 hj2]
    by_cases e : a = n
    · subst e
      rw [hs] at hs2; cases hs2
      have hu : upd S a j c a = some (d.set j c) := by unfold upd; rw [if_pos rfl, hs]; simp
      rw [getC_at hu (by exact hj2), Nd.set_at]
      by_cases e2 : j2 = j
      · subst e2; simp
      · rw [if_neg e2, if_neg (by omega)]
    · have hu : upd S n j c a = some d2 := by unfold upd; rw [if_neg e]; exact hs2
      rw [getC_at hu hj2, if_neg (by rintro ⟨h, _⟩; exact e h)]

/-! ### By slots -/
def gc (S : St) (x : Int × Int) : C := getC S x.1 x.2
def th (S : St) (x : Int × Int) : Bool := there S x.1 x.2
def up (S : St) (x : Int × Int) (c : C) : St := upd S x.1 x.2 c
theorem th_up (S : St) (x : Int × Int) (c : C) (y : Int × Int) : th (up S x c) y = th S y := there_upd S _ _ c _ _
theorem gc_up {S : St} {x : Int × Int} (c : C) (h : th S x = true) (y : Int × Int) : gc (up S x c) y = if y = x then c else gc S y := by
  unfold gc up
  rw [getC_upd c h]
  by_cases e : y = x
  · rw [if_pos e, if_pos ⟨by rw [e], by rw [e]⟩]
  · rw [if_neg e, if_neg (fun k => e (Prod.ext k.1 k.2))]
theorem gc_no {S : St} {x : Int × Int} (h : th S x = false) : gc S x = C.zero := getC_no h
theorem gc_th {S : St} {x : Int × Int} (h : (gc S x).k ≠ 0) : th S x = true := by
  cases e : th S x
  · rw [gc_no e] at h; exact absurd rfl h
  · rfl
theorem gc_chk {S : St} (G : Good S) (x : Int × Int) : chk (gc S x) = 0 := by
  cases e : th S x
  · rw [gc_no e]; exact chk_zero
  · obtain ⟨d, j, hs, hi, hj⟩ := there_yes e
    unfold gc
    rw [hi, getC_at hs hj]
    exact G.chk _ _ _ hs
theorem gc_nul {S : St} (G : Good S) {x : Int × Int} (h : (gc S x).k = 0) : gc S x = C.zero := by
  cases e : th S x
  · exact gc_no e
  · obtain ⟨d, j, hs, hi, hj⟩ := there_yes e
    unfold gc at h ⊢
    rw [hi, getC_at hs hj] at h ⊢
    exact G.nul _ _ _ hs h
theorem th_range {S : St} (G : Good S) {x : Int × Int} (h : th S x = true) : 0 ≤ x.1 ∧ x.1 ≤ 63 ∧ 0 ≤ x.2 ∧ x.2 < 16 := by
  obtain ⟨d, j, hs, hi, hj⟩ := there_yes h
  have h1 := G.lo _ _ hs
  have h2 := G.rad _ _ hs
  have : 2 ^ d.r ≤ 2 ^ 4 := Nat.pow_le_pow_right (by omega) h2.2
  rw [hi]
  omega
theorem th_i64 {S : St} (G : Good S) {x : Int × Int} (h : th S x = true) : I64 x.1 ∧ I64 x.2 := by
  have := th_range G h
  exact ⟨i64_of (by omega) (by omega), i64_of (by omega) (by omega)⟩
theorem up_swap (S : St) (x y : Int × Int) (a b : C) (hne : x ≠ y) (hx : 0 ≤ x.2) (hy : 0 ≤ y.2) : up (up S x a) y b = up (up S y b) x a := by
  funext id
  unfold up upd
  by_cases h1 : x.1 = y.1
  · have h2 : x.2.toNat ≠ y.2.toNat := fun e => hne (Prod.ext h1 (by omega))
    by_cases e : id = y.1
    · simp only [h1, if_pos e, if_true]
      cases S y.1 with
      | none => rfl
      | some d =>
        simp only [Option.map_some, Option.some.injEq]
        unfold Nd.set
        simp only [Nd.mk.injEq, true_and]
        funext j
        by_cases k1 : j = y.2.toNat
        · simp only [if_pos k1]; rw [if_neg (by omega)]
        · simp only [if_neg k1]
    · simp only [h1, if_neg e]
  · have h1' : ¬ y.1 = x.1 := fun e => h1 e.symm
    by_cases e : id = y.1
    · subst e
      simp only [if_true, if_neg h1', if_neg h1]
    · by_cases e2 : id = x.1
      · subst e2
        simp only [if_true, if_neg h1, if_neg h1']
      · simp only [if_neg e, if_neg e2, if_neg h1, if_neg h1']

/-! ### Sources, places -/
def srcE (S : St) (x : Int × Int) : Int := takeE S x.1 x.2
def srcC (S : St) (x : Int × Int) : C := takeC S x.1 x.2
def plcE (S : St) (x : Int × Int) : Int := if th S x then (if (gc S x).k = 0 then 0 else 4) else 6
def endE (S : St) (a b : Int × Int) : Int := if srcE S a = 0 then plcE S b else srcE S a
def endC (S : St) (a b : Int × Int) : C := if endE S a b = 0 then gc S a else C.zero
theorem srcE_ok {S : St} {x : Int × Int} (h : srcE S x = 0) : th S x = true ∧ (gc S x).k ≠ 0 := takeE_ok h
theorem srcE_yes {S : St} {x : Int × Int} (h : (gc S x).k ≠ 0) : srcE S x = 0 := by
  have h1 := gc_th h
  unfold th at h1
  unfold gc at h
  unfold srcE takeE
  rw [if_pos h1, if_neg h]
theorem srcC_ok {S : St} {x : Int × Int} (h : srcE S x = 0) : srcC S x = gc S x := by
  unfold srcC takeC; unfold srcE at h; rw [if_pos h]; rfl
theorem srcC_no {S : St} {x : Int × Int} (h : srcE S x ≠ 0) : srcC S x = C.zero := by
  unfold srcC takeC; unfold srcE at h; rw [if_neg h]
theorem plcE_ok {S : St} {x : Int × Int} (h : plcE S x = 0) : th S x = true ∧ (gc S x).k = 0 := by
  unfold plcE at h
  split at h
  · rename_i h1
    split at h
    · rename_i h2; exact ⟨h1, h2⟩
    · cases h
  · cases h
theorem plcE_yes {S : St} {x : Int × Int} (h1 : th S x = true) (h2 : (gc S x).k = 0) : plcE S x = 0 := by
  unfold plcE; rw [if_pos h1, if_pos h2]
theorem endE_ok {S : St} {a b : Int × Int} (h : endE S a b = 0) : srcE S a = 0 ∧ plcE S b = 0 := by
  unfold endE at h
  split at h
  · rename_i h1; exact ⟨h1, h⟩
  · rename_i h1; exact absurd h h1
theorem takeS_up {S : St} {x : Int × Int} (h : srcE S x = 0) : takeS S x.1 x.2 = up S x C.zero := by
  unfold takeS; unfold srcE at h; rw [if_pos h]; rfl
theorem putS_up {S : St} {x : Int × Int} {c : C} (h : putE S x.1 x.2 c = 0) : putS S x.1 x.2 c = up S x c := by
  unfold putS; rw [if_pos h]; rfl
theorem putE_yes {S : St} {x : Int × Int} {c : C} (h1 : th S x = true) (h2 : chk c = 0) (h3 : c.k ≠ 0) (h4 : (gc S x).k = 0) : putE S x.1 x.2 c = 0 := by
  unfold th at h1
  unfold gc at h4
  unfold putE
  rw [if_pos h1, if_pos h2, if_neg h3, if_pos h4]

/-! ### What holds -/
/-- The slots in the tree are just those that are not empty; badges and guards are not below nought. -/
structure Inv (S : St) (f : T9.Fo) : Prop where
  inv : ∀ x, x ∈ f.pre ↔ (gc S x).k ≠ 0
  nn : ∀ x, 0 ≤ (gc S x).b ∧ 0 ≤ (gc S x).g
theorem Inv.none : Inv (fun _ => none) .nil := ⟨fun x => by simp [T9.Fo.pre, gc, getC, C.zero], fun x => by simp [gc, getC, C.zero]⟩
theorem Inv.has {S : St} {f : T9.Fo} (I : Inv S f) {x : Int × Int} (h : (gc S x).k ≠ 0) : f.has x = true := T9.Fo.has_iff.2 ((I.inv x).2 h)
theorem Inv.hasnt {S : St} {f : T9.Fo} (I : Inv S f) {x : Int × Int} (h : (gc S x).k = 0) : f.has x = false := T9.Fo.has_not.2 (fun k => (I.inv x).1 k h)

/-! ### The acts -/
def plaE (S : St) (a : Int × Int) (c : C) : Int := putE S a.1 a.2 c
def plaS (S : St) (a : Int × Int) (c : C) : St := putS S a.1 a.2 c
def plaF (S : St) (f : T9.Fo) (a : Int × Int) (c : C) : T9.Fo := if plaE S a c = 0 then f.rootF a else f
def chiE (S : St) (o a : Int × Int) (c : C) : Int := if endE S o a = 0 then putE S a.1 a.2 c else endE S o a
def chiS (S : St) (o a : Int × Int) (c : C) : St := if chiE S o a c = 0 then up S a c else S
def chiF (S : St) (f : T9.Fo) (o a : Int × Int) (c : C) : T9.Fo := if chiE S o a c = 0 then f.childF o a else f
def minE (S : St) (a b : Int × Int) (rt bd gd bt : Int) : Int := if endE S a b = 0 then (drv (gc S a) rt bd gd bt).2 else endE S a b
def minS (S : St) (a b : Int × Int) (rt bd gd bt : Int) : St := if minE S a b rt bd gd bt = 0 then up S b (drv (gc S a) rt bd gd bt).1 else S
def minF (S : St) (f : T9.Fo) (a b : Int × Int) (rt bd gd bt : Int) : T9.Fo := if minE S a b rt bd gd bt = 0 then f.childF a b else f
def copE (S : St) (a b : Int × Int) (rt : Int) : Int := minE S a b rt 0 (gc S a).g (gc S a).n
def copS (S : St) (a b : Int × Int) (rt : Int) : St := minS S a b rt 0 (gc S a).g (gc S a).n
def copF (S : St) (f : T9.Fo) (a b : Int × Int) (rt : Int) : T9.Fo := minF S f a b rt 0 (gc S a).g (gc S a).n
def carS (S : St) (a b : Int × Int) (c : C) : St := up (up S a C.zero) b c
def movS (S : St) (a b : Int × Int) : St := if endE S a b = 0 then carS S a b (gc S a) else S
def movF (S : St) (f : T9.Fo) (a b : Int × Int) : T9.Fo := if endE S a b = 0 then f.moveF a b else f
def mutC (c : C) (gd bt : Int) : C := ⟨c.k, c.o, c.r, c.b, gd, bt⟩
def mutE (S : St) (a b : Int × Int) (gd bt : Int) : Int := if endE S a b = 0 then (if (gc S a).k = 2 then (if grd gd bt then 0 else 10) else 2) else endE S a b
def mutS (S : St) (a b : Int × Int) (gd bt : Int) : St := if mutE S a b gd bt = 0 then carS S a b (mutC (gc S a) gd bt) else S
def mutF (S : St) (f : T9.Fo) (a b : Int × Int) (gd bt : Int) : T9.Fo := if mutE S a b gd bt = 0 then f.moveF a b else f
abbrev aside : Int × Int := (-1, 0)
def rotE (S : St) (d p a : Int × Int) : Int := if p = d ∨ p = a then 10 else if srcE S p = 0 then (if srcE S a = 0 then (if d = a then 0 else plcE S d) else srcE S a) else srcE S p
def rotS (S : St) (d p a : Int × Int) : St := if rotE S d p a = 0 then up (up (up (up S p C.zero) a C.zero) d (gc S p)) p (gc S a) else S
def rotF (S : St) (f : T9.Fo) (d p a : Int × Int) : T9.Fo := if rotE S d p a = 0 then ((f.moveF p aside).moveF a p).moveF aside d else f
def takS (S : St) (a : Int × Int) : St := takeS S a.1 a.2
def takF (S : St) (f : T9.Fo) (a : Int × Int) : T9.Fo := if srcE S a = 0 then f.dropF a else f

/-! ### What each way wants -/
theorem pla_root {S : St} {f : T9.Fo} (I : Inv S f) {a : Int × Int} {c : C} (h : plaE S a c = 0) : f.rootE a = 0 := by
  obtain ⟨_, _, _, h4⟩ := putE_ok h
  unfold T9.Fo.rootE
  rw [I.hasnt h4]; rfl
theorem chi_child {S : St} {f : T9.Fo} (I : Inv S f) {o a : Int × Int} (h : endE S o a = 0) : f.childE o a = 0 := by
  obtain ⟨h1, h2⟩ := endE_ok h
  unfold T9.Fo.childE
  rw [I.has (srcE_ok h1).2, I.hasnt (plcE_ok h2).2]; rfl
theorem end_move {S : St} {f : T9.Fo} (I : Inv S f) {a b : Int × Int} (h : endE S a b = 0) : f.moveE a b = 0 := by
  obtain ⟨h1, h2⟩ := endE_ok h
  unfold T9.Fo.moveE
  rw [I.has (srcE_ok h1).2, I.hasnt (plcE_ok h2).2]; rfl
theorem end_ne {S : St} {a b : Int × Int} (h : endE S a b = 0) : a ≠ b := by
  obtain ⟨h1, h2⟩ := endE_ok h
  rintro rfl
  exact (srcE_ok h1).2 (plcE_ok h2).2
theorem min_chi {S : St} {f : T9.Fo} (I : Inv S f) (G : Good S) {a b : Int × Int} {rt bd gd bt : Int} {d : C} (h : endE S a b = 0) (hd : drv (gc S a) rt bd gd bt = (d, 0)) : chiE S a b d = 0 := by
  obtain ⟨h1, h2⟩ := endE_ok h
  unfold chiE
  rw [if_pos h]
  have hw := wkr_iff.1 (drv_less (I.nn a).2 hd)
  exact putE_yes (plcE_ok h2).1 hw.1 (by rw [hw.2.2.1]; exact (srcE_ok h1).2) (plcE_ok h2).2
/-- A source emptied, then a place that is laid in. -/
theorem car_put {S : St} {a b : Int × Int} {c : C} (h : endE S a b = 0) (hc : chk c = 0) (hk : c.k ≠ 0) : takeE S a.1 a.2 = 0 ∧ takeS S a.1 a.2 = up S a C.zero ∧ putE (up S a C.zero) b.1 b.2 c = 0 ∧ putS (up S a C.zero) b.1 b.2 c = carS S a b c := by
  obtain ⟨h1, h2⟩ := endE_ok h
  have hne := end_ne h
  have e : putE (up S a C.zero) b.1 b.2 c = 0 := putE_yes (by rw [th_up]; exact (plcE_ok h2).1) hc hk (by rw [gc_up _ (srcE_ok h1).1, if_neg (Ne.symm hne)]; exact (plcE_ok h2).2)
  exact ⟨h1, takeS_up h1, e, putS_up e⟩
theorem mut_chk {c : C} {gd bt : Int} (h : chk c = 0) (hk : c.k = 2) : chk (mutC c gd bt) = if grd gd bt then 0 else 10 := by
  obtain ⟨k, o, r, b, g, n⟩ := c
  simp only at hk
  subst hk
  unfold chk at h ⊢
  split at h
  · rename_i h1
    split at h
    · rename_i h2
      simp only [bnd, fit, Bool.and_eq_true] at h2
      obtain ⟨⟨⟨⟨⟨b1, b2⟩, b3⟩, b4⟩, b5⟩, ⟨⟨f1, f2⟩, f3⟩, f4⟩ := h2
      show (if knd 2 then (if bnd ⟨2, o, r, b, gd, bt⟩ && fit ⟨2, o, r, b, gd, bt⟩ then 0 else 10) else 2) = _
      have hB : bnd ⟨2, o, r, b, gd, bt⟩ = grd gd bt := by
        show (decide (0 ≤ o) && decide (o ≤ 63) && ck r && blw b 28 && grd gd bt) = _
        rw [b1, b2, b3, b4]; rfl
      have hF : fit ⟨2, o, r, b, gd, bt⟩ = true := by
        show ((!nul 2 || o == 0) && (rgd 2 || r == 0) && (bgd 2 || b == 0) && ((2 : Int) == 2 || bt == 0)) = true
        rw [f1, f2, f3]; rfl
      rw [if_pos h1, hB, hF, Bool.and_true]
    · cases h
  · cases h

theorem mem_mv {f t x : Int × Int} {g : T9.Fo} (hf : f ∈ g.pre) : x ∈ (T9.Fo.mv f t g).pre ↔ x = t ∨ (x ∈ g.pre ∧ x ≠ f) := by
  rw [T9.Fo.pre_mv, List.mem_map]
  unfold T9.Fo.ren
  constructor
  · rintro ⟨y, hy, e⟩
    split at e
    · exact .inl e.symm
    · rename_i h; subst e; exact .inr ⟨hy, h⟩
  · rintro (rfl | ⟨h1, h2⟩)
    · exact ⟨f, hf, by simp⟩
    · exact ⟨x, h1, by simp [h2]⟩
theorem moveF_yes {f : T9.Fo} {a b : Int × Int} (ha : a ∈ f.pre) (hb : b ∉ f.pre) : f.moveF a b = T9.Fo.mv a b f := by
  unfold T9.Fo.moveF; rw [T9.Fo.has_iff.2 ha, T9.Fo.has_not.2 hb]; rfl
theorem moveE_yes {f : T9.Fo} {a b : Int × Int} (ha : a ∈ f.pre) (hb : b ∉ f.pre) : f.moveE a b = 0 := by
  unfold T9.Fo.moveE; rw [T9.Fo.has_iff.2 ha, T9.Fo.has_not.2 hb]; rfl

/-- The steps of a rotation. -/
structure Turn (S : St) (f : T9.Fo) (d p a : Int × Int) : Prop where
  t1 : takeE S p.1 p.2 = 0
  s1 : takeS S p.1 p.2 = up S p C.zero
  c1 : takeC S p.1 p.2 = gc S p
  t2 : takeE (up S p C.zero) a.1 a.2 = 0
  s2 : takeS (up S p C.zero) a.1 a.2 = up (up S p C.zero) a C.zero
  c2 : takeC (up S p C.zero) a.1 a.2 = gc S a
  t3 : putE (up (up S p C.zero) a C.zero) d.1 d.2 (gc S p) = 0
  s3 : putS (up (up S p C.zero) a C.zero) d.1 d.2 (gc S p) = up (up (up S p C.zero) a C.zero) d (gc S p)
  t4 : putE (up (up (up S p C.zero) a C.zero) d (gc S p)) p.1 p.2 (gc S a) = 0
  s4 : putS (up (up (up S p C.zero) a C.zero) d (gc S p)) p.1 p.2 (gc S a) = up (up (up (up S p C.zero) a C.zero) d (gc S p)) p (gc S a)
  m1 : f.moveE p aside = 0
  f1 : f.moveF p aside = T9.Fo.mv p aside f
  m2 : (T9.Fo.mv p aside f).moveE a p = 0
  f2 : (T9.Fo.mv p aside f).moveF a p = T9.Fo.mv a p (T9.Fo.mv p aside f)
  m3 : (T9.Fo.mv a p (T9.Fo.mv p aside f)).moveE aside d = 0
  f3 : (T9.Fo.mv a p (T9.Fo.mv p aside f)).moveF aside d = T9.Fo.mv aside d (T9.Fo.mv a p (T9.Fo.mv p aside f))
  mem : ∀ x, x ∈ (T9.Fo.mv aside d (T9.Fo.mv a p (T9.Fo.mv p aside f))).pre ↔ x = d ∨ x = p ∨ (x ∈ f.pre ∧ x ≠ p ∧ x ≠ a)
  gcs : ∀ x, gc (up (up (up (up S p C.zero) a C.zero) d (gc S p)) p (gc S a)) x = if x = p then gc S a else if x = d then gc S p else if x = a then C.zero else gc S x
theorem rot_ok {S : St} {d p a : Int × Int} (h : rotE S d p a = 0) : p ≠ d ∧ p ≠ a ∧ srcE S p = 0 ∧ srcE S a = 0 ∧ (d = a ∨ plcE S d = 0) := by
  unfold rotE at h
  split at h
  · cases h
  · rename_i h1
    split at h
    · rename_i h2
      split at h
      · rename_i h3
        split at h
        · rename_i h4; exact ⟨fun e => h1 (.inl e), fun e => h1 (.inr e), h2, h3, .inl h4⟩
        · exact ⟨fun e => h1 (.inl e), fun e => h1 (.inr e), h2, h3, .inr h⟩
      · rename_i h3; exact absurd h h3
    · rename_i h2; exact absurd h h2
theorem turn_of {S : St} {f : T9.Fo} (I : Inv S f) (G : Good S) {d p a : Int × Int} (h : rotE S d p a = 0) : Turn S f d p a := by
  obtain ⟨n1, n2, h1, h2, h3⟩ := rot_ok h
  have hp := srcE_ok h1
  have ha := srcE_ok h2
  have hd : th S d = true := by
    rcases h3 with rfl | h3
    · exact ha.1
    · exact (plcE_ok h3).1
  have hdk : d = a ∨ (gc S d).k = 0 := by
    rcases h3 with rfl | h3
    · exact .inl rfl
    · exact .inr (plcE_ok h3).2
  have ta : th (up S p C.zero) a = true := by rw [th_up]; exact ha.1
  have ga : gc (up S p C.zero) a = gc S a := by rw [gc_up _ hp.1, if_neg (Ne.symm n2)]
  have e2 : srcE (up S p C.zero) a = 0 := srcE_yes (by rw [ga]; exact ha.2)
  have g2 : ∀ x, gc (up (up S p C.zero) a C.zero) x = if x = a then C.zero else if x = p then C.zero else gc S x := fun x => by rw [gc_up _ ta, gc_up _ hp.1]
  have td : th (up (up S p C.zero) a C.zero) d = true := by rw [th_up, th_up]; exact hd
  have e3 : putE (up (up S p C.zero) a C.zero) d.1 d.2 (gc S p) = 0 := putE_yes td (gc_chk G p) hp.2 (by
    rw [g2]
    rcases hdk with rfl | k
    · rw [if_pos rfl]
    · split
      · rfl
      · rw [if_neg (Ne.symm n1)]; exact k)
  have g3 : ∀ x, gc (up (up (up S p C.zero) a C.zero) d (gc S p)) x = if x = d then gc S p else if x = a then C.zero else if x = p then C.zero else gc S x := fun x => by rw [gc_up _ td, g2]
  have tp : th (up (up (up S p C.zero) a C.zero) d (gc S p)) p = true := by rw [th_up, th_up, th_up]; exact hp.1
  have e4 : putE (up (up (up S p C.zero) a C.zero) d (gc S p)) p.1 p.2 (gc S a) = 0 := putE_yes tp (gc_chk G a) ha.2 (by rw [g3, if_neg n1, if_neg n2, if_pos rfl])
  have pin : p ∈ f.pre := (I.inv p).2 hp.2
  have ain : a ∈ f.pre := (I.inv a).2 ha.2
  have out : ∀ x, th S x = true → x ≠ aside := fun x hx e => by
    have := th_range G hx
    rw [e] at this
    simp at this
  have sout : aside ∉ f.pre := fun k => out _ (gc_th ((I.inv aside).1 k)) rfl
  have m1 : ∀ x, x ∈ (T9.Fo.mv p aside f).pre ↔ x = aside ∨ (x ∈ f.pre ∧ x ≠ p) := fun x => mem_mv pin
  have a1 : a ∈ (T9.Fo.mv p aside f).pre := (m1 a).2 (.inr ⟨ain, Ne.symm n2⟩)
  have p1 : p ∉ (T9.Fo.mv p aside f).pre := fun k => by
    rcases (m1 p).1 k with e | e
    · exact out p hp.1 e
    · exact e.2 rfl
  have m2 : ∀ x, x ∈ (T9.Fo.mv a p (T9.Fo.mv p aside f)).pre ↔ x = p ∨ ((x = aside ∨ (x ∈ f.pre ∧ x ≠ p)) ∧ x ≠ a) := fun x => (mem_mv a1).trans (by rw [m1])
  have s2 : aside ∈ (T9.Fo.mv a p (T9.Fo.mv p aside f)).pre := (m2 _).2 (.inr ⟨.inl rfl, fun e => out a ha.1 e.symm⟩)
  have d2 : d ∉ (T9.Fo.mv a p (T9.Fo.mv p aside f)).pre := fun k => by
    rcases (m2 d).1 k with e | ⟨e | e, e'⟩
    · exact n1 e.symm
    · exact out d hd e
    · rcases hdk with rfl | z
      · exact e' rfl
      · exact (I.inv d).1 e.1 z
  refine ⟨h1, takeS_up h1, srcC_ok h1, e2, takeS_up e2, (srcC_ok e2).trans ga, e3, putS_up e3, e4, putS_up e4, moveE_yes pin sout, moveF_yes pin sout, moveE_yes a1 p1, moveF_yes a1 p1, moveE_yes s2 d2, moveF_yes s2 d2, fun x => (mem_mv s2).trans ?_, fun x => ?_⟩
  · rw [m2]
    constructor
    · rintro (e | ⟨e | ⟨e | e, e'⟩, z⟩)
      · exact .inl e
      · exact .inr (.inl e)
      · exact absurd e z
      · exact .inr (.inr ⟨e.1, e.2, e'⟩)
    · rintro (e | e | ⟨e1, e2, e3⟩)
      · exact .inl e
      · exact .inr ⟨.inl e, fun k => out p hp.1 (e ▸ k)⟩
      · exact .inr ⟨.inr ⟨.inr ⟨e1, e2⟩, e3⟩, fun k => sout (k ▸ e1)⟩
  · rw [gc_up _ tp, g3]
    by_cases x1 : x = p
    · simp [x1]
    · by_cases x2 : x = d
      · simp [x2]
      · by_cases x3 : x = a <;> simp [x1, x2, x3]

/-! ### What holds behind each act -/
theorem Inv.pla {S : St} {f : T9.Fo} (I : Inv S f) (a : Int × Int) {c : C} (hb : 0 ≤ c.b) (hg : 0 ≤ c.g) : Inv (plaS S a c) (plaF S f a c) := by
  unfold plaF plaS plaE
  by_cases h : putE S a.1 a.2 c = 0
  · obtain ⟨h1, h2, h3, h4⟩ := putE_ok h
    have h1' : th S a = true := h1
    rw [if_pos h, putS_up h]
    unfold T9.Fo.rootF
    rw [I.hasnt h4, if_neg (by simp)]
    refine ⟨fun x => ?_, fun x => ?_⟩
    · rw [T9.Fo.pre_app, T9.Fo.pre_one, List.mem_append, I.inv, gc_up c h1' x]
      by_cases e : x = a
      · simp [e, h3]
      · simp [e]
    · rw [gc_up c h1' x]
      split
      · exact ⟨hb, hg⟩
      · exact I.nn x
  · rw [if_neg h]
    unfold putS
    rw [if_neg h]
    exact I
theorem Inv.lay {S : St} {f : T9.Fo} (I : Inv S f) {o a : Int × Int} {c : C} (he : endE S o a = 0) (hk : c.k ≠ 0) (hb : 0 ≤ c.b) (hg : 0 ≤ c.g) : Inv (up S a c) (f.childF o a) := by
  obtain ⟨h1, h2⟩ := endE_ok he
  unfold T9.Fo.childF
  rw [I.has (srcE_ok h1).2, I.hasnt (plcE_ok h2).2]
  refine ⟨fun x => ?_, fun x => ?_⟩
  · show x ∈ (T9.Fo.add o a f).pre ↔ _
    rw [T9.Fo.mem_add ((I.inv o).2 (srcE_ok h1).2), I.inv, gc_up c (plcE_ok h2).1 x]
    by_cases e : x = a
    · simp [e, hk]
    · simp [e]
  · rw [gc_up c (plcE_ok h2).1 x]
    split
    · exact ⟨hb, hg⟩
    · exact I.nn x
theorem Inv.chi {S : St} {f : T9.Fo} (I : Inv S f) (o a : Int × Int) {c : C} (hb : 0 ≤ c.b) (hg : 0 ≤ c.g) : Inv (chiS S o a c) (chiF S f o a c) := by
  unfold chiS chiF
  by_cases h : chiE S o a c = 0
  · rw [if_pos h, if_pos h]
    unfold chiE at h
    split at h
    · rename_i he
      exact I.lay he (putE_ok h).2.2.1 hb hg
    · rename_i he; exact absurd h he
  · rw [if_neg h, if_neg h]; exact I
theorem min_d {S : St} {f : T9.Fo} (I : Inv S f) {a b : Int × Int} {rt bd gd bt : Int} (hbd : 0 ≤ bd) (hgd : 0 ≤ gd) (h : minE S a b rt bd gd bt = 0) : endE S a b = 0 ∧ ∃ d, drv (gc S a) rt bd gd bt = (d, 0) ∧ d.k ≠ 0 ∧ 0 ≤ d.b ∧ 0 ≤ d.g ∧ wkr d (gc S a) = true := by
  unfold minE at h
  split at h
  · rename_i he
    refine ⟨he, (drv (gc S a) rt bd gd bt).1, ?_⟩
    have hd : drv (gc S a) rt bd gd bt = ((drv (gc S a) rt bd gd bt).1, 0) := Prod.ext rfl h
    have hw := drv_less (I.nn a).2 hd
    have hn := drv_nonneg (I.nn a).1 (I.nn a).2 hbd hgd hd
    exact ⟨hd, by rw [(wkr_iff.1 hw).2.2.1]; exact (srcE_ok (endE_ok he).1).2, hn.1, hn.2, hw⟩
  · rename_i he; exact absurd h he
theorem Inv.min {S : St} {f : T9.Fo} (I : Inv S f) (a b : Int × Int) {rt bd gd bt : Int} (hbd : 0 ≤ bd) (hgd : 0 ≤ gd) : Inv (minS S a b rt bd gd bt) (minF S f a b rt bd gd bt) := by
  unfold minS minF
  by_cases h : minE S a b rt bd gd bt = 0
  · obtain ⟨he, d, hd, hk, hb, hg, _⟩ := min_d I hbd hgd h
    rw [if_pos h, if_pos h, hd]
    exact I.lay he hk hb hg
  · rw [if_neg h, if_neg h]; exact I
theorem Inv.cop {S : St} {f : T9.Fo} (I : Inv S f) (a b : Int × Int) (rt : Int) : Inv (copS S a b rt) (copF S f a b rt) := I.min a b (Int.le_refl 0) (I.nn a).2
theorem gc_car {S : St} {a b : Int × Int} {c : C} (he : endE S a b = 0) (x : Int × Int) : gc (carS S a b c) x = if x = b then c else if x = a then C.zero else gc S x := by
  obtain ⟨h1, h2⟩ := endE_ok he
  unfold carS
  rw [gc_up _ (by rw [th_up]; exact (plcE_ok h2).1), gc_up _ (srcE_ok h1).1]
theorem Inv.car {S : St} {f : T9.Fo} (I : Inv S f) {a b : Int × Int} {c : C} (he : endE S a b = 0) (hk : c.k ≠ 0) (hb : 0 ≤ c.b) (hg : 0 ≤ c.g) : Inv (carS S a b c) (f.moveF a b) := by
  obtain ⟨h1, h2⟩ := endE_ok he
  have ha := (I.inv a).2 (srcE_ok h1).2
  have hb' : b ∉ f.pre := fun k => (I.inv b).1 k (plcE_ok h2).2
  rw [moveF_yes ha hb']
  refine ⟨fun x => ?_, fun x => ?_⟩
  · rw [mem_mv ha, I.inv, gc_car he]
    by_cases e : x = b
    · simp [e, hk]
    · by_cases e2 : x = a
      · have hab := end_ne he
        simp [e2, hab]
      · simp [e, e2]
  · rw [gc_car he]
    split
    · exact ⟨hb, hg⟩
    · split
      · exact ⟨Int.le_refl 0, Int.le_refl 0⟩
      · exact I.nn x
theorem Inv.mov {S : St} {f : T9.Fo} (I : Inv S f) (a b : Int × Int) : Inv (movS S a b) (movF S f a b) := by
  unfold movS movF
  by_cases h : endE S a b = 0
  · rw [if_pos h, if_pos h]
    exact I.car h (srcE_ok (endE_ok h).1).2 (I.nn a).1 (I.nn a).2
  · rw [if_neg h, if_neg h]; exact I
theorem mut_ok {S : St} {a b : Int × Int} {gd bt : Int} (h : mutE S a b gd bt = 0) : endE S a b = 0 ∧ (gc S a).k = 2 ∧ grd gd bt = true := by
  unfold mutE at h
  split at h
  · rename_i h1
    split at h
    · rename_i h2
      split at h
      · rename_i h3; exact ⟨h1, h2, h3⟩
      · cases h
    · cases h
  · rename_i h1; exact absurd h h1
theorem Inv.mut {S : St} {f : T9.Fo} (I : Inv S f) (a b : Int × Int) {gd bt : Int} (hg : 0 ≤ gd) : Inv (mutS S a b gd bt) (mutF S f a b gd bt) := by
  unfold mutS mutF
  by_cases h : mutE S a b gd bt = 0
  · rw [if_pos h, if_pos h]
    obtain ⟨h1, h2, _⟩ := mut_ok h
    exact I.car h1 (by show (gc S a).k ≠ 0; rw [h2]; decide) (I.nn a).1 hg
  · rw [if_neg h, if_neg h]; exact I
theorem Inv.rot {S : St} {f : T9.Fo} (I : Inv S f) (G : Good S) (d p a : Int × Int) : Inv (rotS S d p a) (rotF S f d p a) := by
  unfold rotS rotF
  by_cases h : rotE S d p a = 0
  · rw [if_pos h, if_pos h]
    have T := turn_of I G h
    obtain ⟨n1, n2, h1, h2, h3⟩ := rot_ok h
    rw [T.f1, T.f2, T.f3]
    refine ⟨fun x => ?_, fun x => ?_⟩
    · rw [T.mem, T.gcs]
      by_cases x1 : x = p
      · simp [x1, (srcE_ok h2).2]
      · by_cases x2 : x = d
        · simp [x2, Ne.symm n1, (srcE_ok h1).2]
        · by_cases x3 : x = a
          · subst x3
            simp [x1, x2]
          · simp [x1, x2, x3, I.inv]
    · rw [T.gcs]
      split
      · exact I.nn a
      · split
        · exact I.nn p
        · split
          · exact ⟨Int.le_refl 0, Int.le_refl 0⟩
          · exact I.nn x
  · rw [if_neg h, if_neg h]; exact I
theorem tak_ok {S : St} {f : T9.Fo} (I : Inv S f) {a : Int × Int} (h : srcE S a = 0) : f.dropE a = 0 ∧ f.dropF a = T9.Fo.drop a f := by
  unfold T9.Fo.dropE T9.Fo.dropF
  rw [I.has (srcE_ok h).2]; exact ⟨rfl, rfl⟩
theorem Inv.tak {S : St} {f : T9.Fo} (I : Inv S f) (N : T9.Good f) (a : Int × Int) : Inv (takS S a) (takF S f a) := by
  unfold takS takF
  by_cases h : srcE S a = 0
  · rw [if_pos h, takeS_up h, (tak_ok I h).2]
    refine ⟨fun x => ?_, fun x => ?_⟩
    · rw [T9.Fo.pre_drop N.nd, List.mem_filter, I.inv, gc_up _ (srcE_ok h).1]
      by_cases e : x = a <;> simp [e]
    · rw [gc_up _ (srcE_ok h).1]
      split
      · exact ⟨Int.le_refl 0, Int.le_refl 0⟩
      · exact I.nn x
  · unfold takeS
    unfold srcE at h ⊢
    rw [if_neg h, if_neg h]; exact I
theorem Inv.same {S S' : St} {f : T9.Fo} (I : Inv S f) (h : ∀ x, gc S' x = gc S x) : Inv S' f := ⟨fun x => by rw [h]; exact I.inv x, fun x => by rw [h]; exact I.nn x⟩
theorem gc_add (S : St) (id r : Int) (x : Int × Int) : gc (addS S id r) x = gc S x := by
  unfold addS
  split
  · rename_i h
    obtain ⟨_, hn⟩ := addE_ok h
    unfold gc getC there
    by_cases e : x.1 = id
    · simp only [e, if_true, hn]
      split <;> rfl
    · simp only [if_neg e]
  · rfl
theorem gc_wipe {S : St} (G : Good S) (id : Int) (x : Int × Int) : gc (dropS S id) x = gc S x := by
  unfold dropS
  split
  · rename_i h
    by_cases e : x.1 = id
    · have h0 : gc (fun j => if j = id then none else S j) x = C.zero := by unfold gc getC; simp only [e, if_true]
      rw [h0]
      cases ht : th S x
      · exact (gc_no ht).symm
      · obtain ⟨d, j, hs, hi, hj⟩ := there_yes ht
        have hr := th_range G ht
        unfold dropE at h
        rw [← e, hs] at h
        simp only at h
        split at h
        · rename_i hn
          unfold nulN at hn
          have hk := List.all_eq_true.1 hn j (by simp; omega)
          exact (gc_nul G (by unfold gc; rw [hi, getC_at hs hj]; simpa using hk)).symm
        · cases h
    · unfold gc getC there
      simp only [if_neg e]
  · rfl
end M
end Go.Proofs.YtdnoidnpiaadaaaGreat
