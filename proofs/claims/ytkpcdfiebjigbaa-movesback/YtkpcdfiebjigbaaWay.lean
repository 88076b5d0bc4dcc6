/-
  A CALL ON ITS WAY: what a call of package moves has made so far (the two parts, the frame from its beginning on), and its own boxes, which the parts do not have. Speaks of no function of the program but the parts' calls.
-/
import Derived.Test.YtkpcdfiebjigbaaEnds
namespace Go.Proofs.Ytkpcdfiebjigbaa
set_option maxRecDepth 10000
open Go.RowKit
set_option linter.unusedVariables false

/-- From w on: the parts as they are now, their blocks, and the frame. -/
structure Wy (w0 w wc : World) (O Oc : Nat → Prop) (p s t m : Nat) (S : St) (f : T9.Fo) : Prop where
  cs : Cs w0 wc Oc p s t m S f
  fr : Fr O w wc
  sub : ∀ i, Oc i → O i ∨ w.heap.size ≤ i
theorem Wy.start {w0 w : World} {O : Nat → Prop} {p s t m : Nat} {S : St} {f : T9.Fo} (h : Cs w0 w O p s t m S f) : Wy w0 w w O O p s t m S f := ⟨h, Fr.refl O w, fun i hi => .inl hi⟩
theorem Wy.kept {w0 w wc wd : World} {O Oc : Nat → Prop} {p s t m : Nat} {S : St} {f : T9.Fo} (h : Wy w0 w wc O Oc p s t m S f) (g : wc.grownBy wd none) : Wy w0 w wd O Oc p s t m S f :=
  ⟨h.cs.kept g, h.fr.trans (Fr.grown g), h.sub⟩
theorem Wy.call {w0 w wc wd : World} {O Oc : Nat → Prop} {p s t m m' : Nat} {S S' : St} {f f' : T9.Fo} (h : Wy w0 w wc O Oc p s t m S f) (A : Cs w0 wd (wide Oc wc wd) p s t m' S' f') (F : Fr Oc wc wd) : Wy w0 w wd O (wide Oc wc wd) p s t m' S' f' := by
  refine ⟨A, h.fr.join F (fun i hi k => ?_), fun i hi => ?_⟩
  · rcases h.sub i k with e | e
    · exact e
    · omega
  · rcases hi with e | e
    · exact h.sub i e
    · have := h.fr.size; exact .inr (by omega)
theorem Wy.keep {w0 w wc wd : World} {O Oc : Nat → Prop} {p s t m x : Nat} {S : St} {f : T9.Fo} (h : Wy w0 w wc O Oc p s t m S f) (g : wc.grownBy wd (some x)) (hx : ¬ Oc x) (hw : w.heap.size ≤ x) (h0 : w0.heap.size ≤ w.heap.size) : Wy w0 w wd O Oc p s t m S f :=
  ⟨h.cs.keep g hx (Nat.le_trans h0 hw), h.fr.join (Fr.at (O := fun i => i = x) g rfl) (fun i hi e => by omega), h.sub⟩
theorem Wy.fin {w0 w wc : World} {O Oc : Nat → Prop} {p s t m : Nat} {S : St} {f : T9.Fo} (h : Wy w0 w wc O Oc p s t m S f) (h0 : w0.heap.size ≤ w.heap.size) (ho : ∀ i, O i → w0.heap.size ≤ i ∧ i < w.heap.size) : Cs w0 wc (wide O w wc) p s t m S f ∧ Fr O w wc := by
  have hs := h.fr.size
  refine ⟨h.cs.mono (fun i hi => ?_) (fun i hi => ?_), h.fr⟩
  · rcases h.sub i hi with e | e
    · exact .inl e
    · exact .inr ⟨e, (h.cs.lo i hi).2⟩
  · rcases hi with e | e
    · have := ho i e; omega
    · omega
theorem Wy.out {w0 w wc : World} {O Oc : Nat → Prop} {p s t m : Nat} {S : St} {f : T9.Fo} (h : Wy w0 w wc O Oc p s t m S f) {x : Nat} (hx : wc.heap.size ≤ x) : ¬ Oc x := fun e => by have := (h.cs.lo x e).2; omega

theorem SBox.keep {w w' : World} {x y : Nat} {n i : Int} (h : SBox w x n i) (g : w.grownBy w' (some y)) (hy : x ≠ y) : SBox w' x n i := ⟨g.cell h.at0 (by simpa using hy), g.cell h.at1 (by simpa using hy), Nat.lt_of_lt_of_le h.lt g.size⟩
theorem Rd3.keep {w w' : World} {p j q x y : Nat} {n i : Int} (h : Rd3 w p j q x n i) (g : w.grownBy w' (some y)) (hp : p ≠ y) (hx : x ≠ y) : Rd3 w' p j q x n i := ⟨g.cell h.1 (by simpa using hp), g.cell h.2.1 (by simpa using hx), g.cell h.2.2 (by simpa using hx)⟩
theorem gbSet1 {a b : World} {y : Nat} (h : a.grownBy b (some y)) (i : Nat) (v : Value) : a.grownBy (b.setCell ⟨y, i, none⟩ v) (some y) := gbTrans h (gbSetCell _ _ _ _)
theorem wideNo {O : Nat → Prop} {w w' : World} {x : Nat} (h : ¬ O x) (hx : x < w.heap.size) : ¬ wide O w w' x := fun e => by
  rcases e with e | e
  · exact h e
  · omega
theorem gcellF {O : Nat → Prop} {W w1 : World} (F : Fr O W w1) (b o : Nat) (hO : ¬ O b) (hb : b < W.heap.size) : w1.cell? ⟨b, o, none⟩ = W.cell? ⟨b, o, none⟩ := World.cell?_of_block (F.block b hb hO)
theorem gfrozF {O : Nat → Prop} {W w1 : World} (F : Fr O W w1) (b o : Nat) (hO : ¬ O b) (hb : b < W.heap.size) : w1.frozen? ⟨b, o, none⟩ = W.frozen? ⟨b, o, none⟩ := World.frozen?_of_block (F.block b hb hO)
/-- A slot's name that the parts do not have. -/
structure SB (wc : World) (Oc : Nat → Prop) (x : Nat) (n i : Int) : Prop where
  sb : SBox wc x n i
  no : ¬ Oc x
theorem SB.kept {wc wd : World} {Oc : Nat → Prop} {x : Nat} {n i : Int} (h : SB wc Oc x n i) (g : wc.grownBy wd none) : SB wd Oc x n i := ⟨h.sb.kept g, h.no⟩
theorem SB.call {wc wd : World} {Oc : Nat → Prop} {x : Nat} {n i : Int} (h : SB wc Oc x n i) (F : Fr Oc wc wd) : SB wd (wide Oc wc wd) x n i :=
  ⟨F.sbox h.sb h.no, fun e => by
    rcases e with e | e
    · exact h.no e
    · have := h.sb.lt; omega⟩
theorem SB.keep {wc wd : World} {Oc : Nat → Prop} {x y : Nat} {n i : Int} (h : SB wc Oc x n i) (g : wc.grownBy wd (some y)) (hy : x ≠ y) : SB wd Oc x n i := ⟨h.sb.keep g hy, h.no⟩
/-- A capability that the parts do not have. -/
structure BB (wc : World) (Oc : Nat → Prop) (x : Nat) (c : C) : Prop where
  bx : Box wc x c
  no : ¬ Oc x
theorem BB.kept {wc wd : World} {Oc : Nat → Prop} {x : Nat} {c : C} (h : BB wc Oc x c) (g : wc.grownBy wd none) : BB wd Oc x c := ⟨h.bx.kept g, h.no⟩
theorem BB.call {wc wd : World} {Oc : Nat → Prop} {x : Nat} {c : C} (h : BB wc Oc x c) (F : Fr Oc wc wd) : BB wd (wide Oc wc wd) x c :=
  ⟨F.box h.bx h.no, fun e => by
    rcases e with e | e
    · exact h.no e
    · have := h.bx.lt; omega⟩

theorem BB.keep {wc wd : World} {Oc : Nat → Prop} {x y : Nat} {c : C} (h : BB wc Oc x c) (g : wc.grownBy wd (some y)) (hy : x ≠ y) : BB wd Oc x c := ⟨h.bx.keep g (by simpa using hy), h.no⟩
/-! ### Boxes made at a call's beginning -/
theorem slotBox (w : World) (n i : Int) (c : C) : ∃ W, (w.alloc (.cells #[.int .i64 n, .int .i64 i] 29)).alloc (.cells #[.int .i64 c.k, .int .i64 c.o, .int .i64 c.r, .int .u64 c.b, .int .u64 c.g, .int .i64 c.n] 32) = W ∧ SBox W w.heap.size n i ∧ Box W (w.heap.size + 1) c ∧ w.grownBy W none := by
  have g := gbAlloc (w.alloc (.cells #[.int .i64 n, .int .i64 i] 29)) (.cells #[.int .i64 c.k, .int .i64 c.o, .int .i64 c.r, .int .u64 c.b, .int .u64 c.g, .int .i64 c.n] 32) none
  have b := Box.made (w.alloc (.cells #[.int .i64 n, .int .i64 i] 29)) c
  rw [Deep.nblk_alloc] at b
  exact ⟨_, rfl, (SBox.made w n i).kept g, b, gbTrans (gbAlloc _ _ _) g⟩
theorem slots2 (w : World) (n i n' i' : Int) : ∃ W, (w.alloc (.cells #[.int .i64 n, .int .i64 i] 29)).alloc (.cells #[.int .i64 n', .int .i64 i'] 29) = W ∧ SBox W w.heap.size n i ∧ SBox W (w.heap.size + 1) n' i' ∧ w.grownBy W none := by
  obtain ⟨W, hW, X, g⟩ := sboxNew (w.alloc (.cells #[.int .i64 n, .int .i64 i] 29)) n' i'
  rw [Deep.nblk_alloc] at X
  exact ⟨W, hW, (SBox.made w n i).kept g, X, gbTrans (gbAlloc _ _ _) g⟩
theorem slots3 (w : World) (n i n' i' n'' i'' : Int) : ∃ W, ((w.alloc (.cells #[.int .i64 n, .int .i64 i] 29)).alloc (.cells #[.int .i64 n', .int .i64 i'] 29)).alloc (.cells #[.int .i64 n'', .int .i64 i''] 29) = W ∧ SBox W w.heap.size n i ∧ SBox W (w.heap.size + 1) n' i' ∧ SBox W (w.heap.size + 2) n'' i'' ∧ w.grownBy W none := by
  obtain ⟨W, hW, X, Y, g⟩ := slots2 (w.alloc (.cells #[.int .i64 n, .int .i64 i] 29)) n' i' n'' i''
  rw [Deep.nblk_alloc] at X Y
  exact ⟨W, hW, (SBox.made w n i).kept g, X, Y, gbTrans (gbAlloc _ _ _) g⟩
theorem slots2Box (w : World) (n i n' i' : Int) (c : C) : ∃ W, ((w.alloc (.cells #[.int .i64 n, .int .i64 i] 29)).alloc (.cells #[.int .i64 n', .int .i64 i'] 29)).alloc (.cells #[.int .i64 c.k, .int .i64 c.o, .int .i64 c.r, .int .u64 c.b, .int .u64 c.g, .int .i64 c.n] 32) = W ∧ SBox W w.heap.size n i ∧ SBox W (w.heap.size + 1) n' i' ∧ Box W (w.heap.size + 2) c ∧ w.grownBy W none := by
  obtain ⟨W, hW, X, Y, g⟩ := slotBox (w.alloc (.cells #[.int .i64 n, .int .i64 i] 29)) n' i' c
  rw [Deep.nblk_alloc] at X Y
  exact ⟨W, hW, (SBox.made w n i).kept g, X, Y, gbTrans (gbAlloc _ _ _) g⟩

/-! ### What regions read -/
abbrev Two (w : World) (x : Nat) (n i : Int) : Prop := w.cell? ⟨x, 0, none⟩ = some (.int .i64 n) ∧ w.cell? ⟨x, 1, none⟩ = some (.int .i64 i)
abbrev Ptr (w : World) (p j q : Nat) : Prop := w.cell? ⟨p, j, none⟩ = some (.pointer (some ⟨q, 0, none⟩))
theorem SBox.tup {w : World} {x : Nat} {n i : Int} (h : SBox w x n i) : Two w x n i := ⟨h.at0, h.at1⟩
end Go.Proofs.Ytkpcdfiebjigbaa
