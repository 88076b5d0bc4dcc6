/-
  LISTS OF WHAT IS KEPT, IN MEMORY: five cells an element; append, clear, stores; frames by the blocks that a Tlb has. Speaks of no function of the program.
-/
import Derived.Test.YtmmjmloaefcmmaaKpt
namespace Go.Proofs.Ytmmjmloaefcmmaa
set_option maxRecDepth 10000
open Go.RowKit
set_option linter.unusedVariables false

/-! ### Frames -/
/-- Nothing but blocks of O has turned; new blocks may be there. -/
structure Fr (O : Nat → Prop) (w w' : World) : Prop where
  os : w'.os = w.os
  tape : w'.tape = w.tape
  output : w'.output = w.output
  size : w.heap.size ≤ w'.heap.size
  block : ∀ k, k < w.heap.size → ¬ O k → w'.heap[k]? = w.heap[k]?
theorem Fr.refl (O : Nat → Prop) (w : World) : Fr O w w := ⟨rfl, rfl, rfl, Nat.le_refl _, fun _ _ _ => rfl⟩
theorem Fr.trans {O : Nat → Prop} {a b c : World} (h : Fr O a b) (k : Fr O b c) : Fr O a c :=
  ⟨k.os.trans h.os, k.tape.trans h.tape, k.output.trans h.output, Nat.le_trans h.size k.size, fun i hi ho => (k.block i (Nat.lt_of_lt_of_le hi h.size) ho).trans (h.block i hi ho)⟩
/-- The second one may have blocks that were not there for the first one. -/
theorem Fr.join {O O' : Nat → Prop} {a b c : World} (h : Fr O a b) (k : Fr O' b c) (ho : ∀ i, i < a.heap.size → O' i → O i) : Fr O a c :=
  ⟨k.os.trans h.os, k.tape.trans h.tape, k.output.trans h.output, Nat.le_trans h.size k.size, fun i hi hO => (k.block i (Nat.lt_of_lt_of_le hi h.size) (fun e => hO (ho i hi e))).trans (h.block i hi hO)⟩
theorem Fr.grown {O : Nat → Prop} {w w' : World} (h : w.grownBy w' none) : Fr O w w' := ⟨h.os, h.tape, h.output, h.size, fun i hi _ => h.block i hi (by simp)⟩
theorem Fr.at {O : Nat → Prop} {w w' : World} {r : Nat} (h : w.grownBy w' (some r)) (hr : O r) : Fr O w w' :=
  ⟨h.os, h.tape, h.output, h.size, fun i hi ho => h.block i hi (fun e => ho (by cases e; exact hr))⟩
theorem Fr.opt {O : Nat → Prop} {w w' : World} {r : Option Nat} (h : w.grownBy w' r) (hr : ∀ k, r = some k → O k) : Fr O w w' :=
  ⟨h.os, h.tape, h.output, h.size, fun i hi ho => h.block i hi (fun e => ho (hr i e.symm))⟩
theorem Fr.mono {O O' : Nat → Prop} {w w' : World} (h : Fr O w w') (ho : ∀ i, i < w.heap.size → O i → O' i) : Fr O' w w' := ⟨h.os, h.tape, h.output, h.size, fun i hi k => h.block i hi (fun e => k (ho i hi e))⟩
/-- What it turned is new, seen from before. -/
theorem Fr.new {O : Nat → Prop} {w w' : World} (h : Fr O w w') (ho : ∀ i, i < w.heap.size → ¬ O i) : w.grownBy w' none := ⟨h.os, h.tape, h.output, h.size, fun i hi _ => h.block i hi (ho i hi)⟩
theorem Fr.since {O : Nat → Prop} {w0 w w' : World} (g : w0.grownBy w none) (h : Fr O w w') (ho : ∀ i, O i → w0.heap.size ≤ i) : w0.grownBy w' none :=
  ⟨h.os.trans g.os, h.tape.trans g.tape, h.output.trans g.output, Nat.le_trans g.size h.size, fun i hi _ => (h.block i (Nat.lt_of_lt_of_le hi g.size) (fun e => by have := ho i e; omega)).trans (g.block i hi (by simp))⟩
theorem Fr.cell {O : Nat → Prop} {w w' : World} (h : Fr O w w') {a : Addr} {v : Value} (ha : w.cell? a = some v) (ho : ¬ O a.block) : w'.cell? a = some v :=
  (World.cell?_of_block (h.block _ (World.block_lt_of_cell? w a ha) ho)).trans ha
theorem Fr.box {O : Nat → Prop} {w w' : World} {x : Nat} {c : E} (h : Fr O w w') (X : Box w x c) (ho : ¬ O x) : Box w' x c :=
  ⟨h.cell X.at0 ho, h.cell X.at1 ho, h.cell X.at2 ho, Nat.lt_of_lt_of_le X.lt h.size, fun i => (World.frozen?_of_block (h.block _ X.lt ho)).trans (X.fr i)⟩
/-- The blocks of O, and what is new. -/
def wide (O : Nat → Prop) (w w' : World) : Nat → Prop := fun i => O i ∨ (w.heap.size ≤ i ∧ i < w'.heap.size)
theorem wideNo {O : Nat → Prop} {w w' : World} {x : Nat} (h : ¬ O x) (hx : x < w.heap.size) : ¬ wide O w w' x := by
  rintro (h1 | h1)
  · exact h h1
  · omega

/-! ### The cells of a list -/
def cellsK (L : List K) : List Value := L.flatMap fun k => [.int .i64 k.s, .int .i64 k.p, .bool k.e.v, .bool k.e.w, .int .i64 k.e.a]
theorem cellsK_cons (k : K) (L : List K) : cellsK (k :: L) = .int .i64 k.s :: .int .i64 k.p :: .bool k.e.v :: .bool k.e.w :: .int .i64 k.e.a :: cellsK L := rfl
theorem cellsK_app (L D : List K) : cellsK L ++ cellsK D = cellsK (L ++ D) := by unfold cellsK; simp
theorem cellsK_len (L : List K) : (cellsK L).length = L.length * 5 := by
  induction L with
  | nil => rfl
  | cons p L ih => rw [cellsK_cons]; simp [ih]; omega
theorem cellsK_get (L : List K) (i : Nat) (k : K) (h : L[i]? = some k) : (cellsK L)[i * 5]? = some (.int .i64 k.s) ∧ (cellsK L)[i * 5 + 1]? = some (.int .i64 k.p) ∧ (cellsK L)[i * 5 + 2]? = some (.bool k.e.v) ∧ (cellsK L)[i * 5 + 3]? = some (.bool k.e.w) ∧ (cellsK L)[i * 5 + 4]? = some (.int .i64 k.e.a) := by
  induction L generalizing i with
  | nil => simp at h
  | cons q L ih =>
    rw [cellsK_cons]
    cases i with
    | zero => simp at h; subst h; exact ⟨rfl, rfl, rfl, rfl, rfl⟩
    | succ i =>
      have := ih i (by simpa using h)
      rw [show (i + 1) * 5 = i * 5 + 1 + 1 + 1 + 1 + 1 by omega]
      simpa using this
theorem cellsK_one (L : List K) : ∀ u ∈ cellsK L, u.oneCell' = true := by
  intro u hu
  unfold cellsK at hu
  simp at hu
  obtain ⟨a, _, rfl | rfl | rfl | rfl | rfl⟩ := hu <;> rfl
theorem cellsK_set (L : List K) (j : Nat) (k : K) : (((((cellsK L).set (j * 5) (.int .i64 k.s)).set (j * 5 + 1) (.int .i64 k.p)).set (j * 5 + 2) (.bool k.e.v)).set (j * 5 + 3) (.bool k.e.w)).set (j * 5 + 4) (.int .i64 k.e.a) = cellsK (L.set j k) := by
  induction L generalizing j with
  | nil => simp [cellsK]
  | cons q L ih =>
    cases j with
    | zero => simp [cellsK_cons]
    | succ j =>
      rw [show (j + 1) * 5 = j * 5 + 1 + 1 + 1 + 1 + 1 by omega]
      simp only [List.set_cons_succ, cellsK_cons]
      rw [ih]
theorem cellsK_take : ∀ (L : List K) (i : Nat), cellsK (L.take i) = (cellsK L).take (i * 5)
  | [], i => by simp [cellsK]
  | p :: L, 0 => by simp [cellsK]
  | p :: L, i + 1 => by rw [List.take_succ_cons, cellsK_cons, cellsK_cons, show (i + 1) * 5 = i * 5 + 1 + 1 + 1 + 1 + 1 by omega]; simp only [List.take_succ_cons]; rw [cellsK_take L i]
theorem cellsK_drop : ∀ (L : List K) (i : Nat), cellsK (L.drop i) = (cellsK L).drop (i * 5)
  | [], i => by simp [cellsK]
  | p :: L, 0 => by simp
  | p :: L, i + 1 => by rw [List.drop_succ_cons, cellsK_cons, show (i + 1) * 5 = i * 5 + 1 + 1 + 1 + 1 + 1 by omega]; simp only [List.drop_succ_cons]; rw [cellsK_drop L i]

/-! ### Lists -/
/-- A list of the call's own, its elements of type tk. -/
def KL (tk : TypeId) (w : World) (B : Nat) (v : Value) (L : List K) : Prop := w.ownsRow B tk 5 v L.length (cellsK L)
section
variable {tk : TypeId} {w w' : World} {B : Nat} {v : Value} {L : List K}
theorem KL.nil (tk : TypeId) (w : World) (B : Nat) : KL tk w B (.slice none 0 0) [] := World.ownsRow_nil w B tk 5
theorem KL.kept (h : KL tk w B v L) (g : w.grownBy w' none) : KL tk w' B v L := World.ownsRow.kept h g (by cases v.ownBlock <;> simp)
theorem KL.lt (h : KL tk w B v L) : ∀ k, v.ownBlock = some k → B ≤ k ∧ k < w.heap.size := World.ownsRow.lt h
theorem KL.block (h : KL tk w B v L) (e : ∀ k, v.ownBlock = some k → w'.heap[k]? = w.heap[k]?) : KL tk w' B v L := by
  refine ⟨h.1, ?_⟩
  rcases h.2 with h2 | ⟨g, cap, cur, rfl, h3, h4, h5⟩
  · exact .inl h2
  · exact .inr ⟨g, cap, cur, rfl, h3, (e g rfl).trans h4, h5⟩
theorem KL.fr {O : Nat → Prop} (h : KL tk w B v L) (F : Fr O w w') (hv : ∀ k, v.ownBlock = some k → ¬ O k) : KL tk w' B v L :=
  h.block (fun k hk => F.block k (h.lt k hk).2 (hv k hk))
theorem KL.keep {y : Nat} (h : KL tk w B v L) (g : w.grownBy w' (some y)) (hv : ∀ k, v.ownBlock = some k → k ≠ y) : KL tk w' B v L :=
  h.block (fun k hk => g.block k (h.lt k hk).2 (fun e => hv k hk (by cases e; rfl)))
theorem KL.base {B' : Nat} (h : KL tk w B v L) (hb : ∀ k, v.ownBlock = some k → B' ≤ k) : KL tk w B' v L := by
  refine ⟨h.1, ?_⟩
  rcases h.2 with h2 | ⟨g, cap, cur, rfl, h3, h4, h5⟩
  · exact .inl h2
  · exact .inr ⟨g, cap, cur, rfl, hb g rfl, h4, h5⟩
/-- What it looks like. -/
theorem KL.form (h : KL tk w B v L) : (v = .slice none 0 0 ∧ L = []) ∨ ∃ g cap, v = .slice (some ⟨g, 0, none⟩) L.length cap ∧ L.length ≤ cap ∧ B ≤ g ∧ g < w.heap.size ∧ cap ≤ 9223372036854775807 := by
  have h0 := h.2
  rcases h0 with ⟨rfl, hn⟩ | ⟨g, cap, cur, rfl, hB, hg, hn, hm, _, _⟩
  · exact .inl ⟨rfl, List.eq_nil_of_length_eq_zero hn⟩
  · exact .inr ⟨g, cap, rfl, hn, hB, (World.ownsRow.lt h g rfl).2, by unfold maxLen at hm; omega⟩
theorem KL.has {n : Nat} (h : KL tk w B v L) (hn : L.length = n) (h0 : 0 < n) : ∃ g cap, v = .slice (some ⟨g, 0, none⟩) n cap ∧ n ≤ cap ∧ B ≤ g ∧ g < w.heap.size ∧ cap ≤ 9223372036854775807 := by
  rcases h.form with ⟨_, rfl⟩ | ⟨g, cap, rfl, k⟩
  · simp at hn; omega
  · rw [hn] at k
    exact ⟨g, cap, by rw [hn], k⟩
end
/-- The cells of an element. -/
structure Kel (w : World) (g o : Nat) (k : K) : Prop where
  at0 : w.cell? ⟨g, o, none⟩ = some (.int .i64 k.s)
  at1 : w.cell? ⟨g, o + 1, none⟩ = some (.int .i64 k.p)
  at2 : w.cell? ⟨g, o + 2, none⟩ = some (.bool k.e.v)
  at3 : w.cell? ⟨g, o + 3, none⟩ = some (.bool k.e.w)
  at4 : w.cell? ⟨g, o + 4, none⟩ = some (.int .i64 k.e.a)
  lt : g < w.heap.size
  fr : ∀ i, w.frozen? ⟨g, i, none⟩ = false
theorem Kel.keep {w w' : World} {g o : Nat} {k : K} {r : Option Nat} (h : Kel w g o k) (G : w.grownBy w' r) (hr : some g ≠ r) : Kel w' g o k :=
  ⟨G.cell h.at0 hr, G.cell h.at1 hr, G.cell h.at2 hr, G.cell h.at3 hr, G.cell h.at4 hr, Nat.lt_of_lt_of_le h.lt G.size, fun i => (gbFrozen G h.lt hr).trans (h.fr i)⟩
theorem Kel.kept {w w' : World} {g o : Nat} {k : K} (h : Kel w g o k) (G : w.grownBy w' none) : Kel w' g o k := h.keep G (by simp)
theorem KL.el {tk : TypeId} {w : World} {B g n cap : Nat} {L : List K} (h : KL tk w B (.slice (some ⟨g, 0, none⟩) n cap) L) (hn : L.length = n) (j : Nat) (k : K) (hj : L[j]? = some k) : Kel w g (j * 5) k := by
  subst hn
  have hl := (h.lt g rfl).2
  unfold KL at h
  have hlt : j < L.length := (List.getElem?_eq_some_iff.1 hj).1
  obtain ⟨h0, h1, h2, h3, h4⟩ := cellsK_get L j k hj
  exact ⟨(World.ownsRow.cellAt h _ (by omega)).trans h0, (World.ownsRow.cellAt h _ (by omega)).trans h1, (World.ownsRow.cellAt h _ (by omega)).trans h2, (World.ownsRow.cellAt h _ (by omega)).trans h3, (World.ownsRow.cellAt h _ (by omega)).trans h4, hl, World.ownsRow.frozenAt h⟩
theorem KL.store {tk : TypeId} {w : World} {B g n cap : Nat} {L : List K} (h : KL tk w B (.slice (some ⟨g, 0, none⟩) n cap) L) (hn : L.length = n) (j : Nat) (k : K) :
    KL tk (((((w.setCell ⟨g, j * 5, none⟩ (.int .i64 k.s)).setCell ⟨g, j * 5 + 1, none⟩ (.int .i64 k.p)).setCell ⟨g, j * 5 + 2, none⟩ (.bool k.e.v)).setCell ⟨g, j * 5 + 3, none⟩ (.bool k.e.w)).setCell ⟨g, j * 5 + 4, none⟩ (.int .i64 k.e.a)) B (.slice (some ⟨g, 0, none⟩) n cap) (L.set j k) ∧
    w.grownBy (((((w.setCell ⟨g, j * 5, none⟩ (.int .i64 k.s)).setCell ⟨g, j * 5 + 1, none⟩ (.int .i64 k.p)).setCell ⟨g, j * 5 + 2, none⟩ (.bool k.e.v)).setCell ⟨g, j * 5 + 3, none⟩ (.bool k.e.w)).setCell ⟨g, j * 5 + 4, none⟩ (.int .i64 k.e.a)) (some g) := by
  subst hn
  unfold KL at *
  obtain ⟨h1, g1⟩ := World.ownsRow.stored h (j * 5) (.int .i64 k.s)
  obtain ⟨h2, g2⟩ := World.ownsRow.stored h1 (j * 5 + 1) (.int .i64 k.p)
  obtain ⟨h3, g3⟩ := World.ownsRow.stored h2 (j * 5 + 2) (.bool k.e.v)
  obtain ⟨h4, g4⟩ := World.ownsRow.stored h3 (j * 5 + 3) (.bool k.e.w)
  obtain ⟨h5, g5⟩ := World.ownsRow.stored h4 (j * 5 + 4) (.int .i64 k.e.a)
  rw [cellsK_set] at h5
  rw [List.length_set]
  exact ⟨h5, gbTrans (gbTrans (gbTrans (gbTrans g1 g2) g3) g4) g5⟩
/-- The front of a list is a list. -/
theorem KL.cutTo {tk : TypeId} {w : World} {B g n cap : Nat} {L : List K} (h : KL tk w B (.slice (some ⟨g, 0, none⟩) n cap) L) (hn : L.length = n) (i : Nat) (hi : i ≤ n) : KL tk w B (.slice (some ⟨g, 0, none⟩) i cap) (L.take i) := by
  obtain ⟨h1, h2⟩ := h
  rcases h2 with ⟨e, _⟩ | ⟨g', cap', cur, e, hb, hg, hc, hm, hs, ht⟩
  · cases e
  · cases e
    have hl : (L.take i).length = i := by rw [List.length_take]; omega
    refine ⟨by rw [cellsK_len], .inr ⟨g, cap, cur, by rw [hl], hb, hg, by rw [hl]; omega, hm, hs, ?_⟩⟩
    rw [hl]
    have e2 := cellsK_take L i
    rw [e2, ← ht, List.take_take, Nat.min_eq_left (by omega)]

/-! ### append, clear -/
theorem run_append_k {tl tk : TypeId} {i : TypeInfo} {z : Value} (ht : Try.prog.underlying tl = some (.slice tk)) (hi : Try.prog.info? tk = some i) (hz : i.zero = some z) (hs : i.size = 5) (hb : i.bytes = 32) (hc : z.cells.size = 5)
    (w : World) (B : Nat) (v : Value) (L : List K) (hown : KL tk w B v L) (ty : TypeId) (ad : Addr) (m c : Nat) (D : List K) (hm : D.length = m) (hx : ∀ j u, (cellsK D)[j]? = some u → w.cell? (ad.add j) = some u) (hn : L.length + m ≤ 100000) (hB : B ≤ w.heap.size) :
    ∃ v' w', (Builtin.append_ #[tl, tl] ty #[v, .slice (some ad) m c]).run Try.prog w = .ok v' w' ∧ KL tk w' B v' (L ++ D) ∧ w.grownBy w' v.ownBlock ∧ (v'.ownBlock = v.ownBlock ∨ v'.ownBlock = some w.heap.size) := by
  obtain ⟨v', w', h1, h2, h3, _, h5⟩ := run_append_own_at (P := Try.prog) w B tl ty tk i z 5 32 ht hi hz hs hb hc (by decide) v L.length (cellsK L) hown ad m c (cellsK D) (by rw [cellsK_len, hm]) hx (cellsK_one D) (by unfold maxLen; omega) (by omega) hB
  refine ⟨v', w', h1, ?_, h3, h5⟩
  unfold KL
  rw [← cellsK_app, List.length_append, hm]
  exact h2
/-- One element, in a block of its own. -/
abbrev fiveCells (k : K) : Array Value := #[.int .i64 k.s, .int .i64 k.p, .bool k.e.v, .bool k.e.w, .int .i64 k.e.a]
theorem rowK (w : World) (k : K) (t : TypeId) : ∀ j u, (cellsK [k])[j]? = some u → (w.alloc (.cells (fiveCells k) t)).cell? ((⟨w.heap.size, 0, none⟩ : Addr).add j) = some u := by
  intro j u h
  have hj : j < 5 := by have := (List.getElem?_eq_some_iff.1 h).1; rwa [cellsK_len] at this
  rw [Addr.add_lit, Nat.zero_add]
  have : j = 0 ∨ j = 1 ∨ j = 2 ∨ j = 3 ∨ j = 4 := by omega
  rcases this with rfl | rfl | rfl | rfl | rfl <;> (simp [cellsK] at h; subst h; simp)
theorem Kel.made (w : World) (k : K) (t : TypeId) : Kel (w.alloc (.cells (fiveCells k) t)) w.heap.size 0 k :=
  ⟨by simp, by simp, by simp, by simp, by simp, by simp, fun i => by simp⟩
theorem kelNew (w : World) (k : K) (t : TypeId) : ∃ W, w.alloc (.cells (fiveCells k) t) = W ∧ Kel W w.heap.size 0 k ∧ w.grownBy W none := ⟨_, rfl, Kel.made w k t, gbAlloc _ _ _⟩

theorem Try.infoKept : (Try.prog.info? 92).map (fun i => (i.zero, i.size, i.bytes)) = some (some (.agg #[.int .i64 0, .int .i64 0, .bool false, .bool false, .int .i64 0]), 5, 32) := by kernel_rfl
theorem Try.infoKeptR : (Try.prog.info? 95).map (fun i => (i.zero, i.size, i.bytes)) = some (some (.agg #[.int .i64 0, .int .i64 0, .bool false, .bool false, .int .i64 0]), 5, 32) := by kernel_rfl
theorem run_append_p (w : World) (B : Nat) (v : Value) (L : List K) (hown : KL 92 w B v L) (ty : TypeId) (ad : Addr) (m c : Nat) (D : List K) (hm : D.length = m) (hx : ∀ j u, (cellsK D)[j]? = some u → w.cell? (ad.add j) = some u) (hn : L.length + m ≤ 100000) (hB : B ≤ w.heap.size) :
    ∃ v' w', (Builtin.append_ #[77, 77] ty #[v, .slice (some ad) m c]).run Try.prog w = .ok v' w' ∧ KL 92 w' B v' (L ++ D) ∧ w.grownBy w' v.ownBlock ∧ (v'.ownBlock = v.ownBlock ∨ v'.ownBlock = some w.heap.size) := by
  obtain ⟨i, hi, hx0⟩ := Option.map_eq_some_iff.1 Try.infoKept
  simp only [Prod.mk.injEq] at hx0
  exact run_append_k Try.underlying77 hi hx0.1 hx0.2.1 hx0.2.2 (by kernel_rfl) w B v L hown ty ad m c D hm hx hn hB
theorem run_append_r (w : World) (B : Nat) (v : Value) (L : List K) (hown : KL 95 w B v L) (ty : TypeId) (ad : Addr) (m c : Nat) (D : List K) (hm : D.length = m) (hx : ∀ j u, (cellsK D)[j]? = some u → w.cell? (ad.add j) = some u) (hn : L.length + m ≤ 100000) (hB : B ≤ w.heap.size) :
    ∃ v' w', (Builtin.append_ #[31, 31] ty #[v, .slice (some ad) m c]).run Try.prog w = .ok v' w' ∧ KL 95 w' B v' (L ++ D) ∧ w.grownBy w' v.ownBlock ∧ (v'.ownBlock = v.ownBlock ∨ v'.ownBlock = some w.heap.size) := by
  obtain ⟨i, hi, hx0⟩ := Option.map_eq_some_iff.1 Try.infoKeptR
  simp only [Prod.mk.injEq] at hx0
  exact run_append_k Try.underlying31 hi hx0.1 hx0.2.1 hx0.2.2 (by kernel_rfl) w B v L hown ty ad m c D hm hx hn hB

abbrev zero5 : Array Value := #[.int .i64 0, .int .i64 0, .bool false, .bool false, .int .i64 0]
theorem zeroCells_one (n : Nat) : ∀ u ∈ (Builtin.zeroCells zero5 n).toList, u.oneCell' = true := by
  intro u hu
  unfold Builtin.zeroCells at hu
  simp only [Array.toList_map, List.mem_map] at hu
  obtain ⟨i, _, rfl⟩ := hu
  show (zero5[i % 5]!).oneCell' = true
  have : i % 5 = 0 ∨ i % 5 = 1 ∨ i % 5 = 2 ∨ i % 5 = 3 ∨ i % 5 = 4 := by omega
  rcases this with e | e | e | e | e <;> rw [e] <;> rfl
theorem zeroCells_len (n : Nat) : (Builtin.zeroCells zero5 n).toList.length = n * 5 := by rw [Array.length_toList, size_zeroCells]; rfl
/-- clear of the end of a list. -/
theorem run_clear_p (w : World) (ty : TypeId) (B g n cap i m c : Nat) (L : List K) (h : KL 92 w B (.slice (some ⟨g, 0, none⟩) n cap) L) (hn : L.length = n) (hi : i + m = n) (hm : 0 < m) :
    ∃ w', (Builtin.clear_ #[77] ty #[.slice (some ⟨g, i * 5, none⟩) m c]).run Try.prog w = .ok (.tuple #[]) w' ∧ Hid (KL 92 w' B (.slice (some ⟨g, 0, none⟩) i cap) (L.take i)) ∧ w.grownBy w' (some g) := by
  obtain ⟨j, hj, hx0⟩ := Option.map_eq_some_iff.1 Try.infoKept
  simp only [Prod.mk.injEq] at hx0
  obtain ⟨h1, h2⟩ := h
  rcases h2 with ⟨e, _⟩ | ⟨g', cap', cur, e, hb, hg, hc, hcm, hs, ht⟩
  · cases e
  · cases e
    have hl := zeroCells_len m
    have hst := run_storeCells_at Try.prog g (i * 5) 92 (Builtin.zeroCells zero5 m).toList 0 cur w hg (by rw [hl]; omega) (zeroCells_one m)
    simp only [Nat.add_zero] at hst
    obtain ⟨m', rfl⟩ : ∃ m', m = m' + 1 := ⟨m - 1, by omega⟩
    refine ⟨w.setRow g (splice cur.toList (i * 5) (Builtin.zeroCells zero5 (m' + 1)).toList).toArray, ?_, hideIt ⟨by rw [cellsK_len], .inr ⟨g, cap, _, ?_, hb, setRow_heap w g _ _ _ _ hg, ?_, hcm, ?_, ?_⟩⟩, ⟨rfl, rfl, rfl, by simp [World.setRow], fun k _ hk => setRow_other w g k _ (fun e => hk (by rw [e]))⟩⟩
    · simp [Builtin.clear_, run_underlying Try.underlying77, zeroValue, typeInfo, hj, hx0.1, Value.cells, hst, splice]
    · rw [List.length_take]; congr 1; omega
    · rw [List.length_take]; omega
    · rw [List.size_toArray, length_splice _ _ _ (by rw [hl, Array.length_toList]; omega), Array.length_toList]; exact hs
    · have e1 : (L.take i).length = i := by rw [List.length_take]; omega
      rw [e1, List.toList_toArray]
      unfold splice
      rw [List.take_append_of_le_length (by rw [List.length_take, Array.length_toList]; omega), List.take_take, Nat.min_self, cellsK_take, ← ht, List.take_take, Nat.min_eq_left (by omega)]
end Go.Proofs.Ytmmjmloaefcmmaa
