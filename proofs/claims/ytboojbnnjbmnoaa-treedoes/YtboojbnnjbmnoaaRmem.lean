/-
  THE DOCUMENT'S TREE IN MEMORY: a row of knots, three cells each. Speaks of no function.
-/
import Derived.Test.YtboojbnnjbmnoaaRep
import Derived.Test.YtboojbnnjbmnoaaFlat
namespace Go.Proofs.Ytboojbnnjbmnoaa
open Go.RowKit
set_option linter.unusedVariables false

abbrev Kn := (Int × Int) × Nat
def cells3 (L : List Kn) : List Value := L.flatMap fun p => [.int .i64 p.1.1, .int .i64 p.1.2, .int .i64 p.2]
theorem cells3_cons (p : Kn) (L : List Kn) : cells3 (p :: L) = .int .i64 p.1.1 :: .int .i64 p.1.2 :: .int .i64 p.2 :: cells3 L := rfl
theorem cells3_app (L K : List Kn) : cells3 L ++ cells3 K = cells3 (L ++ K) := by unfold cells3; simp
theorem cells3_len (L : List Kn) : (cells3 L).length = L.length * 3 := by
  induction L with
  | nil => rfl
  | cons p L ih => rw [cells3_cons]; simp [ih]; omega
theorem cells3_get (L : List Kn) (i : Nat) (p : Kn) (h : L[i]? = some p) : (cells3 L)[i * 3]? = some (.int .i64 p.1.1) ∧ (cells3 L)[i * 3 + 1]? = some (.int .i64 p.1.2) ∧ (cells3 L)[i * 3 + 2]? = some (.int .i64 p.2) := by
  induction L generalizing i with
  | nil => simp at h
  | cons q L ih =>
    rw [cells3_cons]
    cases i with
    | zero => simp at h; subst h; exact ⟨rfl, rfl, rfl⟩
    | succ i =>
      have := ih i (by simpa using h)
      rw [show (i + 1) * 3 = i * 3 + 1 + 1 + 1 by omega]
      simpa using this
theorem cells3_one (L : List Kn) : ∀ u ∈ cells3 L, u.oneCell' = true := by
  intro u hu
  unfold cells3 at hu
  simp only [List.mem_flatMap] at hu
  obtain ⟨p, _, hu⟩ := hu
  simp at hu
  rcases hu with rfl | rfl | rfl <;> rfl
theorem cells3_take : ∀ (L : List Kn) (i : Nat), cells3 (L.take i) = (cells3 L).take (i * 3)
  | [], i => by simp [cells3]
  | p :: L, 0 => by simp [cells3]
  | p :: L, i + 1 => by rw [List.take_succ_cons, cells3_cons, cells3_cons, show (i + 1) * 3 = i * 3 + 1 + 1 + 1 by omega, List.take_succ_cons, List.take_succ_cons, List.take_succ_cons, cells3_take L i]
theorem cells3_drop : ∀ (L : List Kn) (i : Nat), cells3 (L.drop i) = (cells3 L).drop (i * 3)
  | [], i => by simp [cells3]
  | p :: L, 0 => by simp
  | p :: L, i + 1 => by rw [List.drop_succ_cons, cells3_cons, show (i + 1) * 3 = i * 3 + 1 + 1 + 1 by omega, List.drop_succ_cons, List.drop_succ_cons, List.drop_succ_cons, cells3_drop L i]
theorem cells3_set (L : List Kn) (j : Nat) (A B : Int) (d : Nat) (h : ∀ p, L[j]? = some p → p.2 = d) : ((cells3 L).set (j * 3) (.int .i64 A)).set (j * 3 + 1) (.int .i64 B) = cells3 (L.set j ((A, B), d)) := by
  induction L generalizing j with
  | nil => simp [cells3]
  | cons q L ih =>
    cases j with
    | zero => have := h q rfl; simp [cells3_cons, this]
    | succ j =>
      rw [show (j + 1) * 3 = j * 3 + 1 + 1 + 1 by omega]
      simp only [List.set_cons_succ, cells3_cons]
      rw [ih j (fun p hp => h p (by simpa using hp))]

/-- A row of the call's own, or of a tree. -/
def Lst3 (w : World) (B : Nat) (v : Value) (L : List Kn) : Prop := w.ownsRow B 36 3 v L.length (cells3 L)
theorem Lst3.kept {w w' : World} {B : Nat} {v : Value} {L : List Kn} (h : Lst3 w B v L) (g : w.grownBy w' none) : Lst3 w' B v L :=
  World.ownsRow.kept h g (by cases v.ownBlock <;> simp)
theorem Lst3.lt {w : World} {B : Nat} {v : Value} {L : List Kn} (h : Lst3 w B v L) : ∀ k, v.ownBlock = some k → B ≤ k ∧ k < w.heap.size := World.ownsRow.lt h
theorem Lst3.fr {O : Nat → Prop} {w w' : World} {B : Nat} {v : Value} {L : List Kn} (h : Lst3 w B v L) (k : Fr O w w') (ho : ∀ g, v.ownBlock = some g → ¬ O g) : Lst3 w' B v L := by
  obtain ⟨h1, h2⟩ := h
  refine ⟨h1, ?_⟩
  rcases h2 with h2 | ⟨g, cap, cur, rfl, hb, hg, h3⟩
  · exact .inl h2
  · exact .inr ⟨g, cap, cur, rfl, hb, (k.block g (Array.getElem?_eq_some_iff.1 hg).1 (ho g rfl)).trans hg, h3⟩
theorem Lst3.zero {w : World} {B : Nat} {v : Value} {L : List Kn} (h : Lst3 w B v L) : Lst3 w 0 v L := by
  obtain ⟨h1, h2⟩ := h
  refine ⟨h1, ?_⟩
  rcases h2 with h2 | ⟨g, cap, cur, rfl, hb, hg, h3⟩
  · exact .inl h2
  · exact .inr ⟨g, cap, cur, rfl, Nat.zero_le _, hg, h3⟩
theorem Lst3.nil (w : World) (B : Nat) : Lst3 w B (.slice none 0 0) [] := World.ownsRow_nil w B _ 3
theorem Lst3.empty (w : World) : Lst3 (w.alloc (.cells #[] 36)) w.heap.size (.slice (some ⟨w.heap.size, 0, none⟩) 0 0) [] :=
  w.ownsRow_made (base := w.heap.size) (e := 36) (size := 3) #[] 0 (Nat.le_refl _) (by decide) (by simp)
/-- What it looks like. -/
theorem Lst3.form {w : World} {B n : Nat} {v : Value} {L : List Kn} (h : Lst3 w B v L) (hn : L.length = n) : (v = .slice none 0 0 ∧ n = 0) ∨ ∃ g cap, v = .slice (some ⟨g, 0, none⟩) n cap ∧ n ≤ cap := by
  subst hn
  rcases h.2 with ⟨rfl, hn⟩ | ⟨g, cap, cur, rfl, hB, hg, hn, hm, _, _⟩
  · exact .inl ⟨rfl, hn⟩
  · exact .inr ⟨g, cap, rfl, hn⟩
/-- The cells of an element. -/
theorem Lst3.el {w : World} {B g n cap : Nat} {L : List Kn} (h : Lst3 w B (.slice (some ⟨g, 0, none⟩) n cap) L) (hn : L.length = n) (j : Nat) (p : Kn) (hj : L[j]? = some p) :
    w.cell? ⟨g, j * 3, none⟩ = some (.int .i64 p.1.1) ∧ w.cell? ⟨g, j * 3 + 1, none⟩ = some (.int .i64 p.1.2) ∧ w.cell? ⟨g, j * 3 + 2, none⟩ = some (.int .i64 p.2) := by
  subst hn
  unfold Lst3 at h
  have hlt : j < L.length := (List.getElem?_eq_some_iff.1 hj).1
  obtain ⟨h1, h2, h3⟩ := cells3_get L j p hj
  exact ⟨(World.ownsRow.cellAt h _ (by omega)).trans h1, (World.ownsRow.cellAt h _ (by omega)).trans h2, (World.ownsRow.cellAt h _ (by omega)).trans h3⟩
theorem Lst3.frz {w : World} {B g n cap : Nat} {L : List Kn} (h : Lst3 w B (.slice (some ⟨g, 0, none⟩) n cap) L) (hn : L.length = n) (j : Nat) : w.frozen? ⟨g, j, none⟩ = false := by
  subst hn
  exact World.ownsRow.frozenAt h j
theorem Lst3.store {w : World} {B g n cap : Nat} {L : List Kn} (h : Lst3 w B (.slice (some ⟨g, 0, none⟩) n cap) L) (hn : L.length = n) (j : Nat) (A D : Int) (d : Nat) (hd : ∀ p, L[j]? = some p → p.2 = d) :
    Lst3 ((w.setCell ⟨g, j * 3, none⟩ (.int .i64 A)).setCell ⟨g, j * 3 + 1, none⟩ (.int .i64 D)) B (.slice (some ⟨g, 0, none⟩) n cap) (L.set j ((A, D), d)) := by
  subst hn
  unfold Lst3 at *
  have h1 := (World.ownsRow.stored h (j * 3) (.int .i64 A)).1
  have h2 := (World.ownsRow.stored h1 (j * 3 + 1) (.int .i64 D)).1
  rw [cells3_set L j A D d hd] at h2
  rw [List.length_set]; exact h2
/-- Cells from an address on. -/
def Row3 (w : World) (x : Addr) (L : List Kn) : Prop := ∀ j u, (cells3 L)[j]? = some u → w.cell? (x.add j) = some u
theorem Row3.kept {w w' : World} {x : Addr} {L : List Kn} (h : Row3 w x L) (g : w.grownBy w' none) : Row3 w' x L := fun j u hu => g.cell (h j u hu) (by simp)
theorem Lst3.front {w : World} {B g n cap : Nat} {L : List Kn} (h : Lst3 w B (.slice (some ⟨g, 0, none⟩) n cap) L) (hn : L.length = n) (i : Nat) : Row3 w ⟨g, 0, none⟩ (L.take i) := by
  subst hn
  intro j u hu
  rw [cells3_take, List.getElem?_take] at hu
  split at hu
  · have hj : j < L.length * 3 := by have := (List.getElem?_eq_some_iff.1 hu).1; rw [cells3_len] at this; exact this
    rw [Addr.add_lit, Nat.zero_add]
    exact (World.ownsRow.cellAt h _ hj).trans hu
  · cases hu
theorem Lst3.back {w : World} {B g n cap : Nat} {L : List Kn} (h : Lst3 w B (.slice (some ⟨g, 0, none⟩) n cap) L) (hn : L.length = n) (i : Nat) : Row3 w ⟨g, i * 3, none⟩ (L.drop i) := by
  subst hn
  intro j u hu
  rw [cells3_drop, List.getElem?_drop] at hu
  have hj : i * 3 + j < L.length * 3 := by have := (List.getElem?_eq_some_iff.1 hu).1; rw [cells3_len] at this; exact this
  rw [Addr.add_lit]
  exact (World.ownsRow.cellAt h _ hj).trans hu
theorem row3One (w : World) (a b : Int) (d : Nat) : Row3 (w.alloc (.cells #[.int .i64 a, .int .i64 b, .int .i64 d] 36)) ⟨w.heap.size, 0, none⟩ [((a, b), d)] := by
  intro j u hu
  have : cells3 [((a, b), d)] = [.int .i64 a, .int .i64 b, .int .i64 d] := rfl
  rw [this] at hu
  match j, hu with
  | 0, hu => simp at hu; subst hu; simp [Addr.add]
  | 1, hu => simp at hu; subst hu; simp [Addr.add]
  | 2, hu => simp at hu; subst hu; simp [Addr.add]
  | j + 3, hu => simp at hu

theorem Try.infoKnot : (Try.prog.info? 36).map (fun i => (i.zero, i.size, i.bytes)) = some (some (.agg #[.int .i64 0, .int .i64 0, .int .i64 0]), 3, 24) := by kernel_rfl
theorem run_append3 (w : World) (B : Nat) (v : Value) (l : List Kn) (hown : Lst3 w B v l) (ty : TypeId) (ox : Option Addr) (m c : Nat) (k : List Kn) (hm : k.length = m) (hno : ox = none → m = 0) (hx : ∀ ad, ox = some ad → Row3 w ad k) (hn : l.length + m ≤ 100000) (hB : B ≤ w.heap.size) :
    ∃ v' w', (Builtin.append_ #[26, 26] ty #[v, .slice ox m c]).run Try.prog w = .ok v' w' ∧ Lst3 w' B v' (l ++ k) ∧ w.grownBy w' v.ownBlock ∧ (v'.ownBlock = v.ownBlock ∨ v'.ownBlock = some w.heap.size) := by
  obtain ⟨i, hi, hx0⟩ := Option.map_eq_some_iff.1 Try.infoKnot
  simp only [Prod.mk.injEq] at hx0
  obtain ⟨hz0, hz1, hz2⟩ := hx0
  cases ox with
  | some ad =>
    obtain ⟨v', w', h1, h2, h3, _, h5⟩ := run_append_own_at (P := Try.prog) w B 26 ty 36 i (.agg #[.int .i64 0, .int .i64 0, .int .i64 0]) 3 24 Try.underlying26 hi hz0 hz1 hz2 (by kernel_rfl) (by decide) v l.length (cells3 l) hown ad m c (cells3 k) (by rw [cells3_len, hm]) (hx ad rfl) (cells3_one k) (by unfold maxLen; omega) (by omega) hB
    refine ⟨v', w', h1, ?_, h3, h5⟩
    unfold Lst3
    rw [← cells3_app, List.length_append, hm]
    exact h2
  | none =>
    obtain rfl : m = 0 := hno rfl
    obtain rfl : k = [] := List.eq_nil_of_length_eq_zero hm
    refine ⟨v, w, ?_, by rw [List.append_nil]; exact hown, gbRefl _ _, .inl rfl⟩
    rcases hown.2 with ⟨rfl, _⟩ | ⟨g, cap, cur, rfl, _, _, hnc, _⟩
    · simp [Builtin.append_, run_underlying Try.underlying26, sizeOf, typeInfo, hi, Builtin.lenOf, Builtin.firstCells]
    · have : l.length + 0 ≤ cap := by omega
      simp [Builtin.append_, run_underlying Try.underlying26, sizeOf, typeInfo, hi, Builtin.lenOf, Builtin.firstCells, storeCells, hnc]
theorem wpList_append3 {w : World} {ops : Array Oper} {rest : List Oper} {o : Oper} {a : Act} {Q : Exit → Act → World → Prop} (hgd : o.guard = none) (s x : Operand)
    (ho : o.op = .call { callee := .builtin .append, args := #[s, x], argTypes := #[26, 26] })
    (B : Nat) (v : Value) (l : List Kn) (hs : a.eval s = v) (hown : Lst3 w B v l) (ox : Option Addr) (m c : Nat) (k : List Kn) (hx : a.eval x = .slice ox m c) (hm : k.length = m) (hno : ox = none → m = 0) (hxc : ∀ ad, ox = some ad → Row3 w ad k)
    (hn : l.length + m ≤ 100000) (hB : B ≤ w.heap.size)
    (h : ∀ v' w', Lst3 w' B v' (l ++ k) → w.grownBy w' v.ownBlock → (v'.ownBlock = v.ownBlock ∨ v'.ownBlock = some w.heap.size) → wpList Try.prog ops Q rest (a.put o.dst v') w') : wpList Try.prog ops Q (o :: rest) a w := by
  refine wpList_plain hgd fun K' hK' => ?_
  obtain ⟨v', w', hr, h1, h2, h3⟩ := run_append3 w B v l hown o.type ox m c k hm hno hxc hn hB
  unfold Oper.wp execOp
  simp only [ho, resolve, invoke, builtin, Sem.run_bind, Sem.run_pure, Result.andThen_ok, List.map_toArray, List.map_cons, List.map_nil, hs, hx, hr]
  exact hK' _ _ (h v' w' h1 h2 h3)

/-- The tree's block, and its row. -/
structure RA (w : World) (p : Nat) (v : Value) (L : List Kn) : Prop where
  box : w.heap[p]? = some (.cells #[v] 28)
  row : Lst3 w 0 v L
theorem RA.plt {w : World} {p : Nat} {v : Value} {L : List Kn} (h : RA w p v L) : p < w.heap.size := (Array.getElem?_eq_some_iff.1 h.box).1
theorem RA.cell {w : World} {p : Nat} {v : Value} {L : List Kn} (h : RA w p v L) : w.cell? ⟨p, 0, none⟩ = some v := by simp [World.cell?, h.box]
theorem RA.frz {w : World} {p : Nat} {v : Value} {L : List Kn} (h : RA w p v L) (i : Nat) : w.frozen? ⟨p, i, none⟩ = false := by simp [World.frozen?, h.box]
theorem RA.gp {w : World} {p g : Nat} {v : Value} {L : List Kn} (h : RA w p v L) (hg : v.ownBlock = some g) : g ≠ p := by
  rintro rfl
  rcases h.row.2 with ⟨rfl, _⟩ | ⟨g', cap, cur, rfl, _, hb, _⟩
  · cases hg
  · cases hg
    have := h.box
    rw [hb] at this; cases this
theorem RA.fr {O : Nat → Prop} {w w' : World} {p : Nat} {v : Value} {L : List Kn} (h : RA w p v L) (k : Fr O w w') (op : ¬ O p) (og : ∀ g, v.ownBlock = some g → ¬ O g) : RA w' p v L := ⟨(k.block p h.plt op).trans h.box, h.row.fr k og⟩
theorem RA.kept {w w' : World} {p : Nat} {v : Value} {L : List Kn} (h : RA w p v L) (g : w.grownBy w' none) : RA w' p v L := h.fr (O := fun _ => False) (Fr.grown g) (fun e => e) (fun _ _ e => e)
/-- Another row is stored. -/
theorem RA.store {w w1 : World} {p : Nat} {v v' : Value} {L L' : List Kn} (h : RA w p v L) (g : w.grownBy w1 none) (l : Lst3 w1 0 v' L') (hl : ∀ g, v'.ownBlock = some g → w.heap.size ≤ g) : RA (w1.setCell ⟨p, 0, none⟩ v') p v' L' ∧ w1.grownBy (w1.setCell ⟨p, 0, none⟩ v') (some p) := by
  have h1 := h.kept g
  have hg := gbSetCell w1 p 0 v'
  refine ⟨⟨?_, l.fr (O := fun i => i = p) (Fr.at hg rfl) (fun g' e e2 => by have := hl g' e; have := h.plt; omega)⟩, hg⟩
  exact blkSet h1.box 0 v'

/-- The document's tree, whose blocks are among O. -/
def RAt (w : World) (p : Nat) (O : Nat → Prop) (f : Fo) : Prop := ∃ v, RA w p v (f.flat 0) ∧ O p ∧ ∀ g, v.ownBlock = some g → O g
theorem RAt.fr {O O' : Nat → Prop} {w w' : World} {p : Nat} {f : Fo} (h : RAt w p O f) (k : Fr O' w w') (ho : ∀ i, O i → ¬ O' i) : RAt w' p O f := by
  obtain ⟨v, h1, h2, h3⟩ := h
  exact ⟨v, h1.fr k (ho _ h2) (fun g hg => ho _ (h3 g hg)), h2, h3⟩
theorem RAt.kept {O : Nat → Prop} {w w' : World} {p : Nat} {f : Fo} (h : RAt w p O f) (k : w.grownBy w' none) : RAt w' p O f := h.fr (O' := fun _ => False) (Fr.grown k) (fun _ _ e => e)
theorem RAt.mono {O O' : Nat → Prop} {w : World} {p : Nat} {f : Fo} (h : RAt w p O f) (ho : ∀ i, O i → O' i) : RAt w p O' f := by
  obtain ⟨v, h1, h2, h3⟩ := h
  exact ⟨v, h1, ho _ h2, fun g hg => ho _ (h3 g hg)⟩

end Go.Proofs.Ytboojbnnjbmnoaa
