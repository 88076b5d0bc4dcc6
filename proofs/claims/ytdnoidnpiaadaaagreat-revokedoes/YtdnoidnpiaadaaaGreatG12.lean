/-
  THE DOCUMENT'S TREE IN MEMORY: a row of knots, three cells each. Speaks of no function.
-/
import Derived.Test.YtdnoidnpiaadaaaGreatTRep
import Derived.Test.YtdnoidnpiaadaaaGreatG11
namespace Go.Proofs.YtdnoidnpiaadaaaGreat
set_option maxRecDepth 10000
namespace T9
open Go.RowKit
set_option linter.unusedVariables false
variable {u : Value} {tc : TypeId}

abbrev Kn := (Int × Int) × Nat
def cells3 (L : List Kn) : List Value := L.flatMap fun p => [.int .i64 p.1.1, .int .i64 p.1.2, .int .i64 p.2]
theorem cells3_cons (p : Kn) (L : List Kn) : cells3 (p :: L) = .int .i64 p.1.1 :: .int .i64 p.1.2 :: .int .i64 p.2 :: cells3 L := rfl
theorem cells3_app (L K : List Kn) : cells3 L ++ cells3 K = cells3 (L ++ K) := by unfold cells3; simp
theorem cells3_len (L : List Kn) : (cells3 L).length = L.length * 3 := by
  induction L with
  | nil => rfl
  | cons p L ih => rw [cells3_cons]; simp [ih]; omega
theorem cells3_get (L : List Kn) (i : Nat) (p : Kn) (h : L[i]? = some p) : (cells3 L)[i * 3]? = some (.int .i64 p.1.1) ∧ (cells3 L)[i * 3 + 1]? = some (.int .i64 p.1.2) ∧ (cells3 L)[i * 3 + 2]? = some (.int .i64 p.2) := by
  induction L generalizing i with
  | nil => simp at h
  | cons q L ih =>
    rw [cells3_cons]
    cases i with
    | zero => simp at h; subst h; exact ⟨rfl, rfl, rfl⟩
    | succ i =>
      have := ih i (by simpa using h)
      rw [show (i + 1) * 3 = i * 3 + 1 + 1 + 1 by omega]
      simpa using this
theorem cells3_one (L : List Kn) : ∀ u ∈ cells3 L, u.oneCell' = true := by
  intro u hu
  unfold cells3 at hu
  simp only [List.mem_flatMap] at hu
  obtain ⟨p, _, hu⟩ := hu
  simp at hu
  rcases hu with rfl | rfl | rfl <;> rfl
theorem cells3_take : ∀ (L : List Kn) (i : Nat), cells3 (L.take i) = (cells3 L).take (i * 3)
  | [], i => by simp [cells3]
  | p :: L, 0 => by simp [cells3]
  | p :: L, i + 1 => by rw [List.take_succ_cons, cells3_cons, cells3_cons, show (i + 1) * 3 = i * 3 + 1 + 1 + 1 by omega, List.take_succ_cons, List.take_succ_cons, List.take_succ_cons, cells3_take L i]
theorem cells3_drop : ∀ (L : List Kn) (i : Nat), cells3 (L.drop i) = (cells3 L).drop (i * 3)
  | [], i => by simp [cells3]
  | p :: L, 0 => by simp
  | p :: L, i + 1 => by rw [List.drop_succ_cons, cells3_cons, show (i + 1) * 3 = i * 3 + 1 + 1 + 1 by omega, List.drop_succ_cons, List.drop_succ_cons, List.drop_succ_cons, cells3_drop L i]
theorem cells3_set (L : List Kn) (j : Nat) (A B : Int) (d : Nat) (h : ∀ p, L[j]? = some p → p.2 = d) : ((cells3 L).set (j * 3) (.int .i64 A)).set (j * 3 + 1) (.int .i64 B) = cells3 (L.set j ((A, B), d)) := by
  induction L generalizing j with
  | nil => simp [cells3]
  | cons q L ih =>
    cases j with
    | zero => have := h q rfl; simp [cells3_cons, this]
    | succ j =>
      rw [show (j + 1) * 3 = j * 3 + 1 + 1 + 1 by omega]
      simp only [List.set_cons_succ, cells3_cons]
      rw [ih j (fun p hp => h p (by simpa using hp))]

/-- A row of the call's own, or of a tree. -/
def Lst3 (w : World) (B : Nat) (v : Value) (L : List Kn) : Prop := w.ownsRow B 104 3 v L.length (cells3 L)
theorem Lst3.kept {w w' : World} {B : Nat} {v : Value} {L : List Kn} (h : Lst3 w B v L) (g : w.grownBy w' none) : Lst3 w' B v L :=
  World.ownsRow.kept h g (by cases v.ownBlock <;> simp)
theorem Lst3.lt {w : World} {B : Nat} {v : Value} {L : List Kn} (h : Lst3 w B v L) : ∀ k, v.ownBlock = some k → B ≤ k ∧ k < w.heap.size := World.ownsRow.lt h
theorem Lst3.fr {O : Nat → Prop} {w w' : World} {B : Nat} {v : Value} {L : List Kn} (h : Lst3 w B v L) (k : Fr O w w') (ho : ∀ g, v.ownBlock = some g → ¬ O g) : Lst3 w' B v L := by
  obtain ⟨h1, h2⟩ := h
  refine ⟨h1, ?_⟩
  rcases h2 with h2 | ⟨g, cap, cur, rfl, hb, hg, h3⟩
  · exact .inl h2
  · exact .inr ⟨g, cap, cur, rfl, hb, (k.block g (Array.getElem?_eq_some_iff.1 hg).1 (ho g rfl)).trans hg, h3⟩
theorem Lst3.zero {w : World} {B : Nat} {v : Value} {L : List Kn} (h : Lst3 w B v L) : Lst3 w 0 v L := by
  obtain ⟨h1, h2⟩ := h
  refine ⟨h1, ?_⟩
  rcases h2 with h2 | ⟨g, cap, cur, rfl, hb, hg, h3⟩
  · exact .inl h2
  · exact .inr ⟨g, cap, cur, rfl, Nat.zero_le _, hg, h3⟩
theorem Lst3.nil (w : World) (B : Nat) : Lst3 w B (.slice none 0 0) [] := World.ownsRow_nil w B _ 3
theorem Lst3.empty (w : World) : Lst3 (w.alloc (.cells #[] 104)) w.heap.size (.slice (some ⟨w.heap.size, 0, none⟩) 0 0) [] :=
  w.ownsRow_made (base := w.heap.size) (e := 104) (size := 3) #[] 0 (Nat.le_refl _) (by decide) (by simp)
/-- What it looks like. -/
theorem Lst3.form {w : World} {B n : Nat} {v : Value} {L : List Kn} (h : Lst3 w B v L) (hn : L.length = n) : (v = .slice none 0 0 ∧ n = 0) ∨ ∃ g cap, v = .slice (some ⟨g, 0, none⟩) n cap ∧ n ≤ cap := by
  subst hn
  rcases h.2 with ⟨rfl, hn⟩ | ⟨g, cap, cur, rfl, hB, hg, hn, hm, _, _⟩
  · exact .inl ⟨rfl, hn⟩
  · exact .inr ⟨g, cap, rfl, hn⟩
/-- The cells of an element. -/
theorem Lst3.el {w : World} {B g n cap : Nat} {L : List Kn} (h : Lst3 w B (.slice (some ⟨g, 0, none⟩) n cap) L) (hn : L.length = n) (j : Nat) (p : Kn) (hj : L[j]? = some p) :
    w.cell? ⟨g, j * 3, none⟩ = some (.int .i64 p.1.1) ∧ w.cell? ⟨g, j * 3 + 1, none⟩ = some (.int .i64 p.1.2) ∧ w.cell? ⟨g, j * 3 + 2, none⟩ = some (.int .i64 p.2) := by
  subst hn
  unfold Lst3 at h
  have hlt : j < L.length := (List.getElem?_eq_some_iff.1 hj).1
  obtain ⟨h1, h2, h3⟩ := cells3_get L j p hj
  exact ⟨(World.ownsRow.cellAt h _ (by omega)).trans h1, (World.ownsRow.cellAt h _ (by omega)).trans h2, (World.ownsRow.cellAt h _ (by omega)).trans h3⟩
theorem Lst3.frz {w : World} {B g n cap : Nat} {L : List Kn} (h : Lst3 w B (.slice (some ⟨g, 0, none⟩) n cap) L) (hn : L.length = n) (j : Nat) : w.frozen? ⟨g, j, none⟩ = false := by
  subst hn
  exact World.ownsRow.frozenAt h j
theorem Lst3.store {w : World} {B g n cap : Nat} {L : List Kn} (h : Lst3 w B (.slice (some ⟨g, 0, none⟩) n cap) L) (hn : L.length = n) (j : Nat) (A D : Int) (d : Nat) (hd : ∀ p, L[j]? = some p → p.2 = d) :
    Lst3 ((w.setCell ⟨g, j * 3, none⟩ (.int .i64 A)).setCell ⟨g, j * 3 + 1, none⟩ (.int .i64 D)) B (.slice (some ⟨g, 0, none⟩) n cap) (L.set j ((A, D), d)) := by
  subst hn
  unfold Lst3 at *
  have h1 := (World.ownsRow.stored h (j * 3) (.int .i64 A)).1
  have h2 := (World.ownsRow.stored h1 (j * 3 + 1) (.int .i64 D)).1
  rw [cells3_set L j A D d hd] at h2
  rw [List.length_set]; exact h2
/-- Cells from an address on. -/
def Row3 (w : World) (x : Addr) (L : List Kn) : Prop := ∀ j u, (cells3 L)[j]? = some u → w.cell? (x.add j) = some u
theorem Row3.kept {w w' : World} {x : Addr} {L : List Kn} (h : Row3 w x L) (g : w.grownBy w' none) : Row3 w' x L := fun j u hu => g.cell (h j u hu) (by simp)
theorem Lst3.front {w : World} {B g n cap : Nat} {L : List Kn} (h : Lst3 w B (.slice (some ⟨g, 0, none⟩) n cap) L) (hn : L.length = n) (i : Nat) : Row3 w ⟨g, 0, none⟩ (L.take i) := by
  subst hn
  intro j u hu
  rw [cells3_take, List.getElem?_take] at hu
  split at hu
  · have hj : j < L.length * 3 := by have := (List.getElem?_eq_some_iff.1 hu).1; rw [cells3_len] at this; exact this
    rw [Addr.add_lit, Nat.zero_add]
    exact (World.ownsRow.cellAt h _ hj).trans hu
  · cases hu
theorem Lst3.back {w : World} {B g n cap : Nat} {L : List Kn} (h : Lst3 w B (.slice (some ⟨g, 0, none⟩) n cap) L) (hn : L.length = n) (i : Nat) : Row3 w ⟨g, i * 3, none⟩ (L.drop i) := by
  subst hn
  intro j u hu
  rw [cells3_drop, List.getElem?_drop] at hu
  have hj : i * 3 + j < L.length * 3 := by have := (List.getElem?_eq_some_iff.1 hu).1; rw [cells3_len] at this; exact this
  rw [Addr.add_lit]
  exact (World.ownsRow.cellAt h _ hj).trans hu
theorem row3One (w : World) (a b : Int) (d : Nat) : Row3 (w.alloc (.cells #[.int .i64 a, .int .i64 b, .int .i64 d] 104)) ⟨w.heap.size, 0, none⟩ [((a, b), d)] := by
  intro j u hu
  have : cells3 [((a, b), d)] = [.int .i64 a, .int .i64 b, .int .i64 d] := rfl
  rw [this] at hu
  match j, hu with
  | 0, hu => simp at hu; subst hu; simp [Addr.add]
  | 1, hu => simp at hu; subst hu; simp [Addr.add]
  | 2, hu => simp at hu; subst hu; simp [Addr.add]
  | j + 3, hu => simp at hu

theorem Tryz.infoKnot : (Tryz.prog.info? 104).map (fun i => (i.zero, i.size, i.bytes)) = some (some (.agg #[.int .i64 0, .int .i64 0, .int .i64 0]), 3, 24) := by kernel_rfl
theorem run_append3 (w : World) (B : Nat) (v : Value) (l : List Kn) (hown : Lst3 w B v l) (ty : TypeId) (ox : Option Addr) (m c : Nat) (k : List Kn) (hm : k.length = m) (hno : ox = none → m = 0) (hx : ∀ ad, ox = some ad → Row3 w ad k) (hn : l.length + m ≤ 100000) (hB : B ≤ w.heap.size) :
    ∃ v' w', (Builtin.append_ #[44, 44] ty #[v, .slice ox m c]).run Tryz.prog w = .ok v' w' ∧ Lst3 w' B v' (l ++ k) ∧ w.grownBy w' v.ownBlock ∧ (v'.ownBlock = v.ownBlock ∨ v'.ownBlock = some w.heap.size) := by
  obtain ⟨i, hi, hx0⟩ := Option.map_eq_some_iff.1 Tryz.infoKnot
  simp only [Prod.mk.injEq] at hx0
  obtain ⟨hz0, hz1, hz2⟩ := hx0
  cases ox with
  | some ad =>
    obtain ⟨v', w', h1, h2, h3, _, h5⟩ := run_append_own_at (P := Tryz.prog) w B 44 ty 104 i (.agg #[.int .i64 0, .int .i64 0, .int .i64 0]) 3 24 Tryz.underlying44 hi hz0 hz1 hz2 (by kernel_rfl) (by decide) v l.length (cells3 l) hown ad m c (cells3 k) (by rw [cells3_len, hm]) (hx ad rfl) (cells3_one k) (by unfold maxLen; omega) (by omega) hB
    refine ⟨v', w', h1, ?_, h3, h5⟩
    unfold Lst3
    rw [← cells3_app, List.length_append, hm]
    exact h2
  | none =>
    obtain rfl : m = 0 := hno rfl
    obtain rfl : k = [] := List.eq_nil_of_length_eq_zero hm
    refine ⟨v, w, ?_, by rw [List.append_nil]; exact hown, gbRefl _ _, .inl rfl⟩
    rcases hown.2 with ⟨rfl, _⟩ | ⟨g, cap, cur, rfl, _, _, hnc, _⟩
    · simp [Builtin.append_, run_underlying Tryz.underlying44, sizeOf, typeInfo, hi, Builtin.lenOf, Builtin.firstCells]
    · have : l.length + 0 ≤ cap := by omega
      simp [Builtin.append_, run_underlying Tryz.underlying44, sizeOf, typeInfo, hi, Builtin.lenOf, Builtin.firstCells, storeCells, hnc]
theorem wpList_append3 {w : World} {ops : Array Oper} {rest : List Oper} {o : Oper} {a : Act} {Q : Exit → Act → World → Prop} (hgd : o.guard = none) (s x : Operand)
    (ho : o.op = .call { callee := .builtin .append, args := #[s, x], argTypes := #[44, 44] })
    (B : Nat) (v : Value) (l : List Kn) (hs : a.eval s = v) (hown : Lst3 w B v l) (ox : Option Addr) (m c : Nat) (k : List Kn) (hx : a.eval x = .slice ox m c) (hm : k.length = m) (hno : ox = none → m = 0) (hxc : ∀ ad, ox = some ad → Row3 w ad k)
    (hn : l.length + m ≤ 100000) (hB : B ≤ w.heap.size)
    (h : ∀ v' w', Lst3 w' B v' (l ++ k) → w.grownBy w' v.ownBlock → (v'.ownBlock = v.ownBlock ∨ v'.ownBlock = some w.heap.size) → wpList Tryz.prog ops Q rest (a.put o.dst v') w') : wpList Tryz.prog ops Q (o :: rest) a w := by
  refine wpList_plain hgd fun K' hK' => ?_
  obtain ⟨v', w', hr, h1, h2, h3⟩ := run_append3 w B v l hown o.type ox m c k hm hno hxc hn hB
  unfold Oper.wp execOp
  simp only [ho, resolve, invoke, builtin, Sem.run_bind, Sem.run_pure, Result.andThen_ok, List.map_toArray, List.map_cons, List.map_nil, hs, hx, hr]
  exact hK' _ _ (h v' w' h1 h2 h3)

/-- The tree's block, and its row. -/
structure RA (u : Value) (tc : TypeId) (w : World) (p : Nat) (v : Value) (L : List Kn) : Prop where
  box : w.heap[p]? = some (.cells #[u, v] tc)
  row : Lst3 w 0 v L
theorem RA.plt {w : World} {p : Nat} {v : Value} {L : List Kn} (h : RA u tc w p v L) : p < w.heap.size := (Array.getElem?_eq_some_iff.1 h.box).1
theorem RA.cell {w : World} {p : Nat} {v : Value} {L : List Kn} (h : RA u tc w p v L) : w.cell? ⟨p, 1, none⟩ = some v := by simp [World.cell?, h.box]
theorem RA.frz {w : World} {p : Nat} {v : Value} {L : List Kn} (h : RA u tc w p v L) (i : Nat) : w.frozen? ⟨p, i, none⟩ = false := by simp [World.frozen?, h.box]
theorem RA.gp {w : World} {p g : Nat} {v : Value} {L : List Kn} (h : RA u tc w p v L) (hg : v.ownBlock = some g) : g ≠ p := by
  rintro rfl
  rcases h.row.2 with ⟨rfl, _⟩ | ⟨g', cap, cur, rfl, _, hb, _, _, hs, _⟩
  · cases hg
  · cases hg
    have := h.box
    rw [hb] at this; cases this; simp at hs; omega
theorem RA.fr {O : Nat → Prop} {w w' : World} {p : Nat} {v : Value} {L : List Kn} (h : RA u tc w p v L) (k : Fr O w w') (op : ¬ O p) (og : ∀ g, v.ownBlock = some g → ¬ O g) : RA u tc w' p v L := ⟨(k.block p h.plt op).trans h.box, h.row.fr k og⟩
theorem RA.kept {w w' : World} {p : Nat} {v : Value} {L : List Kn} (h : RA u tc w p v L) (g : w.grownBy w' none) : RA u tc w' p v L := h.fr (O := fun _ => False) (Fr.grown g) (fun e => e) (fun _ _ e => e)
/-- Another row is stored. -/
theorem RA.store {w w1 : World} {p : Nat} {v v' : Value} {L L' : List Kn} (h : RA u tc w p v L) (g : w.grownBy w1 none) (l : Lst3 w1 0 v' L') (hl : ∀ g, v'.ownBlock = some g → w.heap.size ≤ g) : RA u tc (w1.setCell ⟨p, 1, none⟩ v') p v' L' ∧ w1.grownBy (w1.setCell ⟨p, 1, none⟩ v') (some p) := by
  have h1 := h.kept g
  have hg := gbSetCell w1 p 1 v'
  refine ⟨⟨?_, l.fr (O := fun i => i = p) (Fr.at hg rfl) (fun g' e e2 => by have := hl g' e; have := h.plt; omega)⟩, hg⟩
  exact blkSet h1.box 1 v'

/-- The document's tree, whose blocks are among O. -/
def RAt (u : Value) (tc : TypeId) (w : World) (p : Nat) (O : Nat → Prop) (f : Fo) : Prop := ∃ v, RA u tc w p v (f.flat 0) ∧ O p ∧ ∀ g, v.ownBlock = some g → O g
theorem RAt.fr {O O' : Nat → Prop} {w w' : World} {p : Nat} {f : Fo} (h : RAt u tc w p O f) (k : Fr O' w w') (ho : ∀ i, O i → ¬ O' i) : RAt u tc w' p O f := by
  obtain ⟨v, h1, h2, h3⟩ := h
  exact ⟨v, h1.fr k (ho _ h2) (fun g hg => ho _ (h3 g hg)), h2, h3⟩
theorem RAt.kept {O : Nat → Prop} {w w' : World} {p : Nat} {f : Fo} (h : RAt u tc w p O f) (k : w.grownBy w' none) : RAt u tc w' p O f := h.fr (O' := fun _ => False) (Fr.grown k) (fun _ _ e => e)
theorem RAt.mono {O O' : Nat → Prop} {w : World} {p : Nat} {f : Fo} (h : RAt u tc w p O f) (ho : ∀ i, O i → O' i) : RAt u tc w p O' f := by
  obtain ⟨v, h1, h2, h3⟩ := h
  exact ⟨v, h1, ho _ h2, fun g hg => ho _ (h3 g hg)⟩

end T9
end Go.Proofs.YtdnoidnpiaadaaaGreat

/-
  THE DOCUMENT'S SIDE (donjonref09): at, end, put.
-/
namespace Go.Proofs.YtdnoidnpiaadaaaGreat
set_option maxRecDepth 10000
namespace T9
open Go.RowKit
set_option linter.unusedVariables false
variable {u : Value} {tc : TypeId}

theorem Lst3.any {w : World} {B n : Nat} {v : Value} {L : List Kn} (h : Lst3 w B v L) (hn : L.length = n) : ∃ x y, v = .slice x n y := by
  rcases h.form hn with ⟨e, e2⟩ | ⟨g, cap, e, _⟩
  · exact ⟨none, 0, by rw [e, e2]⟩
  · exact ⟨_, _, e⟩
theorem RA.some {w : World} {p n cap j : Nat} {xo : Option Addr} {L : List Kn} (h : RA u tc w p (.slice xo n cap) L) (hn : L.length = n) (hj : j < n) : ∃ g, xo = some ⟨g, 0, none⟩ := by
  rcases h.row.form hn with ⟨e, e2⟩ | ⟨g, c, e, _⟩
  · omega
  · simp only [Value.slice.injEq] at e; exact ⟨g, e.1⟩

set_option maxHeartbeats 1000000 in
theorem rat_yes {w : World} {p n cap j : Nat} {xo : Option Addr} {L : List Kn} (H : Hid (RA u tc w p (.slice xo n cap) L)) (hn : Hid (L.length = n)) (hn2 : n ≤ 1000) (a b : Int) (d : Nat) (hj : Hid (L[j]? = some ((a, b), d))) (hf : Hid (∀ i x, i < j → L[i]? = some x → x.1 ≠ (a, b))) :
    Calls Tryz.prog 60 #[.pointer (some ⟨p, 1, none⟩), sv a b] w fun e w' => e = .returned (.int .i64 j) ∧ w.grownBy w' none := by
  have qe := eqGuardSlots
  have qq := run_eql_slots
  have hjn : j < n := by rw [← hn.out]; exact (List.getElem?_eq_some_iff.1 hj.out).1
  go_enter Tryz.func60, Tryz.ntmps60
  go_upto_region 1 with fail
  obtain ⟨W, hW, X, g0⟩ := sboxNew w a b
  rw [hW]
  clear hW
  go_wp2
  go_loopg [5] (j + 1) (fun y i wr => ∃ c : Nat, c + y = j + 1 ∧ c ≤ j ∧ i = .int .i64 c ∧ W.grownBy wr none)
  case atStart => exact ⟨0, by omega, by omega, rfl, gbRefl _ _⟩
  case round =>
    obtain ⟨c, hc, hcj, rfl, gw⟩ := hrel
    have hlt' : (c : Int) < (n : Int) := by omega
    obtain ⟨⟨⟨p1, p2⟩, d2⟩, hp⟩ : ∃ q, L[c]? = some q := ⟨_, List.getElem?_eq_getElem (by rw [hn.out]; omega)⟩
    obtain ⟨g, rfl⟩ := H.out.some hn.out (show c < n by omega)
    have c0 := (H.out.kept (gbTrans g0 gw)).cell
    have E := fun y : Gr wr => (H.out.kept (gbTrans (gbTrans g0 gw) y.g)).row.el hn.out c _ hp
    simp only at E
    have k0 : ∀ y : Gr wr, y.w.cell? ⟨p, 1, none⟩ = some (.slice (some ⟨g, 0, none⟩) n cap) := fun y => (H.out.kept (gbTrans (gbTrans g0 gw) y.g)).cell
    have e0 := fun y => (E y).1
    have e1 := fun y => (E y).2.1
    have x0 : ∀ y : Gr wr, y.w.cell? ⟨w.heap.size, 0, none⟩ = some (.int .i64 a) := fun y => ((X.kept gw).kept y.g).at0
    have x1 : ∀ y : Gr wr, y.w.cell? ⟨w.heap.size, 1, none⟩ = some (.int .i64 b) := fun y => ((X.kept gw).kept y.g).at1
    by_cases ej : c = j
    · subst ej
      have hs : M.seq p1 p2 a b = true := M.seq_iff.2 (by have := hj.out; rw [hp] at this; simp at this; rw [this.1.1, this.1.2])
      clear hp E
      go_wp2
      refine wp_region_grown (by kernel_rfl) (by kernel_rfl) fun _ => ?_
      repeat (go_big_quiet_step (fail))
      refine wpQuiet_nil ?_
      rintro w2 ⟨⟨_, g2⟩, rfl⟩
      go_wp2
      go_ret
      exact ⟨rfl, gbTrans g0 (gbTrans gw g2)⟩
    · have hs : M.seq p1 p2 a b = false := M.seq_not.2 (hf.out c _ (by omega) hp)
      clear hp E
      go_wp2
      refine wp_region_grown (by kernel_rfl) (by kernel_rfl) fun _ => ?_
      repeat (go_big_quiet_step (fail))
      refine wpQuiet_nil ?_
      rintro w2 ⟨⟨_, g2⟩, rfl⟩
      go_wp2
      go_roundg (gk - 1)
      case rel => exact ⟨c + 1, by omega, by omega, by go_num, gbTrans gw g2⟩
      case measure => omega

set_option maxHeartbeats 1000000 in
theorem rat_no {w : World} {p n cap : Nat} {xo : Option Addr} {L : List Kn} (H : Hid (RA u tc w p (.slice xo n cap) L)) (hn : Hid (L.length = n)) (hn2 : n ≤ 1000) (a b : Int) (hf : Hid (∀ x ∈ L, x.1 ≠ (a, b))) :
    Calls Tryz.prog 60 #[.pointer (some ⟨p, 1, none⟩), sv a b] w fun e w' => e = .returned (.int .i64 (-1)) ∧ w.grownBy w' none := by
  have qe := eqGuardSlots
  have qq := run_eql_slots
  go_enter Tryz.func60, Tryz.ntmps60
  go_upto_region 1 with fail
  obtain ⟨W, hW, X, g0⟩ := sboxNew w a b
  rw [hW]
  clear hW
  go_wp2
  go_loopg [5] n (fun y i wr => ∃ c : Nat, c + y = n ∧ i = .int .i64 c ∧ W.grownBy wr none)
  case atStart => exact ⟨0, by omega, rfl, gbRefl _ _⟩
  case round =>
    obtain ⟨c, hc, rfl, gw⟩ := hrel
    have c0 := (H.out.kept (gbTrans g0 gw)).cell
    by_cases hcn : c < n
    · have hlt' : (c : Int) < (n : Int) := by omega
      obtain ⟨⟨⟨p1, p2⟩, d2⟩, hp⟩ : ∃ q, L[c]? = some q := ⟨_, List.getElem?_eq_getElem (by rw [hn.out]; omega)⟩
      obtain ⟨g, rfl⟩ := H.out.some hn.out hcn
      have E := fun y : Gr wr => (H.out.kept (gbTrans (gbTrans g0 gw) y.g)).row.el hn.out c _ hp
      simp only at E
      have k0 : ∀ y : Gr wr, y.w.cell? ⟨p, 1, none⟩ = some (.slice (some ⟨g, 0, none⟩) n cap) := fun y => (H.out.kept (gbTrans (gbTrans g0 gw) y.g)).cell
      have e0 := fun y => (E y).1
      have e1 := fun y => (E y).2.1
      have x0 : ∀ y : Gr wr, y.w.cell? ⟨w.heap.size, 0, none⟩ = some (.int .i64 a) := fun y => ((X.kept gw).kept y.g).at0
      have x1 : ∀ y : Gr wr, y.w.cell? ⟨w.heap.size, 1, none⟩ = some (.int .i64 b) := fun y => ((X.kept gw).kept y.g).at1
      have hs : M.seq p1 p2 a b = false := M.seq_not.2 (hf.out _ (List.mem_of_getElem? hp))
      clear hp E
      go_wp2
      refine wp_region_grown (by kernel_rfl) (by kernel_rfl) fun _ => ?_
      repeat (go_big_quiet_step (fail))
      refine wpQuiet_nil ?_
      rintro w2 ⟨⟨_, g2⟩, rfl⟩
      go_wp2
      go_roundg (gk - 1)
      case rel => exact ⟨c + 1, by omega, by go_num, gbTrans gw g2⟩
      case measure => omega
    · have hlt' : ¬ (c : Int) < (n : Int) := by omega
      go_wp2
      go_ret
      exact ⟨rfl, gbTrans g0 gw⟩

set_option maxHeartbeats 1000000 in
theorem rend_is {w : World} {p n cap i e : Nat} {xo : Option Addr} {L : List Kn} (H : Hid (RA u tc w p (.slice xo n cap) L)) (hn : Hid (L.length = n)) (hn2 : n ≤ 1000) (s : Int × Int) (j : Nat) (hi : Hid (L[i]? = some (s, j))) (he : i < e) (hen : e ≤ n) (hin : Hid (∀ c x, i < c → c < e → L[c]? = some x → j < x.2)) (hend : Hid (∀ x, L[e]? = some x → x.2 ≤ j)) (hd : Hid (∀ x ∈ L, x.2 ≤ 1000)) :
    Calls Tryz.prog 61 #[.pointer (some ⟨p, 1, none⟩), .int .i64 i] w fun x w' => x = .returned (.int .i64 e) ∧ w.grownBy w' none := by
  obtain ⟨s1, s2⟩ := s
  have hi1 : i < n := by omega
  obtain ⟨g, rfl⟩ := H.out.some hn.out hi1
  go_enter Tryz.func61, Tryz.ntmps61
  go_wp2
  go_loopg [5] (e - (i + 1)) (fun y k wr => ∃ c : Nat, c + y = e ∧ i + 1 ≤ c ∧ c ≤ e ∧ k = .int .i64 c ∧ w.grownBy wr none)
  case atStart => exact ⟨i + 1, by omega, by omega, by omega, by go_num, gbRefl _ _⟩
  case round =>
    obtain ⟨c, hc, hc1, hc2, rfl, gw⟩ := hrel
    have k0 : ∀ y : Gr wr, y.w.cell? ⟨p, 1, none⟩ = some (.slice (some ⟨g, 0, none⟩) n cap) := fun y => (H.out.kept (gbTrans gw y.g)).cell
    have i0 := fun y : Gr wr => ((H.out.kept (gbTrans gw y.g)).row.el hn.out i _ hi.out).2.2
    simp only at i0
    have hil : (i : Int) < (n : Int) := by omega
    by_cases hce : c < e
    · have hlt' : (c : Int) < (n : Int) := by omega
      obtain ⟨⟨⟨p1, p2⟩, d2⟩, hp⟩ : ∃ q, L[c]? = some q := ⟨_, List.getElem?_eq_getElem (by rw [hn.out]; omega)⟩
      have hjd := hin.out c _ (by omega) hce hp
      have e0 := fun y : Gr wr => ((H.out.kept (gbTrans gw y.g)).row.el hn.out c _ hp).2.2
      simp only at e0 hjd
      have q1 : decide ((c : Int) < (n : Int)) = true := decide_eq_true hlt'
      have q2 : decide ((j : Int) < (d2 : Int)) = true := decide_eq_true (by omega)
      have q2' : (j : Int) < (d2 : Int) := by omega
      clear hp
      go_wp2
      refine wp_region_grown (by kernel_rfl) (by kernel_rfl) fun _ => ?_
      repeat (go_big_quiet_step (fail))
      refine wpQuiet_nil ?_
      rintro w2 ⟨⟨_, g2⟩, rfl⟩
      go_wp2
      go_roundg (gk - 1)
      case rel => exact ⟨c + 1, by omega, by omega, by omega, by go_num, gbTrans gw g2⟩
      case measure => omega
    · obtain rfl : c = e := by omega
      by_cases hcn : c < n
      · have hlt' : (c : Int) < (n : Int) := by omega
        obtain ⟨⟨⟨p1, p2⟩, d2⟩, hp⟩ : ∃ q, L[c]? = some q := ⟨_, List.getElem?_eq_getElem (by rw [hn.out]; omega)⟩
        have hjd := hend.out _ hp
        have e0 := fun y : Gr wr => ((H.out.kept (gbTrans gw y.g)).row.el hn.out c _ hp).2.2
        simp only at e0 hjd
        have q1 : decide ((c : Int) < (n : Int)) = true := decide_eq_true hlt'
        have q2 : decide ((j : Int) < (d2 : Int)) = false := decide_eq_false (by omega)
        have q2' : ¬ (j : Int) < (d2 : Int) := by omega
        clear hp
        go_wp2
        refine wp_region_grown (by kernel_rfl) (by kernel_rfl) fun _ => ?_
        repeat (go_big_quiet_step (fail))
        refine wpQuiet_nil ?_
        rintro w2 ⟨⟨_, g2⟩, rfl⟩
        go_wp2
        go_ret
        exact ⟨rfl, gbTrans gw g2⟩
      · have hlt' : ¬ (c : Int) < (n : Int) := by omega
        have q1 : decide ((c : Int) < (n : Int)) = false := decide_eq_false hlt'
        go_wp2
        refine wp_region_grown (by kernel_rfl) (by kernel_rfl) fun _ => ?_
        repeat (go_big_quiet_step (fail))
        refine wpQuiet_nil ?_
        rintro w2 ⟨⟨_, g2⟩, rfl⟩
        go_wp2
        go_ret
        exact ⟨rfl, gbTrans gw g2⟩

set_option maxHeartbeats 1000000 in
theorem rput_row {w : World} {p n cap g i : Nat} {L : List Kn} (H : Hid (RA u tc w p (.slice (some ⟨g, 0, none⟩) n cap) L)) (hn : Hid (L.length = n)) (hn2 : n ≤ 1000) (hi : i ≤ n) (hcap : n ≤ cap) (hci : ¬ cap = i) (a b : Int) (d : Nat) :
    Calls Tryz.prog 111 #[.pointer (some ⟨p, 1, none⟩), .int .i64 i, .agg #[.int .i64 a, .int .i64 b, .int .i64 d]] w fun e w' => e = .returned (.tuple #[]) ∧ ∃ v', RA u tc w' p v' (L.take i ++ (((a, b), d) :: L.drop i)) ∧ Fr (fun x => x = p) w w' ∧ ∀ g, v'.ownBlock = some g → w.heap.size ≤ g ∧ g < w'.heap.size := by
  have hli : (L.take i).length = i := by rw [List.length_take, hn.out]; omega
  obtain ⟨kk, hkk⟩ : ∃ kk, (L.take i ++ [((a, b), d)] ++ L.drop i).length = kk := ⟨_, rfl⟩
  have Hkk := hideIt hkk
  obtain ⟨m, hm⟩ : ∃ m, n - i = m := ⟨_, rfl⟩
  have Hld : Hid ((L.drop i).length = m) := hideIt (by rw [List.length_drop, hn.out]; exact hm)
  have hic : (i : Int) ≤ (cap : Int) := by omega
  have hin : (i : Int) ≤ (n : Int) := by omega
  clear hkk
  go_enter Tryz.func111, Tryz.ntmps111
  go_upto_region 1 with fail
  obtain ⟨W, hW, K0, g0, z0⟩ : ∃ W, w.alloc (.cells #[.int .i64 a, .int .i64 b, .int .i64 d] 104) = W ∧ (W.cell? ⟨w.heap.size, 0, none⟩ = some (.int .i64 a) ∧ W.cell? ⟨w.heap.size, 1, none⟩ = some (.int .i64 b) ∧ W.cell? ⟨w.heap.size, 2, none⟩ = some (.int .i64 d)) ∧ w.grownBy W none ∧ w.heap.size < W.heap.size := ⟨_, rfl, ⟨by simp, by simp, by simp⟩, gbAlloc _ _ _, by simp⟩
  rw [hW]
  clear hW
  have H1 := hideIt (H.out.kept g0)
  have ga := gbAlloc W (.cells #[] 104) none
  have c0 := (H1.out.kept ga).cell
  have HE := hideIt (Lst3.empty W)
  have HF : Hid (∀ ad, some (⟨g, 0, none⟩ : Addr) = some ad → Row3 (W.alloc (.cells #[] 104)) ad (L.take i)) := hideIt (by rintro ad ⟨⟩; exact (H1.out.kept ga).row.front hn.out i)
  have hB : Hid (W.heap.size ≤ (W.alloc (.cells #[] 104)).heap.size) := hideIt (by simp)
  have Hli := hideIt hli
  have Hno1 : Hid (some (⟨g, 0, none⟩ : Addr) = none → i = 0) := hideIt (by simp)
  have hz1 : Hid (([] : List Kn).length + i ≤ 100000) := hideIt (by simp; omega)
  go_upto_region 2 with (at_builtin; refine wpList_append3 rfl (.tmp 7) (.tmp 13) rfl W.heap.size (.slice (some ⟨W.heap.size, 0, none⟩) 0 0) [] rfl HE.out (some (⟨g, 0, none⟩ : Addr)) i cap (L.take i) rfl Hli.out Hno1.out HF.out hz1.out hB.out ?_; intro v1 w1 l1 g1 o1)
  have gg1 : W.grownBy w1 none := gbNew (gbTrans (gbAny ga _) g1) (Nat.le_refl _)
  have HL1 : Hid (Lst3 w1 W.heap.size v1 (L.take i)) := hideIt l1
  have k0 := gg1.cell K0.1 (by simp)
  have k1 := gg1.cell K0.2.1 (by simp)
  have k2 := gg1.cell K0.2.2 (by simp)
  have ga2 := gbAlloc w1 (.cells #[.int .i64 a, .int .i64 b, .int .i64 d] 104) none
  have HL1' := hideIt (HL1.out.kept ga2)
  have HR1 : Hid (∀ ad, some (⟨w1.heap.size, 0, none⟩ : Addr) = some ad → Row3 (w1.alloc (.cells #[.int .i64 a, .int .i64 b, .int .i64 d] 104)) ad [((a, b), d)]) := hideIt (by rintro ad ⟨⟩; exact row3One w1 a b d)
  have hB2 : Hid (W.heap.size ≤ (w1.alloc (.cells #[.int .i64 a, .int .i64 b, .int .i64 d] 104)).heap.size) := hideIt (gbTrans gg1 ga2).size
  have hz2 : Hid ((L.take i).length + 1 ≤ 100000) := hideIt (by rw [Hli.out]; omega)
  have Hno2 : Hid (some (⟨w1.heap.size, 0, none⟩ : Addr) = none → 1 = 0) := hideIt (by simp)
  have hown1 := HL1.out.lt
  clear l1 c0
  go_upto_region 3 with (at_builtin; refine wpList_append3 rfl (.tmp 15) (.tmp 17) rfl W.heap.size v1 (L.take i) rfl HL1'.out (some ⟨w1.heap.size, 0, none⟩) 1 1 [((a, b), d)] rfl rfl Hno2.out HR1.out hz2.out hB2.out ?_; intro v2 w2 l2 g2 o2)
  have gg2 : W.grownBy w2 none := gbNews (gbTrans (gbAny (gbTrans gg1 ga2) _) g2) (fun k e => (hown1 k e).1)
  have HL2 : Hid (Lst3 w2 W.heap.size v2 (L.take i ++ [((a, b), d)])) := hideIt l2
  have H2 := hideIt (H1.out.kept gg2)
  have c2 := H2.out.cell
  have f2 := H2.out.frz
  have hown2 := HL2.out.lt
  have hB3 : Hid (W.heap.size ≤ w2.heap.size) := hideIt gg2.size
  have hz3 : Hid ((L.take i ++ [((a, b), d)]).length + m ≤ 100000) := hideIt (by rw [List.length_append, Hli.out]; simp; omega)
  have Hno3 : Hid (some (⟨g, i * 3, none⟩ : Addr) = none → m = 0) := hideIt (by simp)
  have HR3 : Hid (∀ ad, some (⟨g, i * 3, none⟩ : Addr) = some ad → Row3 w2 ad (L.drop i)) := hideIt (by rintro ad ⟨⟩; exact H2.out.row.back hn.out i)
  clear l2 k0 k1 k2
  go_wp2_with (at_builtin; refine wpList_append3 rfl (.tmp 20) (.tmp 26) rfl W.heap.size v2 (L.take i ++ [((a, b), d)]) rfl HL2.out (some (⟨g, i * 3, none⟩ : Addr)) m (cap - i) (L.drop i) rfl Hld.out Hno3.out HR3.out hz3.out hB3.out ?_; intro v3 w3 l3 g3 o3; have HL3 : Hid (Lst3 w3 W.heap.size v3 (L.take i ++ [((a, b), d)] ++ L.drop i)) := hideIt l3; have gg3 : W.grownBy w3 none := gbNews (gbTrans (gbAny gg2 _) g3) (fun k e => (hown2 k e).1); obtain ⟨x3, y3, rfl⟩ : ∃ x3 y3, v3 = .slice x3 kk y3 := HL3.out.any Hkk.out; have c3 := (H1.out.kept gg3).cell; have f3 := (H1.out.kept gg3).frz; clear l3)
  obtain ⟨T, gT⟩ := H1.out.store gg3 HL3.out.zero (fun g' e => (HL3.out.lt g' e).1)
  refine bodyPost_end (results_none rfl _ _ _) rfl ⟨rfl, .slice x3 kk y3, ?_, ?_, ?_⟩
  · have e : L.take i ++ (((a, b), d) :: L.drop i) = L.take i ++ [((a, b), d)] ++ L.drop i := by simp
    rw [e]; exact T
  · exact (Fr.grown (gbTrans g0 gg3)).trans (Fr.at gT rfl)
  · intro g' hg'
    have h1 := (HL3.out.lt g' hg').1
    have h2 := (HL3.out.lt g' hg').2
    have h3 : (w3.setCell ⟨p, 1, none⟩ (.slice x3 kk y3)).heap.size = w3.heap.size := by simp [World.setCell]
    omega

set_option maxHeartbeats 1000000 in
theorem rput_full {w : World} {p g i : Nat} {L : List Kn} (H : Hid (RA u tc w p (.slice (some ⟨g, 0, none⟩) i i) L)) (hn : Hid (L.length = i)) (hn2 : i ≤ 1000) (a b : Int) (d : Nat) :
    Calls Tryz.prog 111 #[.pointer (some ⟨p, 1, none⟩), .int .i64 i, .agg #[.int .i64 a, .int .i64 b, .int .i64 d]] w fun e w' => e = .returned (.tuple #[]) ∧ ∃ v', RA u tc w' p v' (L.take i ++ (((a, b), d) :: L.drop i)) ∧ Fr (fun x => x = p) w w' ∧ ∀ g, v'.ownBlock = some g → w.heap.size ≤ g ∧ g < w'.heap.size := by
  have hli : (L.take i).length = i := by rw [List.length_take, hn.out]; omega
  obtain ⟨kk, hkk⟩ : ∃ kk, (L.take i ++ [((a, b), d)] ++ L.drop i).length = kk := ⟨_, rfl⟩
  have Hkk := hideIt hkk
  have Hld : Hid ((L.drop i).length = 0) := hideIt (by rw [List.length_drop, hn.out]; omega)
  clear hkk
  go_enter Tryz.func111, Tryz.ntmps111
  go_upto_region 1 with fail
  obtain ⟨W, hW, K0, g0, z0⟩ : ∃ W, w.alloc (.cells #[.int .i64 a, .int .i64 b, .int .i64 d] 104) = W ∧ (W.cell? ⟨w.heap.size, 0, none⟩ = some (.int .i64 a) ∧ W.cell? ⟨w.heap.size, 1, none⟩ = some (.int .i64 b) ∧ W.cell? ⟨w.heap.size, 2, none⟩ = some (.int .i64 d)) ∧ w.grownBy W none ∧ w.heap.size < W.heap.size := ⟨_, rfl, ⟨by simp, by simp, by simp⟩, gbAlloc _ _ _, by simp⟩
  rw [hW]
  clear hW
  have H1 := hideIt (H.out.kept g0)
  have ga := gbAlloc W (.cells #[] 104) none
  have c0 := (H1.out.kept ga).cell
  have HE := hideIt (Lst3.empty W)
  have HF : Hid (∀ ad, some (⟨g, 0, none⟩ : Addr) = some ad → Row3 (W.alloc (.cells #[] 104)) ad (L.take i)) := hideIt (by rintro ad ⟨⟩; exact (H1.out.kept ga).row.front hn.out i)
  have hB : Hid (W.heap.size ≤ (W.alloc (.cells #[] 104)).heap.size) := hideIt (by simp)
  have Hli := hideIt hli
  have Hno1 : Hid (some (⟨g, 0, none⟩ : Addr) = none → i = 0) := hideIt (by simp)
  have hz1 : Hid (([] : List Kn).length + i ≤ 100000) := hideIt (by simp; omega)
  go_upto_region 2 with (at_builtin; refine wpList_append3 rfl (.tmp 7) (.tmp 13) rfl W.heap.size (.slice (some ⟨W.heap.size, 0, none⟩) 0 0) [] rfl HE.out (some (⟨g, 0, none⟩ : Addr)) i i (L.take i) rfl Hli.out Hno1.out HF.out hz1.out hB.out ?_; intro v1 w1 l1 g1 o1)
  have gg1 : W.grownBy w1 none := gbNew (gbTrans (gbAny ga _) g1) (Nat.le_refl _)
  have HL1 : Hid (Lst3 w1 W.heap.size v1 (L.take i)) := hideIt l1
  have k0 := gg1.cell K0.1 (by simp)
  have k1 := gg1.cell K0.2.1 (by simp)
  have k2 := gg1.cell K0.2.2 (by simp)
  have ga2 := gbAlloc w1 (.cells #[.int .i64 a, .int .i64 b, .int .i64 d] 104) none
  have HL1' := hideIt (HL1.out.kept ga2)
  have HR1 : Hid (∀ ad, some (⟨w1.heap.size, 0, none⟩ : Addr) = some ad → Row3 (w1.alloc (.cells #[.int .i64 a, .int .i64 b, .int .i64 d] 104)) ad [((a, b), d)]) := hideIt (by rintro ad ⟨⟩; exact row3One w1 a b d)
  have hB2 : Hid (W.heap.size ≤ (w1.alloc (.cells #[.int .i64 a, .int .i64 b, .int .i64 d] 104)).heap.size) := hideIt (gbTrans gg1 ga2).size
  have hz2 : Hid ((L.take i).length + 1 ≤ 100000) := hideIt (by rw [Hli.out]; omega)
  have Hno2 : Hid (some (⟨w1.heap.size, 0, none⟩ : Addr) = none → 1 = 0) := hideIt (by simp)
  have hown1 := HL1.out.lt
  clear l1 c0
  go_upto_region 3 with (at_builtin; refine wpList_append3 rfl (.tmp 15) (.tmp 17) rfl W.heap.size v1 (L.take i) rfl HL1'.out (some ⟨w1.heap.size, 0, none⟩) 1 1 [((a, b), d)] rfl rfl Hno2.out HR1.out hz2.out hB2.out ?_; intro v2 w2 l2 g2 o2)
  have gg2 : W.grownBy w2 none := gbNews (gbTrans (gbAny (gbTrans gg1 ga2) _) g2) (fun k e => (hown1 k e).1)
  have HL2 : Hid (Lst3 w2 W.heap.size v2 (L.take i ++ [((a, b), d)])) := hideIt l2
  have H2 := hideIt (H1.out.kept gg2)
  have c2 := H2.out.cell
  have f2 := H2.out.frz
  have hown2 := HL2.out.lt
  have hB3 : Hid (W.heap.size ≤ w2.heap.size) := hideIt gg2.size
  have hz3 : Hid ((L.take i ++ [((a, b), d)]).length + 0 ≤ 100000) := hideIt (by rw [List.length_append, Hli.out]; simp; omega)
  have Hno3 : Hid (some (⟨g, 0, none⟩ : Addr) = none → 0 = 0) := hideIt (by simp)
  have HR3 : Hid (∀ ad, some (⟨g, 0, none⟩ : Addr) = some ad → Row3 w2 ad (L.drop i)) := hideIt (by rintro ad ⟨⟩; rw [List.drop_eq_nil_of_le (by rw [hn.out]; exact Nat.le_refl _)]; intro j u hu; simp [cells3] at hu)
  clear l2 k0 k1 k2
  go_wp2_with (at_builtin; refine wpList_append3 rfl (.tmp 20) (.tmp 26) rfl W.heap.size v2 (L.take i ++ [((a, b), d)]) rfl HL2.out (some (⟨g, 0, none⟩ : Addr)) 0 0 (L.drop i) rfl Hld.out Hno3.out HR3.out hz3.out hB3.out ?_; intro v3 w3 l3 g3 o3; have HL3 : Hid (Lst3 w3 W.heap.size v3 (L.take i ++ [((a, b), d)] ++ L.drop i)) := hideIt l3; have gg3 : W.grownBy w3 none := gbNews (gbTrans (gbAny gg2 _) g3) (fun k e => (hown2 k e).1); obtain ⟨x3, y3, rfl⟩ : ∃ x3 y3, v3 = .slice x3 kk y3 := HL3.out.any Hkk.out; have c3 := (H1.out.kept gg3).cell; have f3 := (H1.out.kept gg3).frz; clear l3)
  obtain ⟨T, gT⟩ := H1.out.store gg3 HL3.out.zero (fun g' e => (HL3.out.lt g' e).1)
  refine bodyPost_end (results_none rfl _ _ _) rfl ⟨rfl, .slice x3 kk y3, ?_, ?_, ?_⟩
  · have e : L.take i ++ (((a, b), d) :: L.drop i) = L.take i ++ [((a, b), d)] ++ L.drop i := by simp
    rw [e]; exact T
  · exact (Fr.grown (gbTrans g0 gg3)).trans (Fr.at gT rfl)
  · intro g' hg'
    have h1 := (HL3.out.lt g' hg').1
    have h2 := (HL3.out.lt g' hg').2
    have h3 : (w3.setCell ⟨p, 1, none⟩ (.slice x3 kk y3)).heap.size = w3.heap.size := by simp [World.setCell]
    omega

set_option maxHeartbeats 1000000 in
theorem rput_nil {w : World} {p i : Nat} {L : List Kn} (H : Hid (RA u tc w p (.slice none 0 0) L)) (hL : L = []) (hi : i = 0) (a b : Int) (d : Nat) :
    Calls Tryz.prog 111 #[.pointer (some ⟨p, 1, none⟩), .int .i64 i, .agg #[.int .i64 a, .int .i64 b, .int .i64 d]] w fun e w' => e = .returned (.tuple #[]) ∧ ∃ v', RA u tc w' p v' (L.take i ++ (((a, b), d) :: L.drop i)) ∧ Fr (fun x => x = p) w w' ∧ ∀ g, v'.ownBlock = some g → w.heap.size ≤ g ∧ g < w'.heap.size := by
  subst hi
  have hli : (L.take 0).length = 0 := rfl
  obtain ⟨kk, hkk⟩ : ∃ kk, (L.take 0 ++ [((a, b), d)] ++ L.drop 0).length = kk := ⟨_, rfl⟩
  have Hkk := hideIt hkk
  have Hld : Hid ((L.drop 0).length = 0) := hideIt (by rw [hL]; rfl)
  clear hkk hL
  go_enter Tryz.func111, Tryz.ntmps111
  go_upto_region 1 with fail
  obtain ⟨W, hW, K0, g0, z0⟩ : ∃ W, w.alloc (.cells #[.int .i64 a, .int .i64 b, .int .i64 d] 104) = W ∧ (W.cell? ⟨w.heap.size, 0, none⟩ = some (.int .i64 a) ∧ W.cell? ⟨w.heap.size, 1, none⟩ = some (.int .i64 b) ∧ W.cell? ⟨w.heap.size, 2, none⟩ = some (.int .i64 d)) ∧ w.grownBy W none ∧ w.heap.size < W.heap.size := ⟨_, rfl, ⟨by simp, by simp, by simp⟩, gbAlloc _ _ _, by simp⟩
  rw [hW]
  clear hW
  have H1 := hideIt (H.out.kept g0)
  have ga := gbAlloc W (.cells #[] 104) none
  have c0 := (H1.out.kept ga).cell
  have HE := hideIt (Lst3.empty W)
  have HF : Hid (∀ ad, (none : Option Addr) = some ad → Row3 (W.alloc (.cells #[] 104)) ad (L.take 0)) := hideIt (by simp)
  have hB : Hid (W.heap.size ≤ (W.alloc (.cells #[] 104)).heap.size) := hideIt (by simp)
  have Hli := hideIt hli
  have Hno1 : Hid ((none : Option Addr) = none → 0 = 0) := hideIt (by simp)
  have hz1 : Hid (([] : List Kn).length + 0 ≤ 100000) := hideIt (by simp)
  go_upto_region 2 with (at_builtin; refine wpList_append3 rfl (.tmp 7) (.tmp 13) rfl W.heap.size (.slice (some ⟨W.heap.size, 0, none⟩) 0 0) [] rfl HE.out ((none : Option Addr)) 0 0 (L.take 0) rfl Hli.out Hno1.out HF.out hz1.out hB.out ?_; intro v1 w1 l1 g1 o1)
  have gg1 : W.grownBy w1 none := gbNew (gbTrans (gbAny ga _) g1) (Nat.le_refl _)
  have HL1 : Hid (Lst3 w1 W.heap.size v1 (L.take 0)) := hideIt l1
  have k0 := gg1.cell K0.1 (by simp)
  have k1 := gg1.cell K0.2.1 (by simp)
  have k2 := gg1.cell K0.2.2 (by simp)
  have ga2 := gbAlloc w1 (.cells #[.int .i64 a, .int .i64 b, .int .i64 d] 104) none
  have HL1' := hideIt (HL1.out.kept ga2)
  have HR1 : Hid (∀ ad, some (⟨w1.heap.size, 0, none⟩ : Addr) = some ad → Row3 (w1.alloc (.cells #[.int .i64 a, .int .i64 b, .int .i64 d] 104)) ad [((a, b), d)]) := hideIt (by rintro ad ⟨⟩; exact row3One w1 a b d)
  have hB2 : Hid (W.heap.size ≤ (w1.alloc (.cells #[.int .i64 a, .int .i64 b, .int .i64 d] 104)).heap.size) := hideIt (gbTrans gg1 ga2).size
  have hz2 : Hid ((L.take 0).length + 1 ≤ 100000) := hideIt (by rw [Hli.out]; omega)
  have Hno2 : Hid (some (⟨w1.heap.size, 0, none⟩ : Addr) = none → 1 = 0) := hideIt (by simp)
  have hown1 := HL1.out.lt
  clear l1 c0
  go_upto_region 3 with (at_builtin; refine wpList_append3 rfl (.tmp 15) (.tmp 17) rfl W.heap.size v1 (L.take 0) rfl HL1'.out (some ⟨w1.heap.size, 0, none⟩) 1 1 [((a, b), d)] rfl rfl Hno2.out HR1.out hz2.out hB2.out ?_; intro v2 w2 l2 g2 o2)
  have gg2 : W.grownBy w2 none := gbNews (gbTrans (gbAny (gbTrans gg1 ga2) _) g2) (fun k e => (hown1 k e).1)
  have HL2 : Hid (Lst3 w2 W.heap.size v2 (L.take 0 ++ [((a, b), d)])) := hideIt l2
  have H2 := hideIt (H1.out.kept gg2)
  have c2 := H2.out.cell
  have f2 := H2.out.frz
  have hown2 := HL2.out.lt
  have hB3 : Hid (W.heap.size ≤ w2.heap.size) := hideIt gg2.size
  have hz3 : Hid ((L.take 0 ++ [((a, b), d)]).length + 0 ≤ 100000) := hideIt (by rw [List.length_append, Hli.out]; simp)
  have Hno3 : Hid ((none : Option Addr) = none → 0 = 0) := hideIt (by simp)
  have HR3 : Hid (∀ ad, (none : Option Addr) = some ad → Row3 w2 ad (L.drop 0)) := hideIt (by simp)
  clear l2 k0 k1 k2
  go_wp2_with (at_builtin; refine wpList_append3 rfl (.tmp 20) (.tmp 26) rfl W.heap.size v2 (L.take 0 ++ [((a, b), d)]) rfl HL2.out ((none : Option Addr)) 0 0 (L.drop 0) rfl Hld.out Hno3.out HR3.out hz3.out hB3.out ?_; intro v3 w3 l3 g3 o3; have HL3 : Hid (Lst3 w3 W.heap.size v3 (L.take 0 ++ [((a, b), d)] ++ L.drop 0)) := hideIt l3; have gg3 : W.grownBy w3 none := gbNews (gbTrans (gbAny gg2 _) g3) (fun k e => (hown2 k e).1); obtain ⟨x3, y3, rfl⟩ : ∃ x3 y3, v3 = .slice x3 kk y3 := HL3.out.any Hkk.out; have c3 := (H1.out.kept gg3).cell; have f3 := (H1.out.kept gg3).frz; clear l3)
  obtain ⟨T, gT⟩ := H1.out.store gg3 HL3.out.zero (fun g' e => (HL3.out.lt g' e).1)
  refine bodyPost_end (results_none rfl _ _ _) rfl ⟨rfl, .slice x3 kk y3, ?_, ?_, ?_⟩
  · have e : L.take 0 ++ [((a, b), d)] ++ L.drop 0 = ((a, b), d) :: L := by simp
    rw [e] at T; simpa using T
  · exact (Fr.grown (gbTrans g0 gg3)).trans (Fr.at gT rfl)
  · intro g' hg'
    have h1 := (HL3.out.lt g' hg').1
    have h2 := (HL3.out.lt g' hg').2
    have h3 : (w3.setCell ⟨p, 1, none⟩ (.slice x3 kk y3)).heap.size = w3.heap.size := by simp [World.setCell]
    omega

theorem rput_is {w : World} {p n i : Nat} {v : Value} {L : List Kn} (H : RA u tc w p v L) (hn : L.length = n) (hn2 : n ≤ 1000) (hi : i ≤ n) (a b : Int) (d : Nat) :
    Calls Tryz.prog 111 #[.pointer (some ⟨p, 1, none⟩), .int .i64 i, .agg #[.int .i64 a, .int .i64 b, .int .i64 d]] w fun e w' => e = .returned (.tuple #[]) ∧ ∃ v', RA u tc w' p v' (L.take i ++ (((a, b), d) :: L.drop i)) ∧ Fr (fun x => x = p) w w' ∧ ∀ g, v'.ownBlock = some g → w.heap.size ≤ g ∧ g < w'.heap.size := by
  rcases H.row.form hn with ⟨rfl, h0⟩ | ⟨g, cap, rfl, hcap⟩
  · exact rput_nil (hideIt H) (List.eq_nil_of_length_eq_zero (hn.trans h0)) (by omega) a b d
  · by_cases hci : cap = i
    · obtain rfl : n = i := by omega
      subst hci
      exact rput_full (hideIt H) (hideIt hn) hn2 a b d
    · exact rput_row (hideIt H) (hideIt hn) hn2 hi hcap hci a b d

end T9
end Go.Proofs.YtdnoidnpiaadaaaGreat
