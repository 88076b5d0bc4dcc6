/-
  LISTS OF WHATEVER ELEMENTS, of the call's own: form, cells, append. Speaks of no function of the program.
-/
import Derived.Test.YteekgfdffofnaaaRns
import Derived.Laws.CopyOwn
import Derived.Lib.AppendZerosOnto
namespace Go.Proofs.Yteekgfdffofnaaa
set_option maxRecDepth 10000
open Go.RowKit
set_option linter.unusedVariables false

/-! ### Cells of elements -/
/-- An element's cells: s of them, each one cell. -/
structure Enc {α : Type} (e : α → List Value) (s : Nat) : Prop where
  pos : 0 < s
  len : ∀ x, (e x).length = s
  one : ∀ x, ∀ u ∈ e x, u.oneCell' = true
def cl {α : Type} (e : α → List Value) (L : List α) : List Value := L.flatMap e
section
variable {α : Type} {e : α → List Value} {s : Nat}
theorem cl_nil : cl e [] = [] := rfl
theorem cl_cons (x : α) (L : List α) : cl e (x :: L) = e x ++ cl e L := rfl
theorem cl_app (L D : List α) : cl e L ++ cl e D = cl e (L ++ D) := by unfold cl; simp
theorem cl_len (E : Enc e s) (L : List α) : (cl e L).length = L.length * s := by
  induction L with
  | nil => simp [cl]
  | cons p L ih => rw [cl_cons, List.length_append, E.len, ih, List.length_cons, Nat.add_mul]; omega
theorem cl_get (E : Enc e s) (L : List α) (i k : Nat) (x : α) (h : L[i]? = some x) (hk : k < s) : (cl e L)[i * s + k]? = (e x)[k]? := by
  induction L generalizing i with
  | nil => simp at h
  | cons q L ih =>
    rw [cl_cons]
    cases i with
    | zero =>
      simp at h; subst h
      rw [Nat.zero_mul, Nat.zero_add, List.getElem?_append_left (by rw [E.len]; exact hk)]
    | succ i =>
      have hl : s ≤ (i + 1) * s + k := by rw [Nat.add_mul]; omega
      rw [List.getElem?_append_right (by rw [E.len]; exact hl), E.len, show (i + 1) * s + k - s = i * s + k by rw [Nat.add_mul]; omega]
      exact ih i (by simpa using h)
theorem cl_one (E : Enc e s) (L : List α) : ∀ u ∈ cl e L, u.oneCell' = true := by
  intro u hu
  unfold cl at hu
  rw [List.mem_flatMap] at hu
  obtain ⟨a, _, h⟩ := hu
  exact E.one a u h
theorem cl_take (E : Enc e s) : ∀ (L : List α) (i : Nat), cl e (L.take i) = (cl e L).take (i * s)
  | [], i => by simp [cl]
  | p :: L, 0 => by simp [cl]
  | p :: L, i + 1 => by
    rw [List.take_succ_cons, cl_cons, cl_cons, cl_take E L i, List.take_append, E.len, show (i + 1) * s - s = i * s by rw [Nat.add_mul]; omega]
    rw [List.take_of_length_le (l := e p) (by rw [E.len, Nat.add_mul]; omega)]
theorem cl_drop (E : Enc e s) : ∀ (L : List α) (i : Nat), cl e (L.drop i) = (cl e L).drop (i * s)
  | [], i => by simp [cl]
  | p :: L, 0 => by simp
  | p :: L, i + 1 => by
    rw [List.drop_succ_cons, cl_cons, cl_drop E L i, List.drop_append, E.len, show (i + 1) * s - s = i * s by rw [Nat.add_mul]; omega]
    have hd : List.drop ((i + 1) * s) (e p) = [] := List.drop_eq_nil_of_le (by rw [E.len, Nat.add_mul]; omega)
    rw [hd, List.nil_append]

/-! ### Lists of the call's own -/
def Ls (e : α → List Value) (tk : TypeId) (s : Nat) (w : World) (B : Nat) (v : Value) (L : List α) : Prop := w.ownsRow B tk s v L.length (cl e L)
variable {tk : TypeId} {w w' : World} {B : Nat} {v : Value} {L : List α}
theorem Ls.nil (e : α → List Value) (tk : TypeId) (s : Nat) (w : World) (B : Nat) : Ls e tk s w B (.slice none 0 0) [] := World.ownsRow_nil w B tk s
theorem Ls.empty (e : α → List Value) (tk : TypeId) (s : Nat) (w : World) : Ls e tk s (w.alloc (.cells #[] tk)) w.heap.size (.slice (some ⟨w.heap.size, 0, none⟩) 0 0) [] :=
  w.ownsRow_made (base := w.heap.size) (e := tk) (size := s) #[] 0 (Nat.le_refl _) (by decide) (by simp)
theorem Ls.kept (h : Ls e tk s w B v L) (g : w.grownBy w' none) : Ls e tk s w' B v L := World.ownsRow.kept h g (by cases v.ownBlock <;> simp)
theorem Ls.lt (h : Ls e tk s w B v L) : ∀ k, v.ownBlock = some k → B ≤ k ∧ k < w.heap.size := World.ownsRow.lt h
theorem Ls.block (h : Ls e tk s w B v L) (hb : ∀ k, v.ownBlock = some k → w'.heap[k]? = w.heap[k]?) : Ls e tk s w' B v L := by
  refine ⟨h.1, ?_⟩
  rcases h.2 with h2 | ⟨g, cap, cur, rfl, h3, h4, h5⟩
  · exact .inl h2
  · exact .inr ⟨g, cap, cur, rfl, h3, (hb g rfl).trans h4, h5⟩
theorem Ls.keep {y : Option Nat} (h : Ls e tk s w B v L) (g : w.grownBy w' y) (hv : ∀ k, v.ownBlock = some k → some k ≠ y) : Ls e tk s w' B v L :=
  h.block (fun k hk => g.block k (h.lt k hk).2 (hv k hk))
theorem Ls.base {B' : Nat} (h : Ls e tk s w B v L) (hb : ∀ k, v.ownBlock = some k → B' ≤ k) : Ls e tk s w B' v L := by
  refine ⟨h.1, ?_⟩
  rcases h.2 with h2 | ⟨g, cap, cur, rfl, h3, h4, h5⟩
  · exact .inl h2
  · exact .inr ⟨g, cap, cur, rfl, hb g rfl, h4, h5⟩
theorem Ls.low (h : Ls e tk s w B v L) : Ls e tk s w 0 v L := h.base (fun _ _ => Nat.zero_le _)
/-- What it looks like. -/
theorem Ls.form (h : Ls e tk s w B v L) : (v = .slice none 0 0 ∧ L = []) ∨ ∃ g cap, v = .slice (some ⟨g, 0, none⟩) L.length cap ∧ L.length ≤ cap ∧ B ≤ g ∧ g < w.heap.size ∧ cap ≤ 9223372036854775807 := by
  have h0 := h.2
  rcases h0 with ⟨rfl, hn⟩ | ⟨g, cap, cur, rfl, hB, hg, hn, hm, _, _⟩
  · exact .inl ⟨rfl, List.eq_nil_of_length_eq_zero hn⟩
  · exact .inr ⟨g, cap, rfl, hn, hB, (World.ownsRow.lt h g rfl).2, by unfold maxLen at hm; omega⟩
theorem Ls.has {n : Nat} (h : Ls e tk s w B v L) (hn : L.length = n) (h0 : 0 < n) : ∃ g cap, v = .slice (some ⟨g, 0, none⟩) n cap ∧ n ≤ cap ∧ B ≤ g ∧ g < w.heap.size ∧ cap ≤ 9223372036854775807 := by
  rcases h.form with ⟨_, rfl⟩ | ⟨g, cap, rfl, k⟩
  · simp at hn; omega
  · rw [hn] at k
    exact ⟨g, cap, by rw [hn], k⟩
/-- A slice, whatever it is: its address, if it has any elements. -/
theorem Ls.arr (h : Ls e tk s w B v L) : ∃ a cap, v = .slice a L.length cap ∧ L.length ≤ cap ∧ cap ≤ 9223372036854775807 ∧ (a = none → L = []) := by
  rcases h.form with ⟨rfl, rfl⟩ | ⟨g, cap, rfl, h1, _, _, h2⟩
  · exact ⟨none, 0, rfl, Nat.le_refl _, by omega, fun _ => rfl⟩
  · exact ⟨_, cap, rfl, h1, h2, by simp⟩
theorem Ls.cell {g n cap : Nat} (E : Enc e s) (h : Ls e tk s w B (.slice (some ⟨g, 0, none⟩) n cap) L) (hn : L.length = n) (j k : Nat) (x : α) (u : Value) (hj : L[j]? = some x) (hk : (e x)[k]? = some u) : w.cell? ⟨g, j * s + k, none⟩ = some u := by
  subst hn
  have hk2 : k < s := by rw [← E.len x]; exact (List.getElem?_eq_some_iff.1 hk).1
  have hlt : j < L.length := (List.getElem?_eq_some_iff.1 hj).1
  have hl := cl_get E L j k x hj hk2
  refine (World.ownsRow.cellAt h _ ?_).trans (hl.trans hk)
  have : (j + 1) * s ≤ L.length * s := Nat.mul_le_mul_right s hlt
  rw [Nat.add_mul] at this; omega
theorem Ls.frozen {g n cap : Nat} (h : Ls e tk s w B (.slice (some ⟨g, 0, none⟩) n cap) L) (hn : L.length = n) : ∀ i, w.frozen? ⟨g, i, none⟩ = false := by
  subst hn
  exact World.ownsRow.frozenAt h
/-- Its cells, from a place on. -/
theorem Ls.row {g n cap : Nat} (E : Enc e s) (h : Ls e tk s w B (.slice (some ⟨g, 0, none⟩) n cap) L) (hn : L.length = n) (i : Nat) (D : List α) (hD : ∀ j, D[j]? = none ∨ D[j]? = L[i + j]?) : ∀ j u, (cl e D)[j]? = some u → w.cell? ((⟨g, i * s, none⟩ : Addr).add j) = some u := by
  intro j u hu
  have hj : j < D.length * s := by rw [← cl_len E D]; exact (List.getElem?_eq_some_iff.1 hu).1
  have hm : j % s < s := Nat.mod_lt _ E.pos
  have hd : j / s < D.length := by rw [Nat.div_lt_iff_lt_mul E.pos]; exact hj
  have hx : D[j / s]? = some D[j / s] := List.getElem?_eq_getElem hd
  have e1 := cl_get E D (j / s) (j % s) _ hx hm
  have e2 : j / s * s + j % s = j := Nat.div_add_mod' j s
  rw [e2, hu] at e1
  rcases hD (j / s) with h1 | h1
  · rw [hx] at h1; cases h1
  · have := h.cell E hn (i + j / s) (j % s) _ u (by rw [← h1, hx]) e1.symm
    rw [Addr.add_lit]
    rwa [Nat.add_mul, Nat.add_assoc, e2] at this
/-- The front of a list is a list. -/
theorem Ls.cutTo {g n cap : Nat} (E : Enc e s) (h : Ls e tk s w B (.slice (some ⟨g, 0, none⟩) n cap) L) (hn : L.length = n) (i : Nat) (hi : i ≤ n) : Ls e tk s w B (.slice (some ⟨g, 0, none⟩) i cap) (L.take i) := by
  obtain ⟨h1, h2⟩ := h
  rcases h2 with ⟨e', _⟩ | ⟨g', cap', cur, e', hb, hg, hc, hm, hs, ht⟩
  · cases e'
  · cases e'
    have hl : (L.take i).length = i := by rw [List.length_take]; omega
    refine ⟨by rw [cl_len E], .inr ⟨g, cap, cur, by rw [hl], hb, hg, by rw [hl]; omega, hm, hs, ?_⟩⟩
    rw [hl]
    have e2 := cl_take E L i
    have hle : i * s ≤ L.length * s := Nat.mul_le_mul_right s hi
    rw [e2, ← ht, List.take_take, Nat.min_eq_left hle]
/-- append onto a list: whatever comes of it. -/
theorem run_append_l {tl : TypeId} {i : TypeInfo} {z : Value} {bytes : Nat} (E : Enc e s) (ht : Try.prog.underlying tl = some (.slice tk)) (hi : Try.prog.info? tk = some i) (hz : i.zero = some z) (hs : i.size = s) (hb : i.bytes = bytes) (hc : z.cells.size = s) (hby : bytes ≤ 1000)
    (w : World) (B : Nat) (v : Value) (L : List α) (hown : Ls e tk s w B v L) (ty : TypeId) (ox : Option Addr) (m c : Nat) (D : List α) (hm : D.length = m) (hno : ox = none → m = 0) (hx : ∀ ad, ox = some ad → ∀ j u, (cl e D)[j]? = some u → w.cell? (ad.add j) = some u) (hn : L.length + m ≤ 100000) (hB : B ≤ w.heap.size) :
    ∃ v' w', (Builtin.append_ #[tl, tl] ty #[v, .slice ox m c]).run Try.prog w = .ok v' w' ∧ Ls e tk s w' B v' (L ++ D) ∧ w.grownBy w' v.ownBlock ∧ (v'.ownBlock = v.ownBlock ∨ v'.ownBlock = some w.heap.size) := by
  cases ox with
  | some ad =>
    obtain ⟨v', w', h1, h2, h3, _, h5⟩ := run_append_own_at (P := Try.prog) w B tl ty tk i z s bytes ht hi hz hs hb hc E.pos v L.length (cl e L) hown ad m c (cl e D) (by rw [cl_len E, hm]) (hx ad rfl) (cl_one E D) (by unfold maxLen; omega) (by
      have : (L.length + m) * bytes ≤ 100000 * 1000 := Nat.mul_le_mul hn hby
      omega) hB
    refine ⟨v', w', h1, ?_, h3, h5⟩
    unfold Ls
    rw [← cl_app, List.length_append, hm]
    exact h2
  | none =>
    obtain rfl : m = 0 := hno rfl
    obtain rfl : D = [] := List.eq_nil_of_length_eq_zero hm
    refine ⟨v, w, ?_, by rw [List.append_nil]; exact hown, gbRefl _ _, .inl rfl⟩
    rcases hown.2 with ⟨rfl, _⟩ | ⟨g, cap, cur, rfl, _, _, hnc, _⟩
    · simp [Builtin.append_, run_underlying ht, sizeOf, typeInfo, hi, Builtin.lenOf, Builtin.firstCells]
    · have : L.length + 0 ≤ cap := by omega
      simp [Builtin.append_, run_underlying ht, sizeOf, typeInfo, hi, Builtin.lenOf, Builtin.firstCells, storeCells, hnc]
/-- append where there is room: in place. -/
theorem run_append_room {tl : TypeId} {i : TypeInfo} (E : Enc e s) (ht : Try.prog.underlying tl = some (.slice tk)) (hi : Try.prog.info? tk = some i) (hs : i.size = s)
    (w : World) (B g n cap : Nat) (L : List α) (hown : Ls e tk s w B (.slice (some ⟨g, 0, none⟩) n cap) L) (hl : L.length = n) (ty : TypeId) (ad : Addr) (m c : Nat) (D : List α) (hm : D.length = m) (hx : ∀ j u, (cl e D)[j]? = some u → w.cell? (ad.add j) = some u) (hr : n + m ≤ cap) :
    ∃ w', (Builtin.append_ #[tl, tl] ty #[.slice (some ⟨g, 0, none⟩) n cap, .slice (some ad) m c]).run Try.prog w = .ok (.slice (some ⟨g, 0, none⟩) (n + m) cap) w' ∧ Ls e tk s w' B (.slice (some ⟨g, 0, none⟩) (n + m) cap) (L ++ D) ∧ w.grownBy w' (some g) := by
  subst hl
  obtain ⟨w', h1, h2, h3⟩ := run_append_fits (P := Try.prog) w B tl ty tk i s ht hi hs g L.length cap (cl e L) hown ad m c (cl e D) (by rw [cl_len E, hm]) hx (cl_one E D) hr
  refine ⟨w', h1, ?_, h3⟩
  unfold Ls
  rw [← cl_app, List.length_append, hm]
  exact h2
end
/-- append inside a region that draws its order, its run known. -/
theorem step_append_run {ops : Array Oper} {o : Oper} {a : Act} {w : World} {K : Act → World → Prop} {Q : Exit → Act → World → Prop} {X : Prop} {t : TypeId} (hgd : o.guard = none) (s x : Operand)
    (ho : o.op = .call { callee := .builtin .append, args := #[s, x], argTypes := #[t, t] }) (vs vx : Value) (hs : a.eval s = vs) (hx : a.eval x = vx)
    (v' : Value) (w' : World) (hr : (Builtin.append_ #[t, t] o.type #[vs, vx]).run Try.prog w = .ok v' w') (h : K (a.put o.dst v') w') :
    if Region.wanted o (yielded ops a.tmps) = true then Oper.wp Try.prog o a w K Q else X := by
  have hw : Region.wanted o (yielded ops a.tmps) = true := by simp [Region.wanted, hgd]
  rw [if_pos hw]
  unfold Oper.wp execOp
  simp only [ho, resolve, invoke, builtin, Sem.run_bind, Sem.run_pure, Result.andThen_ok, List.map_toArray, List.map_cons, List.map_nil, hs, hx, hr]
  exact h
theorem wpList_append_run {w : World} {ops : Array Oper} {rest : List Oper} {o : Oper} {a : Act} {Q : Exit → Act → World → Prop} {t : TypeId} (hgd : o.guard = none) (s x : Operand)
    (ho : o.op = .call { callee := .builtin .append, args := #[s, x], argTypes := #[t, t] }) (vs vx : Value) (hs : a.eval s = vs) (hx : a.eval x = vx)
    (v' : Value) (w' : World) (hr : (Builtin.append_ #[t, t] o.type #[vs, vx]).run Try.prog w = .ok v' w') (h : wpList Try.prog ops Q rest (a.put o.dst v') w') : wpList Try.prog ops Q (o :: rest) a w := by
  refine wpList_plain hgd fun K' hK' => ?_
  unfold Oper.wp execOp
  simp only [ho, resolve, invoke, builtin, Sem.run_bind, Sem.run_pure, Result.andThen_ok, List.map_toArray, List.map_cons, List.map_nil, hs, hx, hr]
  exact hK' _ _ h
end Go.Proofs.Yteekgfdffofnaaa
