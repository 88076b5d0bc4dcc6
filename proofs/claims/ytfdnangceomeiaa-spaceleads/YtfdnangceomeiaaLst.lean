/-
  LISTS OF MAPPINGS IN MEMORY: three cells an element; lists of the call's own, and what append makes of them. What is listed, as a plain list. Speaks of no function of the program.
-/
import Derived.Test.YtfdnangceomeiaaCal
import Derived.Laws.AppendOwn
namespace Go.Proofs.Ytfdnangceomeiaa
set_option maxRecDepth 10000
open Go.RowKit
set_option linter.unusedVariables false

/-- A mapping. -/
structure K3 where
  p : Nat
  a : Int
  w : Bool
def cells3 (L : List K3) : List Value := L.flatMap fun k => [.int .i64 (k.p : Int), .int .i64 k.a, .bool k.w]
theorem cells3_cons (k : K3) (L : List K3) : cells3 (k :: L) = .int .i64 (k.p : Int) :: .int .i64 k.a :: .bool k.w :: cells3 L := rfl
theorem cells3_app (L D : List K3) : cells3 L ++ cells3 D = cells3 (L ++ D) := by unfold cells3; simp
theorem cells3_len (L : List K3) : (cells3 L).length = L.length * 3 := by
  induction L with
  | nil => rfl
  | cons p L ih => rw [cells3_cons]; simp [ih]; omega
theorem cells3_get (L : List K3) (i : Nat) (k : K3) (h : L[i]? = some k) : (cells3 L)[i * 3]? = some (.int .i64 (k.p : Int)) ∧ (cells3 L)[i * 3 + 1]? = some (.int .i64 k.a) ∧ (cells3 L)[i * 3 + 2]? = some (.bool k.w) := by
  induction L generalizing i with
  | nil => simp at h
  | cons q L ih =>
    rw [cells3_cons]
    cases i with
    | zero => simp at h; subst h; exact ⟨rfl, rfl, rfl⟩
    | succ i =>
      have := ih i (by simpa using h)
      rw [show (i + 1) * 3 = i * 3 + 1 + 1 + 1 by omega]
      simpa using this
theorem cells3_one (L : List K3) : ∀ u ∈ cells3 L, u.oneCell' = true := by
  intro u hu
  unfold cells3 at hu
  simp at hu
  obtain ⟨a, _, rfl | rfl | rfl⟩ := hu <;> rfl

/-- A list of the call's own, its elements of type tk. -/
def L3 (tk : TypeId) (w : World) (B : Nat) (v : Value) (L : List K3) : Prop := w.ownsRow B tk 3 v L.length (cells3 L)
section
variable {tk : TypeId} {w w' : World} {B : Nat} {v : Value} {L : List K3}
theorem L3.nil (tk : TypeId) (w : World) (B : Nat) : L3 tk w B (.slice none 0 0) [] := World.ownsRow_nil w B tk 3
theorem L3.kept (h : L3 tk w B v L) (g : w.grownBy w' none) : L3 tk w' B v L := World.ownsRow.kept h g (by cases v.ownBlock <;> simp)
theorem L3.lt (h : L3 tk w B v L) : ∀ k, v.ownBlock = some k → B ≤ k ∧ k < w.heap.size := World.ownsRow.lt h
theorem L3.block (h : L3 tk w B v L) (e : ∀ k, v.ownBlock = some k → w'.heap[k]? = w.heap[k]?) : L3 tk w' B v L := by
  refine ⟨h.1, ?_⟩
  rcases h.2 with h2 | ⟨g, cap, cur, rfl, h3, h4, h5⟩
  · exact .inl h2
  · exact .inr ⟨g, cap, cur, rfl, h3, (e g rfl).trans h4, h5⟩
theorem L3.keep {y : Nat} (h : L3 tk w B v L) (g : w.grownBy w' (some y)) (hv : ∀ k, v.ownBlock = some k → k ≠ y) : L3 tk w' B v L :=
  h.block (fun k hk => g.block k (h.lt k hk).2 (fun e => hv k hk (by cases e; rfl)))
theorem L3.base {B' : Nat} (h : L3 tk w B v L) (hb : ∀ k, v.ownBlock = some k → B' ≤ k) : L3 tk w B' v L := by
  refine ⟨h.1, ?_⟩
  rcases h.2 with h2 | ⟨g, cap, cur, rfl, h3, h4, h5⟩
  · exact .inl h2
  · exact .inr ⟨g, cap, cur, rfl, hb g rfl, h4, h5⟩
/-- What it looks like. -/
theorem L3.form (h : L3 tk w B v L) : (v = .slice none 0 0 ∧ L = []) ∨ ∃ g cap, v = .slice (some ⟨g, 0, none⟩) L.length cap ∧ L.length ≤ cap ∧ B ≤ g ∧ g < w.heap.size ∧ cap ≤ 9223372036854775807 := by
  have h0 := h.2
  rcases h0 with ⟨rfl, hn⟩ | ⟨g, cap, cur, rfl, hB, hg, hn, hm, _, _⟩
  · exact .inl ⟨rfl, List.eq_nil_of_length_eq_zero hn⟩
  · exact .inr ⟨g, cap, rfl, hn, hB, (World.ownsRow.lt h g rfl).2, by unfold maxLen at hm; omega⟩
/-- A slice whose length is that of the list. -/
theorem L3.slice {n : Nat} (h : L3 tk w B v L) (hn : L.length = n) : ∃ x cap, v = .slice x n cap := by
  rcases h.form with ⟨rfl, rfl⟩ | ⟨g, cap, rfl, _⟩
  · simp at hn; subst hn; exact ⟨_, _, rfl⟩
  · rw [hn]; exact ⟨_, _, rfl⟩
theorem L3.has {n j : Nat} (h : L3 tk w B v L) (hn : L.length = n) (hj : j < n) : ∃ g cap, v = .slice (some ⟨g, 0, none⟩) n cap ∧ B ≤ g ∧ g < w.heap.size := by
  rcases h.form with ⟨_, rfl⟩ | ⟨g, cap, rfl, _, k1, k2, _⟩
  · simp at hn; omega
  · exact ⟨g, cap, by rw [hn], k1, k2⟩
end
/-- The cells of an element. -/
structure El3 (w : World) (g o : Nat) (k : K3) : Prop where
  at0 : w.cell? ⟨g, o, none⟩ = some (.int .i64 (k.p : Int))
  at1 : w.cell? ⟨g, o + 1, none⟩ = some (.int .i64 k.a)
  at2 : w.cell? ⟨g, o + 2, none⟩ = some (.bool k.w)
theorem El3.kept {w w' : World} {g o : Nat} {k : K3} (h : El3 w g o k) (G : w.grownBy w' none) : El3 w' g o k := ⟨G.cell h.at0 (by simp), G.cell h.at1 (by simp), G.cell h.at2 (by simp)⟩
theorem L3.el {tk : TypeId} {w : World} {B g n cap : Nat} {L : List K3} (h : L3 tk w B (.slice (some ⟨g, 0, none⟩) n cap) L) (hn : L.length = n) (j : Nat) (k : K3) (hj : L[j]? = some k) : El3 w g (j * 3) k := by
  subst hn
  unfold L3 at h
  have hlt : j < L.length := (List.getElem?_eq_some_iff.1 hj).1
  obtain ⟨h0, h1, h2⟩ := cells3_get L j k hj
  exact ⟨(World.ownsRow.cellAt h _ (by omega)).trans h0, (World.ownsRow.cellAt h _ (by omega)).trans h1, (World.ownsRow.cellAt h _ (by omega)).trans h2⟩

abbrev threeCells (k : K3) : Array Value := #[.int .i64 (k.p : Int), .int .i64 k.a, .bool k.w]
theorem row3 (w : World) (k : K3) (t : TypeId) : ∀ j u, (cells3 [k])[j]? = some u → (w.alloc (.cells (threeCells k) t)).cell? ((⟨w.heap.size, 0, none⟩ : Addr).add j) = some u := by
  intro j u h
  have hj : j < 3 := by have := (List.getElem?_eq_some_iff.1 h).1; rwa [cells3_len] at this
  rw [Addr.add_lit, Nat.zero_add]
  have : j = 0 ∨ j = 1 ∨ j = 2 := by omega
  rcases this with rfl | rfl | rfl <;> (simp [cells3] at h; subst h; simp)
theorem gbNews {a b : World} {r : Option Nat} (h : a.grownBy b r) (hr : ∀ k, r = some k → a.heap.size ≤ k) : a.grownBy b none :=
  ⟨h.os, h.tape, h.output, h.size, fun i hi _ => h.block i hi (fun e => by have := hr i e.symm; omega)⟩

theorem Try.infoMapping : (Try.prog.info? 52).map (fun i => (i.zero, i.size, i.bytes)) = some (some (.agg #[.int .i64 0, .int .i64 0, .bool false]), 3, 24) := by kernel_rfl
/-- append of one element onto a list of the call's own. -/
theorem wpList_append_p {w : World} {ops : Array Oper} {rest : List Oper} {o : Oper} {a : Act} {Q : Exit → Act → World → Prop} (hw : Region.wanted o (yielded ops a.tmps) = true) (s x : Operand)
    (ho : o.op = .call { callee := .builtin .append, args := #[s, x], argTypes := #[33, 33] })
    (B : Nat) (v : Value) (L : List K3) (hs : a.eval s = v) (hown : L3 52 w B v L)
    (ad : Addr) (m c : Nat) (K : List K3) (hx : a.eval x = .slice (some ad) m c) (hm : K.length = m) (hnews : ∀ j u, (cells3 K)[j]? = some u → w.cell? (ad.add j) = some u)
    (hn : L.length + m ≤ 1000000) (hB : B ≤ w.heap.size)
    (h : ∀ v' w', L3 52 w' B v' (L ++ K) → w.grownBy w' v.ownBlock → wpList Try.prog ops Q rest (a.put o.dst v') w') : wpList Try.prog ops Q (o :: rest) a w := by
  obtain ⟨i, hi, hx0⟩ := Option.map_eq_some_iff.1 Try.infoMapping
  simp only [Prod.mk.injEq] at hx0
  obtain ⟨hz0, hz1, hz2⟩ := hx0
  refine BigFrame.wpList_want hw fun K' hK => ?_
  refine wp_append_own w s x 33 ho B 52 i (.agg #[.int .i64 0, .int .i64 0, .bool false]) 3 24 Try.underlying33 hi hz0 hz1 hz2 (by kernel_rfl) (by decide) v L.length (cells3 L) hs hown ad m c (cells3 K) hx (by rw [cells3_len, hm]) hnews (cells3_one K) (by unfold maxLen; omega) (by omega) hB ?_
  intro v' w' h2 h3 _
  refine hK _ _ (h v' w' ?_ h3)
  unfold L3
  rw [← cells3_app, List.length_append, hm]
  exact h2

theorem Try.infoMappingR : (Try.prog.info? 76).map (fun i => (i.zero, i.size, i.bytes)) = some (some (.agg #[.int .i64 0, .int .i64 0, .bool false]), 3, 24) := by kernel_rfl
/-- append of one element onto a list of the call's own. -/
theorem wpList_append_r {w : World} {ops : Array Oper} {rest : List Oper} {o : Oper} {a : Act} {Q : Exit → Act → World → Prop} (hw : Region.wanted o (yielded ops a.tmps) = true) (s x : Operand)
    (ho : o.op = .call { callee := .builtin .append, args := #[s, x], argTypes := #[36, 36] })
    (B : Nat) (v : Value) (L : List K3) (hs : a.eval s = v) (hown : L3 76 w B v L)
    (ad : Addr) (m c : Nat) (K : List K3) (hx : a.eval x = .slice (some ad) m c) (hm : K.length = m) (hnews : ∀ j u, (cells3 K)[j]? = some u → w.cell? (ad.add j) = some u)
    (hn : L.length + m ≤ 1000000) (hB : B ≤ w.heap.size)
    (h : ∀ v' w', L3 76 w' B v' (L ++ K) → w.grownBy w' v.ownBlock → wpList Try.prog ops Q rest (a.put o.dst v') w') : wpList Try.prog ops Q (o :: rest) a w := by
  obtain ⟨i, hi, hx0⟩ := Option.map_eq_some_iff.1 Try.infoMappingR
  simp only [Prod.mk.injEq] at hx0
  obtain ⟨hz0, hz1, hz2⟩ := hx0
  refine BigFrame.wpList_want hw fun K' hK => ?_
  refine wp_append_own w s x 36 ho B 76 i (.agg #[.int .i64 0, .int .i64 0, .bool false]) 3 24 Try.underlying36 hi hz0 hz1 hz2 (by kernel_rfl) (by decide) v L.length (cells3 L) hs hown ad m c (cells3 K) hx (by rw [cells3_len, hm]) hnews (cells3_one K) (by unfold maxLen; omega) (by omega) hB ?_
  intro v' w' h2 h3 _
  refine hK _ _ (h v' w' ?_ h3)
  unfold L3
  rw [← cells3_app, List.length_append, hm]
  exact h2

/-! ### What is listed -/
/-- A page's mapping, where it is mapped. -/
def M.mp (n : Nat) (F : Nat → Nat) (dir : Int) (p : Nat) : Option K3 :=
  if (M.pe n F dir ((16 * p : Nat) : Int)).2 = 0 then some ⟨p, (M.pe n F dir ((16 * p : Nat) : Int)).1.a, (M.pe n F dir ((16 * p : Nat) : Int)).1.w⟩ else none
/-- The pages below j that are mapped. -/
def M.ln (n : Nat) (F : Nat → Nat) (dir : Int) (j : Nat) : List K3 := (List.range j).filterMap (M.mp n F dir)
/-- List: what is listed, and the error. -/
def M.ls (n : Nat) (F : Nat → Nat) (dir : Int) : List K3 × Int := if M.al n dir = false then ([], 9) else (M.ln n F dir 256, 0)
theorem M.ln_zero (n : Nat) (F : Nat → Nat) (dir : Int) : M.ln n F dir 0 = [] := rfl
theorem M.ln_no {n : Nat} {F : Nat → Nat} {dir : Int} {j : Nat} {c : E} {f : Int} (h : M.pe n F dir ((16 * j : Nat) : Int) = (c, f)) (hf : f ≠ 0) : M.ln n F dir (j + 1) = M.ln n F dir j := by
  unfold M.ln
  rw [List.range_succ, List.filterMap_append]
  have : M.mp n F dir j = none := by unfold M.mp; rw [h, if_neg hf]
  simp [this]
theorem M.ln_yes {n : Nat} {F : Nat → Nat} {dir : Int} {j : Nat} {c : E} (h : M.pe n F dir ((16 * j : Nat) : Int) = (c, 0)) : M.ln n F dir (j + 1) = M.ln n F dir j ++ [⟨j, c.a, c.w⟩] := by
  unfold M.ln
  rw [List.range_succ, List.filterMap_append]
  have : M.mp n F dir j = some ⟨j, c.a, c.w⟩ := by unfold M.mp; rw [h]; rfl
  simp [this]
theorem M.ln_len (n : Nat) (F : Nat → Nat) (dir : Int) (j : Nat) : (M.ln n F dir j).length ≤ j := by
  unfold M.ln
  have := List.length_filterMap_le (M.mp n F dir) (List.range j)
  rwa [List.length_range] at this
end Go.Proofs.Ytfdnangceomeiaa
