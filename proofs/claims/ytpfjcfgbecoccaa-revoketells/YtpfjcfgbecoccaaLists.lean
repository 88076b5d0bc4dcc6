/-
  LISTS OF SLOTS IN MEMORY: two cells an element; lists of the call's own, and what append makes of them. Speaks of no function of the program.
-/
import Derived.Test.YtpfjcfgbecoccaaG3
import Derived.Laws.AppendOwn
namespace Go.Proofs.Ytpfjcfgbecoccaa
set_option maxRecDepth 10000
open Go.RowKit

def cellsL (L : List (Int × Int)) : List Value := L.flatMap fun p => [.int .i64 p.1, .int .i64 p.2]
theorem cellsL_nil : cellsL [] = [] := rfl
theorem cellsL_cons (p : Int × Int) (L : List (Int × Int)) : cellsL (p :: L) = .int .i64 p.1 :: .int .i64 p.2 :: cellsL L := rfl
theorem cellsL_app (L K : List (Int × Int)) : cellsL L ++ cellsL K = cellsL (L ++ K) := by unfold cellsL; simp
theorem cellsL_len (L : List (Int × Int)) : (cellsL L).length = L.length * 2 := by
  induction L with
  | nil => rfl
  | cons p L ih => rw [cellsL_cons]; simp [ih]; omega
theorem cellsL_get (L : List (Int × Int)) (i : Nat) (p : Int × Int) (h : L[i]? = some p) : (cellsL L)[i * 2]? = some (.int .i64 p.1) ∧ (cellsL L)[i * 2 + 1]? = some (.int .i64 p.2) := by
  induction L generalizing i with
  | nil => simp at h
  | cons q L ih =>
    rw [cellsL_cons]
    cases i with
    | zero => simp at h; subst h; exact ⟨rfl, rfl⟩
    | succ i =>
      have := ih i (by simpa using h)
      rw [show (i + 1) * 2 = i * 2 + 1 + 1 by omega]
      simpa using this
theorem cellsL_of (L : List (Int × Int)) (j : Nat) (u : Value) (h : (cellsL L)[j]? = some u) : ∃ i p, L[i]? = some p ∧ (j = i * 2 ∧ u = .int .i64 p.1 ∨ j = i * 2 + 1 ∧ u = .int .i64 p.2) := by
  have hj : j < (cellsL L).length := (List.getElem?_eq_some_iff.1 h).1
  rw [cellsL_len] at hj
  have hi : j / 2 < L.length := by omega
  obtain ⟨h1, h2⟩ := cellsL_get L (j / 2) L[j / 2] (List.getElem?_eq_getElem hi)
  refine ⟨j / 2, L[j / 2], List.getElem?_eq_getElem hi, ?_⟩
  by_cases e : j % 2 = 0
  · left; have e2 : j / 2 * 2 = j := by omega
    rw [e2, h] at h1; exact ⟨e2.symm, by simpa using h1⟩
  · right; have e2 : j / 2 * 2 + 1 = j := by omega
    rw [e2, h] at h2; exact ⟨e2.symm, by simpa using h2⟩
theorem cellsL_one (L : List (Int × Int)) : ∀ u ∈ cellsL L, u.oneCell' = true := by
  intro u hu
  unfold cellsL at hu
  simp at hu
  obtain ⟨a, b, _, rfl | rfl⟩ := hu <;> rfl

/-- One element at an address. -/
structure El (w : World) (y : Addr) (A B : Int) : Prop where
  at0 : w.cell? y = some (.int .i64 A)
  at1 : w.cell? ⟨y.block, y.off + 1, none⟩ = some (.int .i64 B)
theorem El.kept {w w' : World} {y : Addr} {A B : Int} (h : El w y A B) (g : w.grownBy w' none) : El w' y A B :=
  ⟨g.cell h.at0 (by simp), g.cell h.at1 (by simp)⟩
theorem El.keep {w w' : World} {y : Addr} {A B : Int} {r : Option Nat} (h : El w y A B) (g : w.grownBy w' r) (hr : some y.block ≠ r) : El w' y A B :=
  ⟨g.cell h.at0 hr, g.cell h.at1 hr⟩
theorem add_block (x : Addr) (n : Nat) : (x.add n).block = x.block := by unfold Addr.add; split <;> rfl
theorem add_off (x : Addr) (n : Nat) : (x.add n).off = x.off + n := by
  unfold Addr.add; split
  · rename_i h; simp [h]
  · rfl
theorem add_one (x : Addr) (n : Nat) : x.add (n + 1) = ⟨(x.add n).block, (x.add n).off + 1, none⟩ := by
  rw [add_block, add_off]; unfold Addr.add; simp; omega

/-- The elements of L lie from x on. -/
def Row (w : World) (x : Addr) (L : List (Int × Int)) : Prop := ∀ i p, L[i]? = some p → El w (x.add (i * 2)) p.1 p.2
theorem Row.kept {w w' : World} {x : Addr} {L : List (Int × Int)} (h : Row w x L) (g : w.grownBy w' none) : Row w' x L := fun i p hp => (h i p hp).kept g
theorem Row.keep {w w' : World} {x : Addr} {L : List (Int × Int)} {r : Option Nat} (h : Row w x L) (g : w.grownBy w' r) (hr : some x.block ≠ r) : Row w' x L :=
  fun i p hp => (h i p hp).keep g (by rw [add_block]; exact hr)
theorem Row.cells {w : World} {x : Addr} {L : List (Int × Int)} (h : Row w x L) : ∀ j u, (cellsL L)[j]? = some u → w.cell? (x.add j) = some u := by
  intro j u hu
  obtain ⟨i, p, hp, ⟨rfl, rfl⟩ | ⟨rfl, rfl⟩⟩ := cellsL_of L j u hu
  · exact (h i p hp).at0
  · rw [add_one]; exact (h i p hp).at1
theorem Row.ofCells {w : World} {x : Addr} {L : List (Int × Int)} (h : ∀ j u, (cellsL L)[j]? = some u → w.cell? (x.add j) = some u) : Row w x L := by
  intro i p hp
  obtain ⟨h1, h2⟩ := cellsL_get L i p hp
  refine ⟨h _ _ h1, ?_⟩
  have := h _ _ h2
  rwa [add_one] at this

/-- A list of the call's own. -/
def Lst (w : World) (B : Nat) (v : Value) (L : List (Int × Int)) : Prop := w.ownsRow B 24 2 v L.length (cellsL L)
theorem Lst.nil (w : World) (B : Nat) : Lst w B (.slice none 0 0) [] := World.ownsRow_nil w B 24 2
theorem Lst.kept {w w' : World} {B : Nat} {v : Value} {L : List (Int × Int)} (h : Lst w B v L) (g : w.grownBy w' none) : Lst w' B v L :=
  World.ownsRow.kept h g (by cases v.ownBlock <;> simp)
theorem Lst.lt {w : World} {B : Nat} {v : Value} {L : List (Int × Int)} (h : Lst w B v L) : ∀ k, v.ownBlock = some k → B ≤ k ∧ k < w.heap.size := World.ownsRow.lt h
/-- What it looks like. -/
theorem Lst.form {w : World} {B : Nat} {v : Value} {L : List (Int × Int)} (h : Lst w B v L) :
    (v = .slice none 0 0 ∧ L = []) ∨ ∃ g cap, v = .slice (some ⟨g, 0, none⟩) L.length cap ∧ L.length ≤ cap ∧ B ≤ g ∧ g < w.heap.size ∧ cap ≤ 9223372036854775807 ∧ Row w ⟨g, 0, none⟩ L := by
  have h0 := h.2
  rcases h0 with ⟨rfl, hn⟩ | ⟨g, cap, cur, rfl, hB, hg, hn, hm, _, _⟩
  · exact .inl ⟨rfl, List.eq_nil_of_length_eq_zero hn⟩
  · exact .inr ⟨g, cap, rfl, hn, hB, (World.ownsRow.lt h g rfl).2, by unfold maxLen at hm; omega, Row.ofCells (World.ownsRow.cells h (g := g) rfl)⟩

theorem Try.infoSlot : (Try.prog.info? 24).map (fun i => (i.zero, i.size, i.bytes)) = some (some (.agg #[.int .i64 0, .int .i64 0]), 2, 16) := by kernel_rfl

/-- append of the elements of K onto a list of the call's own. -/
theorem wpList_append_slot {w : World} {ops : Array Oper} {rest : List Oper} {o : Oper} {a : Act} {Q : Exit → Act → World → Prop} (hw : Region.wanted o (yielded ops a.tmps) = true) (s x : Operand)
    (ho : o.op = .call { callee := .builtin .append, args := #[s, x], argTypes := #[29, 29] })
    (B : Nat) (v : Value) (L : List (Int × Int)) (hs : a.eval s = v) (hown : Lst w B v L)
    (ad : Addr) (m c : Nat) (K : List (Int × Int)) (hx : a.eval x = .slice (some ad) m c) (hm : K.length = m) (hnews : Row w ad K)
    (hn : L.length + m ≤ 1000000) (hB : B ≤ w.heap.size)
    (h : ∀ v' w', Lst w' B v' (L ++ K) → w.grownBy w' v.ownBlock → wpList Try.prog ops Q rest (a.put o.dst v') w') : wpList Try.prog ops Q (o :: rest) a w := by
  obtain ⟨i, hi, hx0⟩ := Option.map_eq_some_iff.1 Try.infoSlot
  simp only [Prod.mk.injEq] at hx0
  obtain ⟨hz0, hz1, hz2⟩ := hx0
  refine BigFrame.wpList_want hw fun K' hK => ?_
  refine wp_append_own w s x 29 ho B 24 i (.agg #[.int .i64 0, .int .i64 0]) 2 16 Try.underlying29 hi hz0 hz1 hz2 (by kernel_rfl) (by decide) v L.length (cellsL L) hs hown ad m c (cellsL K) hx (by rw [cellsL_len, hm]) hnews.cells (cellsL_one K) (by unfold maxLen; omega) (by omega) hB ?_
  intro v' w' h2 h3 _
  refine hK _ _ (h v' w' ?_ h3)
  unfold Lst
  rw [← cellsL_app, List.length_append, hm]
  exact h2

theorem gbNews {a b : World} {r : Option Nat} (h : a.grownBy b r) (hr : ∀ k, r = some k → a.heap.size ≤ k) : a.grownBy b none :=
  ⟨h.os, h.tape, h.output, h.size, fun i hi _ => h.block i hi (fun e => by have := hr i e.symm; omega)⟩

end Go.Proofs.Ytpfjcfgbecoccaa
