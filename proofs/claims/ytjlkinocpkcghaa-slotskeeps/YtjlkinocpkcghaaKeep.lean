/-
  WHAT SlotsKeeps KEEPS: facts on what lies where, and the memory of its loops.
-/
import Derived.Test.YtjlkinocpkcghaaCmap
namespace Go.Proofs.Ytjlkinocpkcghaa
open Go.RowKit
set_option linter.unusedVariables false

namespace M
/-- What lies in a slot, if it is not empty. -/
def inF (S : St) (n i : Int) : Option C := if (getC S n i).k = 0 then none else some (getC S n i)
theorem getC_nul {S : St} (G : Good S) {n i : Int} (h : (getC S n i).k = 0) : getC S n i = C.zero := by
  cases ht : there S n i
  · exact getC_no ht
  · obtain ⟨d, j, hs, rfl, hj⟩ := there_yes ht
    rw [getC_at hs hj] at h ⊢
    exact G.nul n d j hs h
theorem inF_getD {S : St} (G : Good S) (n i : Int) : (inF S n i).getD C.zero = getC S n i := by
  unfold inF
  split
  · rename_i h; rw [getC_nul G h]; rfl
  · rfl
theorem inF_is (S : St) (n i : Int) : (inF S n i).isSome = ((getC S n i).k != 0) := by
  unfold inF
  split
  · rename_i h; rw [h]; rfl
  · rename_i h; simp [h]
theorem there_upd (S : St) (n i : Int) (c : C) (a b : Int) : there (upd S n i c) a b = there S a b := by
  unfold there upd
  by_cases e : a = n
  · subst e
    rw [if_pos rfl]
    cases S a <;> rfl
  · rw [if_neg e]
theorem getC_upd {S : St} {n i : Int} (c : C) (ht : there S n i = true) (a b : Int) : getC (upd S n i c) a b = if a = n ∧ b = i then c else getC S a b := by
  obtain ⟨d, j, hs, rfl, hj⟩ := there_yes ht
  cases h2 : there S a b
  · rw [getC_no h2, getC_no (by rw [there_upd]; exact h2)]
    rw [if_neg (by rintro ⟨rfl, rfl⟩; rw [ht] at h2; cases h2)]
  · obtain ⟨d2, j2, hs2, rfl, hj2⟩ := there_yes h2
    rw [getC_at hs2 hj2]
    by_cases e : a = n
    · subst e
      rw [hs] at hs2; cases hs2
      have hu : upd S a j c a = some (d.set j c) := by unfold upd; rw [if_pos rfl, hs]; simp
      rw [getC_at hu (by exact hj2), Nd.set_at]
      by_cases e2 : j2 = j
      · subst e2; simp
      · rw [if_neg e2, if_neg (by omega)]
    · have hu : upd S n j c a = some d2 := by unfold upd; rw [if_neg e]; exact hs2
      rw [getC_at hu hj2, if_neg (by intro h; exact e h.1)]
theorem inF_take (S : St) (n i : Int) (a b : Int) : inF (takeS S n i) a b = if a = n ∧ b = i then none else inF S a b := by
  unfold takeS
  by_cases h : takeE S n i = 0
  · rw [if_pos h]
    obtain ⟨ht, _⟩ := takeE_ok h
    unfold inF
    rw [getC_upd C.zero ht]
    by_cases e : a = n ∧ b = i
    · rw [if_pos e, if_pos e]; rfl
    · rw [if_neg e, if_neg e]
  · rw [if_neg h]
    by_cases e : a = n ∧ b = i
    · obtain ⟨rfl, rfl⟩ := e
      rw [if_pos ⟨rfl, rfl⟩]
      unfold inF
      rw [if_pos]
      unfold takeE at h
      cases ht : there S a b
      · rw [getC_no ht]
      · rw [ht] at h
        by_cases hk : (getC S a b).k = 0
        · exact hk
        · simp [hk] at h
    · rw [if_neg e]
theorem inF_put {S : St} {n i : Int} {c : C} (h : putE S n i c = 0) (a b : Int) : inF (putS S n i c) a b = if a = n ∧ b = i then some c else inF S a b := by
  unfold putS
  rw [if_pos h]
  obtain ⟨ht, _, hk, _⟩ := putE_ok h
  unfold inF
  rw [getC_upd c ht]
  by_cases e : a = n ∧ b = i
  · rw [if_pos e, if_pos e, if_neg hk]
  · rw [if_neg e, if_neg e]
theorem putS_no {S : St} {n i : Int} {c : C} (h : putE S n i c ≠ 0) : putS S n i c = S := by unfold putS; rw [if_neg h]
theorem inF_full {S : St} {n i : Int} {c : C} (h : putE S n i c = 0) : inF S n i = none := by
  unfold inF
  rw [if_pos (putE_ok h).2.2.2]
theorem takeC_is {S : St} (G : Good S) (n i : Int) : takeC S n i = (inF S n i).getD C.zero := by
  rw [inF_getD G]
  unfold takeC
  split
  · rfl
  · rename_i h
    unfold takeE at h
    cases ht : there S n i
    · rw [getC_no ht]
    · rw [ht] at h
      by_cases hk : (getC S n i).k = 0
      · rw [getC_nul G hk]
      · simp [hk] at h
theorem takeE_is (S : St) (n i : Int) : (takeE S n i == 0) = (inF S n i).isSome := by
  rw [inF_is]
  unfold takeE
  cases ht : there S n i
  · rw [getC_no ht]; rfl
  · by_cases hk : (getC S n i).k = 0
    · simp [hk]
    · simp [hk]

/-! ### Four nodes -/
/-- Nodes 0 to 3, of the radix 1 to 4, and no other one. -/
def Four (S : St) : Prop := ∀ id : Int, (0 ≤ id ∧ id < 4 → ∃ d, S id = some d ∧ (d.r : Int) = id + 1) ∧ (¬ (0 ≤ id ∧ id < 4) → S id = none)
theorem Four.upd {S : St} (h : Four S) (n i : Int) (c : C) : Four (upd S n i c) := by
  intro id
  obtain ⟨h1, h2⟩ := h id
  unfold M.upd
  by_cases e : id = n
  · subst e
    rw [if_pos rfl]
    refine ⟨fun hb => ?_, fun hb => ?_⟩
    · obtain ⟨d, hd, hr⟩ := h1 hb
      rw [hd]
      exact ⟨d.set i.toNat c, rfl, hr⟩
    · rw [h2 hb]; rfl
  · rw [if_neg e]; exact ⟨h1, h2⟩
theorem Four.take {S : St} (h : Four S) (n i : Int) : Four (takeS S n i) := by unfold takeS; split; exact h.upd _ _ _; exact h
theorem Four.put {S : St} (h : Four S) (n i : Int) (c : C) : Four (putS S n i c) := by unfold putS; split; exact h.upd _ _ _; exact h
/-- The nodes below j are laid. -/
def nodes : Nat → St
  | 0 => fun _ => none
  | j + 1 => addS (nodes j) j ((j + 1 : Nat) : Int)
theorem nodes_good : ∀ j, Good (nodes j)
  | 0 => Good.none
  | j + 1 => (nodes_good j).add _ _
theorem nodes_add : ∀ j, j < 4 → addE (nodes j) j ((j + 1 : Nat) : Int) = 0
  | 0, _ => by decide +kernel
  | 1, _ => by decide +kernel
  | 2, _ => by decide +kernel
  | 3, _ => by decide +kernel
  | n + 4, h => absurd h (by omega)
theorem nodes_is : ∀ j : Nat, j ≤ 4 → ∀ id : Int, nodes j id = if 0 ≤ id ∧ id < j then some ⟨(id + 1).toNat, fun _ => C.zero⟩ else none
  | 0, _, id => by rw [if_neg (by omega)]; rfl
  | j + 1, h, id => by
    show addS (nodes j) j ((j + 1 : Nat) : Int) id = _
    unfold addS
    rw [if_pos (nodes_add j (by omega)), nodes_is j (by omega)]
    by_cases e : id = j
    · subst e
      rw [if_pos rfl, if_pos (by omega)]
      rfl
    · rw [if_neg e]
      by_cases h2 : 0 ≤ id ∧ id < (j : Int)
      · rw [if_pos h2, if_pos (by omega)]
      · rw [if_neg h2, if_neg (by omega)]
theorem nodes_four : Four (nodes 4) := by
  intro id
  rw [nodes_is 4 (by omega)]
  refine ⟨fun h => ?_, fun h => ?_⟩
  · rw [if_pos (by omega)]
    exact ⟨_, rfl, by show ((id + 1).toNat : Int) = id + 1; omega⟩
  · rw [if_neg (by omega)]
theorem nodes_in (a b : Int) : inF (nodes 4) a b = none := by
  unfold inF
  rw [if_pos]
  unfold getC
  rw [nodes_is 4 (by omega)]
  split
  · rfl
  · rename_i h
    split at h
    · cases h; split <;> rfl
    · cases h

/-- All slots of node j below c; all slots of the nodes below m. -/
def rowAll (j : Nat) (c : Nat) : List (Int × Int) := (List.range c).map fun i : Nat => ((j : Int), (i : Int))
def allTo : Nat → List (Int × Int)
  | 0 => []
  | j + 1 => allTo j ++ rowAll j (2 ^ (j + 1))
theorem rowAll_succ (j c : Nat) : rowAll j (c + 1) = rowAll j c ++ [((j : Int), (c : Int))] := by unfold rowAll; rw [List.range_succ]; simp
theorem rowAll_len (j c : Nat) : (rowAll j c).length = c := by unfold rowAll; simp
theorem allTo_len : ∀ j, j ≤ 4 → (allTo j).length ≤ 30
  | 0, _ => by decide
  | 1, _ => by decide
  | 2, _ => by decide
  | 3, _ => by decide
  | 4, _ => by decide
  | n + 5, h => absurd h (by omega)
theorem allTo_mem : ∀ {m : Nat} {p : Int × Int}, p ∈ allTo m → ∃ j i : Nat, j < m ∧ i < 2 ^ (j + 1) ∧ p = ((j : Int), (i : Int))
  | 0, p, h => by cases h
  | m + 1, p, h => by
    rcases List.mem_append.1 h with h | h
    · obtain ⟨j, i, h1, h2, h3⟩ := allTo_mem h
      exact ⟨j, i, by omega, h2, h3⟩
    · unfold rowAll at h
      simp only [List.mem_map, List.mem_range] at h
      obtain ⟨i, h1, h2⟩ := h
      exact ⟨m, i, by omega, h1, h2.symm⟩
theorem pow_le16 {j : Nat} (h : j < 4) : 2 ^ (j + 1) ≤ 16 := by
  have : j = 0 ∨ j = 1 ∨ j = 2 ∨ j = 3 := by omega
  rcases this with rfl | rfl | rfl | rfl <;> decide
theorem all_there {S : St} (h : Four S) {p : Int × Int} (hp : p ∈ allTo 4) : there S p.1 p.2 = true ∧ I64 p.1 ∧ I64 p.2 := by
  obtain ⟨j, i, h1, h2, rfl⟩ := allTo_mem hp
  obtain ⟨d, hd, hr⟩ := (h j).1 (by omega)
  have e : d.r = j + 1 := by omega
  have := pow_le16 h1
  exact ⟨there_at hd (by rw [e]; exact h2), i64_of (by omega) (by omega), i64_of (by omega) (by omega)⟩
theorem rowTo_cut {S : St} (G : Good S) {id : Int} {d : Nd} (hd : S id = some d) : ∀ k, rowTo id d (2 ^ d.r + k) = rowTo id d (2 ^ d.r)
  | 0 => rfl
  | k + 1 => by
    rw [← Nat.add_assoc, rowTo_succ, G.out id d _ hd (Nat.le_add_right _ _), rowTo_cut G hd k]
    simp
theorem fullTo_all {S : St} (G : Good S) (h : Four S) : ∀ m, m ≤ 4 → fullTo S m = (allTo m).filter fun p => (getC S p.1 p.2).k != 0
  | 0, _ => rfl
  | m + 1, hm => by
    obtain ⟨d, hd, hr⟩ := (h m).1 (by omega)
    have e : d.r = m + 1 := by omega
    have h16 := pow_le16 (j := m) (by omega)
    rw [fullTo_some hd, fullTo_all G h m (by omega), allTo, List.filter_append]
    congr 1
    have e2 : (16 : Nat) = 2 ^ d.r + (16 - 2 ^ d.r) := by rw [e]; omega
    rw [e2, rowTo_cut G hd]
    unfold rowTo rowAll
    rw [e, List.filter_map]
    congr 1
    apply List.filter_congr
    intro i hi
    have hi2 : i < 2 ^ d.r := by rw [e]; simpa using hi
    simp only [Function.comp]
    rw [getC_at hd hi2]
theorem fullTo_rest {S : St} (h : Four S) : ∀ k, fullTo S (4 + k) = fullTo S 4
  | 0 => rfl
  | k + 1 => by
    rw [← Nat.add_assoc, fullTo_none ((h _).2 (by omega)), fullTo_rest h k]
theorem full_all {S : St} (G : Good S) (h : Four S) : full S = (allTo 4).filter fun p => (getC S p.1 p.2).k != 0 := by
  show fullTo S (4 + 60) = _
  rw [fullTo_rest h, fullTo_all G h 4 (by omega)]
/-- How many of the first c are not empty. -/
def nOf (S : St) (c : Nat) : Nat := (((allTo 4).take c).filter fun p => (getC S p.1 p.2).k != 0).length
theorem nOf_succ {S : St} {c : Nat} {p : Int × Int} (h : (allTo 4)[c]? = some p) : nOf S (c + 1) = nOf S c + (if (getC S p.1 p.2).k != 0 then 1 else 0) := by
  unfold nOf
  rw [take_succ' h, List.filter_append, List.length_append]
  congr 1
  simp only [List.filter_cons, List.filter_nil]
  split <;> rfl
theorem nOf_le (S : St) (c : Nat) : nOf S c ≤ c := by
  unfold nOf
  exact Nat.le_trans (List.length_filter_le _ _) (by rw [List.length_take]; omega)
theorem nOf_all {S : St} (G : Good S) (h : Four S) : nOf S (allTo 4).length = (full S).length := by
  unfold nOf
  rw [List.take_of_length_le (Nat.le_refl _), full_all G h]
end M

/-! ### The memory of the loops -/
theorem Lst.fr {O : Nat → Prop} {w w' : World} {B : Nat} {v : Value} {L : List (Int × Int)} (h : Lst w B v L) (k : Fr O w w') (ho : ∀ b, v.ownBlock = some b → ¬ O b) : Lst w' B v L := by
  refine ⟨h.1, ?_⟩
  rcases h.2 with hn | ⟨g, cap, cur, rfl, hb, hgg, rest⟩
  · exact .inl hn
  · exact .inr ⟨g, cap, cur, rfl, hb, (k.block g (Array.getElem?_eq_some_iff.1 hgg).1 (ho g rfl)).trans hgg, rest⟩
structure Hold (w0 w : World) (O : Nat → Prop) (p n B mb nm : Nat) (S : St) (v : Value) (L : List (Int × Int)) (F : Int → Int → Option C) : Prop where
  st : SAt w p n O S
  ls : Lst w B v L
  lo : ∀ k, v.ownBlock = some k → ¬ O k ∧ k ≠ mb
  ob : ∀ i, O i → w0.heap.size ≤ i ∧ i < w.heap.size ∧ i ≠ mb
  mp : CMap w mb nm F
  mlo : w0.heap.size ≤ mb
  blo : w0.heap.size ≤ B
  bhi : B ≤ w.heap.size
  bel : Below w0.heap.size w0 w
  gd : Good S

theorem Hold.size {w0 w : World} {O : Nat → Prop} {p n B mb nm : Nat} {S : St} {v : Value} {L : List (Int × Int)} {F : Int → Int → Option C} (h : Hold w0 w O p n B mb nm S v L F) : w0.heap.size ≤ w.heap.size := h.bel.size
/-- Nothing of it was written. -/
theorem Hold.away {O' : Nat → Prop} {w0 w w' : World} {O : Nat → Prop} {p n B mb nm : Nat} {S : St} {v : Value} {L : List (Int × Int)} {F : Int → Int → Option C} (h : Hold w0 w O p n B mb nm S v L F) (k : Fr O' w w') (ho : ∀ i, O' i → w.heap.size ≤ i) : Hold w0 w' O p n B mb nm S v L F :=
  ⟨h.st.kept (k.new fun i hi e => by have := ho i e; omega), h.ls.kept (k.new fun i hi e => by have := ho i e; omega), h.lo, fun i hi => ⟨(h.ob i hi).1, Nat.lt_of_lt_of_le (h.ob i hi).2.1 k.size, (h.ob i hi).2.2⟩,
    h.mp.fr k (fun e => by have := ho _ e; have := h.mp.lt; omega), h.mlo, h.blo, Nat.le_trans h.bhi k.size, h.bel.trans (k.below _ h.size (fun i e => Nat.le_trans h.size (ho i e))), h.gd⟩
theorem Hold.kept {w0 w w' : World} {O : Nat → Prop} {p n B mb nm : Nat} {S : St} {v : Value} {L : List (Int × Int)} {F : Int → Int → Option C} (h : Hold w0 w O p n B mb nm S v L F) (k : w.grownBy w' none) : Hold w0 w' O p n B mb nm S v L F :=
  h.away (O' := fun _ => False) (Fr.grown k) (fun _ e => e.elim)
/-- The store was written. -/
theorem Hold.store {w0 w w' : World} {O O2 : Nat → Prop} {p n n2 B mb nm : Nat} {S S2 : St} {v : Value} {L : List (Int × Int)} {F : Int → Int → Option C} (h : Hold w0 w O p n B mb nm S v L F) (k : Fr O w w') (h2 : SAt w' p n2 O2 S2) (g2 : Good S2) (ho : ∀ i, O2 i → O i ∨ (w.heap.size ≤ i ∧ i < w'.heap.size)) : Hold w0 w' O2 p n2 B mb nm S2 v L F := by
  have hb : ∀ kk, v.ownBlock = some kk → kk < w.heap.size := fun kk hk => (h.ls.lt kk hk).2
  have hm := h.mp.lt
  refine ⟨h2, h.ls.fr k (fun b hb => (h.lo b hb).1), ?_, ?_, h.mp.fr k (fun e => (h.ob _ e).2.2 rfl), h.mlo, h.blo, Nat.le_trans h.bhi k.size, h.bel.trans (k.below _ h.size (fun i e => (h.ob i e).1)), g2⟩
  · intro kk hk
    refine ⟨fun e => ?_, (h.lo kk hk).2⟩
    rcases ho kk e with e | e
    · exact (h.lo kk hk).1 e
    · have := hb kk hk; omega
  · intro i hi
    rcases ho i hi with e | e
    · have := h.ob i e; exact ⟨this.1, Nat.lt_of_lt_of_le this.2.1 k.size, this.2.2⟩
    · have := h.size; exact ⟨by omega, e.2, by omega⟩

/-- The list was written. -/
theorem Hold.list {w0 w w' : World} {O : Nat → Prop} {p n B mb nm : Nat} {S : St} {v v2 : Value} {L L2 : List (Int × Int)} {F : Int → Int → Option C} (h : Hold w0 w O p n B mb nm S v L F) (k : w.grownBy w' v.ownBlock) (h2 : Lst w' B v2 L2) (hl : v2.ownBlock = v.ownBlock ∨ v2.ownBlock = some w.heap.size) : Hold w0 w' O p n B mb nm S v2 L2 F := by
  have kf : Fr (fun i => v.ownBlock = some i) w w' := ⟨k.os, k.tape, k.output, k.size, fun i hi ho => k.block i hi (fun e => ho e.symm)⟩
  have hm := h.mp.lt
  refine ⟨h.st.fr kf (fun i hi e => (h.lo i e).1 hi), h2, ?_, fun i hi => ⟨(h.ob i hi).1, Nat.lt_of_lt_of_le (h.ob i hi).2.1 k.size, (h.ob i hi).2.2⟩, h.mp.fr kf (fun e => (h.lo _ e).2 rfl), h.mlo, h.blo, Nat.le_trans h.bhi k.size,
    h.bel.trans (kf.below _ h.size (fun i e => Nat.le_trans h.blo (h.ls.lt i e).1)), h.gd⟩
  intro kk hk
  rcases hl with e | e
  · rw [e] at hk; exact h.lo kk hk
  · rw [e] at hk; cases hk
    exact ⟨fun e => by have := (h.ob _ e).2.1; omega, by omega⟩
/-- The map was written. -/
theorem Hold.map {w0 w w' : World} {O : Nat → Prop} {p n B mb nm nm2 : Nat} {S : St} {v : Value} {L : List (Int × Int)} {F F2 : Int → Int → Option C} (h : Hold w0 w O p n B mb nm S v L F) (k : w.grownBy w' (some mb)) (h2 : CMap w' mb nm2 F2) : Hold w0 w' O p n B mb nm2 S v L F2 := by
  have kf : Fr (fun i => i = mb) w w' := Fr.at k rfl
  exact ⟨h.st.fr kf (fun i hi e => (h.ob i hi).2.2 e), h.ls.fr kf (fun i hi e => (h.lo i hi).2 e), h.lo, fun i hi => ⟨(h.ob i hi).1, Nat.lt_of_lt_of_le (h.ob i hi).2.1 k.size, (h.ob i hi).2.2⟩, h2, h.mlo, h.blo, Nat.le_trans h.bhi k.size,
    h.bel.trans (kf.below _ h.size (fun i e => by rw [e]; exact h.mlo)), h.gd⟩

end Go.Proofs.Ytjlkinocpkcghaa
