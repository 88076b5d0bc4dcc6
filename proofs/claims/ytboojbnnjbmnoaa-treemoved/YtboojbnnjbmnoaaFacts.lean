/-
  PLAIN FACTS for the laws: parents lead from a slot to another one just where it is of its kin; lists without doubles that have the same members; a tree that grows beside the list of its slots.
-/
import Derived.Test.YtboojbnnjbmnoaaLeads
namespace Go.Proofs.Ytboojbnnjbmnoaa
open Go.RowKit
set_option linter.unusedVariables false

namespace Fo
theorem view_part {f d : Fo} {t x : Int × Int} {p : Option (Int × Int)} (hn : f.pre.Nodup) (h : f.sub t = some d) (hx : x ∈ d.pre) : f.view p x = d.view (some t) x := by
  induction f using Fo.ind generalizing p with
  | nil => cases h
  | node bb oo a e r ihe ihr =>
    obtain ⟨h1, h2, h3, h4, h5⟩ := nodup_node.1 hn
    have hv := @view_node bb oo a e r hn p x
    simp only [sub] at h
    split at h
    · rename_i ea; cases h; subst ea; exact hv.1 hx
    · cases he : e.sub t with
      | some z => rw [he] at h; simp at h; subst h; rw [hv.1 (sub_pre he hx)]; exact ihe h3 he
      | none => rw [he] at h; simp at h; rw [hv.2 (sub_pre h hx)]; exact ihr h4 h
theorem kin_sub {f d : Fo} {t : Int × Int} (h : f.sub t = some d) : f.kin t = d.pre := by unfold kin; rw [h]
theorem kin_mem {f : Fo} {t x : Int × Int} (h : x ∈ f.kin t) : ∃ d, f.sub t = some d ∧ x ∈ d.pre := by
  unfold kin at h
  cases hs : f.sub t with
  | none => rw [hs] at h; cases h
  | some d => rw [hs] at h; exact ⟨d, rfl, h⟩
theorem kin_in {f : Fo} {t x : Int × Int} (h : x ∈ f.kin t) : x ∈ f.pre := by
  obtain ⟨d, h1, h2⟩ := kin_mem h
  exact sub_pre h1 h2
theorem kin_self {f : Fo} {t : Int × Int} (hn : f.pre.Nodup) : t ∉ f.kin t := fun h => by
  obtain ⟨d, h1, h2⟩ := kin_mem h
  exact (nodup_sub hn h1).2 h2
theorem kin_nodup {f : Fo} (t : Int × Int) (hn : f.pre.Nodup) : (f.kin t).Nodup := by
  unfold kin
  cases hs : f.sub t with
  | none => simp
  | some d => exact (nodup_sub hn hs).1
theorem kin_trans {f : Fo} {x y z : Int × Int} (hn : f.pre.Nodup) (h1 : x ∈ f.kin y) (h2 : y ∈ f.kin z) : x ∈ f.kin z := by
  obtain ⟨d, hd, hx⟩ := kin_mem h1
  obtain ⟨e, he, hy⟩ := kin_mem h2
  rw [kin_sub he]
  rw [sub_sub hn he hy] at hd
  exact sub_pre hd hx
theorem kin_smaller {f : Fo} {x t : Int × Int} (hn : f.pre.Nodup) (h : x ∈ f.kin t) : (f.kin x).length < (f.kin t).length := by
  obtain ⟨d, hd, hx⟩ := kin_mem h
  obtain ⟨e, he⟩ := sub_some.2 (sub_pre hd hx)
  rw [kin_sub hd, kin_sub he]
  exact kin_lt hn hd hx he
/-- What a slot comes of has it in its kin. -/
theorem parent_kin {f : Fo} {x p : Int × Int} (hn : f.pre.Nodup) (h : f.parent x = some p) : x ∈ f.children p ∧ x ∈ f.kin p := by
  cases hs : f.has x with
  | false => rw [(hasnt hs).2.2.1] at h; cases h
  | true =>
    have hv := has_view hs
    rw [h] at hv
    rcases par_child hn hv with e | ⟨y, z, e1, e2, e3⟩
    · cases e
    · cases e1
      obtain ⟨z1, z2⟩ := z
      obtain ⟨d, hd, rfl⟩ := view_some e2
      rw [kin_sub hd]
      refine ⟨?_, tops_pre e3⟩
      unfold children; rw [hd]; exact e3
/-- A slot of a slot's kin comes of it, or of one of its kin. -/
theorem kin_parent {f : Fo} {x t : Int × Int} (hn : f.pre.Nodup) (h : x ∈ f.kin t) : ∃ p, f.parent x = some p ∧ (p = t ∨ p ∈ f.kin t) := by
  obtain ⟨d, hd, hx⟩ := kin_mem h
  have hv := view_part (p := none) hn hd hx
  cases hw : d.view (some t) x with
  | none => exact absurd hx (view_none.1 hw)
  | some y =>
    obtain ⟨q, l⟩ := y
    rw [hw] at hv
    have hp := (view_has hv).1
    rcases view_par hw with e | ⟨p, e, hp2⟩
    · exact ⟨t, by rw [hp, e], .inl rfl⟩
    · exact ⟨p, by rw [hp, e], .inr (by rw [kin_sub hd]; exact hp2)⟩
theorem lead_kin {f : Fo} (hn : f.pre.Nodup) (t : Int × Int) : ∀ (y : Nat) (x : Int × Int), M.lead f y x t = true → x ∈ f.kin t
  | 0, x, h => by cases h
  | y + 1, x, h => by
    unfold M.lead at h
    cases hp : f.parent x with
    | none => rw [hp] at h; cases h
    | some p =>
      rw [hp] at h
      simp only at h
      have hk := (parent_kin hn hp).2
      by_cases e : p = t
      · rw [← e]; exact hk
      · rw [if_neg e] at h
        exact kin_trans hn hk (lead_kin hn t y p h)
theorem kin_lead {f : Fo} (hn : f.pre.Nodup) (t : Int × Int) : ∀ (y : Nat) (x : Int × Int), x ∈ f.kin t → (f.kin t).length ≤ y + (f.kin x).length → M.lead f y x t = true
  | 0, x, h, hl => by have := kin_smaller hn h; omega
  | y + 1, x, h, hl => by
    obtain ⟨p, hp, e⟩ := kin_parent hn h
    unfold M.lead
    rw [hp]
    simp only
    by_cases e2 : p = t
    · rw [if_pos e2]
    · rw [if_neg e2]
      have hpk := e.resolve_left e2
      have := kin_smaller hn (parent_kin hn hp).2
      exact kin_lead hn t y p hpk (by omega)
theorem lead_is {f : Fo} (hn : f.pre.Nodup) (hl : f.len ≤ 60) (x t : Int × Int) : M.lead f 60 x t = decide (x ∈ f.kin t) := by
  by_cases h : x ∈ f.kin t
  · rw [decide_eq_true h]
    refine kin_lead hn t 60 x h ?_
    obtain ⟨d, hd, _⟩ := kin_mem h
    have := sub_len hd
    rw [kin_sub hd]
    unfold len at hl
    omega
  · rw [decide_eq_false h]
    cases hv : M.lead f 60 x t with
    | false => rfl
    | true => exact absurd (lead_kin hn t 60 x hv) h
theorem kin_len {f : Fo} (t : Int × Int) : (f.kin t).length ≤ f.len := by
  unfold kin len
  cases hs : f.sub t with
  | none => simp
  | some d => exact Nat.le_of_lt (sub_len hs)
end Fo

/-! ### Lists without doubles -/
theorem sub_le {l m : List (Int × Int)} (hn : l.Nodup) (h : ∀ x ∈ l, x ∈ m) : l.length ≤ m.length := by
  induction l generalizing m with
  | nil => simp
  | cons a l ih =>
    rw [List.nodup_cons] at hn
    have h1 := h a (by simp)
    have h2 := ih (m := m.erase a) hn.2 (fun x hx => (List.mem_erase_of_ne (show x ≠ a from fun e => hn.1 (e ▸ hx))).2 (h x (by simp [hx])))
    rw [List.length_erase_of_mem h1] at h2
    have := List.length_pos_of_mem h1
    simp
    omega
theorem same_len {l m : List (Int × Int)} (hl : l.Nodup) (hm : m.Nodup) (h : ∀ x, x ∈ l ↔ x ∈ m) : l.length = m.length :=
  Nat.le_antisymm (sub_le hl (fun x hx => (h x).1 hx)) (sub_le hm (fun x hx => (h x).2 hx))

namespace M
/-- How many of the first k are of K. -/
def cnt (I K : List (Int × Int)) (k : Nat) : Nat := ((I.take k).filter fun x => decide (x ∈ K)).length
theorem cnt_succ {I K : List (Int × Int)} {k : Nat} {x : Int × Int} (h : I[k]? = some x) : cnt I K (k + 1) = cnt I K k + if decide (x ∈ K) then 1 else 0 := by
  unfold cnt
  rw [List.take_add_one, h, List.filter_append, List.length_append]
  congr 1
  simp only [Option.toList_some, List.filter_cons, List.filter_nil]
  split <;> rfl
theorem cnt_le (I K : List (Int × Int)) (k : Nat) : cnt I K k ≤ k := by
  unfold cnt
  exact Nat.le_trans (List.length_filter_le _ _) (List.length_take_le _ _)
theorem cnt_all {I K : List (Int × Int)} (hI : I.Nodup) (hK : K.Nodup) (h : ∀ x ∈ K, x ∈ I) : cnt I K I.length = K.length := by
  unfold cnt
  rw [List.take_of_length_le (Nat.le_refl _)]
  exact same_len (hI.filter _) hK (fun x => by simp only [List.mem_filter, decide_eq_true_eq]; exact ⟨fun e => e.2, fun e => ⟨h x e, e⟩⟩)
end M

/-! ### A tree that grows beside the list of its slots -/
structure G9 (w wr : World) (p : Nat) (vin : Value) (f : Fo) (I : List (Int × Int)) : Prop where
  own : ∃ O, Own w wr O p f ∧ ∀ g, vin.ownBlock = some g → ¬ O g
  lst : Lst wr w.heap.size vin I
  nd : I.Nodup
  mem : ∀ x, x ∈ I ↔ x ∈ f.pre
theorem G9.kept {w wr w' : World} {p : Nat} {vin : Value} {f : Fo} {I : List (Int × Int)} (h : G9 w wr p vin f I) (g : wr.grownBy w' none) : G9 w w' p vin f I := by
  obtain ⟨O, h1, h2⟩ := h.own
  exact ⟨⟨O, h1.kept g, h2⟩, h.lst.kept g, h.nd, h.mem⟩
theorem G9.gr {w wr : World} {p : Nat} {vin : Value} {f : Fo} {I : List (Int × Int)} (h : G9 w wr p vin f I) : w.grownBy wr none := by
  obtain ⟨O, h1, _⟩ := h.own
  exact h1.gr
theorem G9.good {w wr : World} {p : Nat} {vin : Value} {f : Fo} {I : List (Int × Int)} (h : G9 w wr p vin f I) : Good f := by
  obtain ⟨O, h1, _⟩ := h.own
  exact h1.good
theorem G9.len {w wr : World} {p : Nat} {vin : Value} {f : Fo} {I : List (Int × Int)} (h : G9 w wr p vin f I) : f.len = I.length := by
  unfold Fo.len
  exact (same_len h.nd h.good.nd h.mem).symm
/-- A slot came in, and its name is appended. -/
theorem G9.app {w w2 w3 : World} {p : Nat} {vin v3 : Value} {f : Fo} {I : List (Int × Int)} {a c : Int} {O : Nat → Prop} (h1 : Own w w2 O p f) (h2 : ∀ g, vin.ownBlock = some g → ¬ O g) (l2 : Lst w2 w.heap.size vin I) (hn : (I ++ [(a, c)]).Nodup) (hm : ∀ x, x ∈ I ++ [(a, c)] ↔ x ∈ f.pre)
    (l3 : Lst w3 w.heap.size v3 (I ++ [(a, c)])) (g3 : (w2.alloc (.cells #[.int .i64 a, .int .i64 c] 31)).grownBy w3 vin.ownBlock) (o3 : v3.ownBlock = vin.ownBlock ∨ v3.ownBlock = some (w2.alloc (.cells #[.int .i64 a, .int .i64 c] 31)).heap.size) : G9 w w3 p v3 f (I ++ [(a, c)]) := by
  have ga := gbAlloc w2 (.cells #[.int .i64 a, .int .i64 c] 31) none
  refine ⟨⟨O, (h1.kept ga).keep g3 (fun x e => ⟨h2 x e, (l2.lt x e).1⟩), fun g hg => ?_⟩, l3, hn, hm⟩
  rcases o3 with e | e
  · exact h2 g (e ▸ hg)
  · rw [e] at hg
    cases hg
    intro hO
    have := (h1.lo _ hO).2
    simp at this
    omega
theorem mem_root {f : Fo} {I : List (Int × Int)} {s : Int × Int} (hn : I.Nodup) (hm : ∀ x, x ∈ I ↔ x ∈ f.pre) (hs : f.has s = false) : (I ++ [s]).Nodup ∧ ∀ x, x ∈ I ++ [s] ↔ x ∈ (f.rootF s).pre := by
  have h := Fo.has_not.1 hs
  refine ⟨List.nodup_append.2 ⟨hn, by simp, fun x hx y hy e => h ((hm s).1 (by simp at hy; rw [← hy, ← e]; exact hx))⟩, fun x => ?_⟩
  unfold Fo.rootF
  rw [hs]
  simp only [Bool.false_eq_true, if_false, Fo.pre_app, Fo.pre_one, List.mem_append, List.mem_singleton, hm]
theorem mem_child {f : Fo} {I : List (Int × Int)} {o s : Int × Int} (hn : I.Nodup) (hm : ∀ x, x ∈ I ↔ x ∈ f.pre) (ho : f.has o = true) (hs : f.has s = false) : (I ++ [s]).Nodup ∧ ∀ x, x ∈ I ++ [s] ↔ x ∈ (f.childF o s).pre := by
  have h := Fo.has_not.1 hs
  refine ⟨List.nodup_append.2 ⟨hn, by simp, fun x hx y hy e => h ((hm s).1 (by simp at hy; rw [← hy, ← e]; exact hx))⟩, fun x => ?_⟩
  unfold Fo.childF
  rw [ho, hs]
  simp only [Bool.false_eq_true, if_false, if_true]
  rw [Fo.mem_add (Fo.has_iff.1 ho), List.mem_append, List.mem_singleton, hm]
  exact Or.comm

end Go.Proofs.Ytboojbnnjbmnoaa
