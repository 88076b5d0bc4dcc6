/-
  ENTRIES THAT ARE KEPT: the chapter's answers as plain functions of a list, and what follows of them. Speaks of no function of the program.
-/
import Derived.Test.YtmmjmloaefcmmaaFacts
import Derived.Maps.AppendAt
import Derived.Laws.OwnMore
import Derived.Laws.CopyOwn
namespace Go.Proofs.Ytmmjmloaefcmmaa
set_option maxRecDepth 10000
open Go.RowKit
set_option linter.unusedVariables false

/-- A page's entry that is kept. -/
structure K where
  s : Int
  p : Int
  e : E

namespace M
/-- Whether it is a space's number. -/
def nr (s : Int) : Bool := decide (0 ≤ s) && decide (s < 64)
/-- Whether it is a page's number. -/
def np (p : Int) : Bool := decide (0 ≤ p) && decide (p < 256)
/-- Whether it is that page's. -/
def here (s p : Int) (k : K) : Bool := k.s == s && k.p == p
/-- Get. -/
def kg (L : List K) (s p : Int) : E × Bool := match L.find? (here s p) with
  | some k => (k.e, true)
  | none => (E.zero, false)
/-- What Drop leaves. -/
def kd (L : List K) (s p : Int) : List K := L.filter fun k => !here s p k
/-- What Flush leaves. -/
def kx (L : List K) (s : Int) : List K := L.filter fun k => !(k.s == s)
/-- Fill's error. -/
def kfe (s p : Int) (e : E) : Int := if (nr s && np p) = false then 1 else if (e.v && ce e == 0) = false then 10 else 0
/-- Without the eldest, if there are eight. -/
def kl (L : List K) : List K := if L.length = 8 then L.tail else L
/-- What Fill leaves, if it goes through. -/
def kput (L : List K) (s p : Int) (e : E) : List K := kl (kd L s p) ++ [⟨s, p, e⟩]
/-- What Fill leaves. -/
def kf (L : List K) (s p : Int) (e : E) : List K := if kfe s p e = 0 then kput L s p e else L
/-- Whether one that is kept agrees. -/
def kag (n : Nat) (F : Nat → Nat) (s dir : Int) (k : K) : Bool := !(k.s == s) || ((pe n F dir (k.p * 16)).2 == 0 && M.eq (pe n F dir (k.p * 16)).1 k.e)
/-- Agrees. -/
def ka (n : Nat) (F : Nat → Nat) (L : List K) (s dir : Int) : Bool := L.all (kag n F s dir)
/-- The entry for an address, the error, and what is kept then. -/
def kte (n : Nat) (F : Nat → Nat) (L : List K) (s dir a : Int) : E × Int × List K :=
  if (kg L s (a / 16)).2 then ((kg L s (a / 16)).1, 0, L) else
  if (pe n F dir a).2 = 0 then ((pe n F dir a).1, 0, kput L s (a / 16) (pe n F dir a).1) else (E.zero, (pe n F dir a).2, L)
/-- To: the place, the error, and what is kept then. -/
def kt (n : Nat) (F : Nat → Nat) (L : List K) (s dir a : Int) (wr : Bool) : Int × Int × List K :=
  if (nr s && isA a) = false then (0, 1, L) else
  if (kte n F L s dir a).2.1 = 0 then (if (wr && !(kte n F L s dir a).1.w) = true then (0, 5, (kte n F L s dir a).2.2) else ((kte n F L s dir a).1.a + a % 16, 0, (kte n F L s dir a).2.2)) else
  (0, (kte n F L s dir a).2.1, (kte n F L s dir a).2.2)

/-- The pages that are kept. -/
def pl (L : List K) : List (Int × Int) := L.map fun k => (k.s, k.p)
end M

/-- What holds of all that is kept. -/
structure Good (L : List K) : Prop where
  len : L.length ≤ 8
  nd : (M.pl L).Nodup
  num : ∀ k ∈ L, M.nr k.s = true ∧ M.np k.p = true
  ent : ∀ k ∈ L, k.e.v = true ∧ M.ce k.e = 0

theorem M.here_iff {s p : Int} {k : K} : M.here s p k = true ↔ k.s = s ∧ k.p = p := by simp [M.here]
theorem M.pl_mem {L : List K} {k : K} (h : k ∈ L) : (k.s, k.p) ∈ M.pl L := List.mem_map.2 ⟨k, h, rfl⟩
theorem M.kg_mem {L : List K} {s p : Int} {e : E} (h : M.kg L s p = (e, true)) : ∃ k ∈ L, k.s = s ∧ k.p = p ∧ k.e = e := by
  unfold M.kg at h
  split at h
  · rename_i k hk
    simp only [Prod.mk.injEq, and_true] at h
    obtain ⟨h1, h2⟩ := M.here_iff.1 (List.find?_some hk)
    exact ⟨k, List.mem_of_find?_eq_some hk, h1, h2, h⟩
  · simp at h
theorem M.kg_none {L : List K} {s p : Int} {e : E} (h : M.kg L s p = (e, false)) : e = E.zero ∧ (s, p) ∉ M.pl L := by
  unfold M.kg at h
  split at h
  · simp at h
  · rename_i hk
    simp only [Prod.mk.injEq, and_true] at h
    refine ⟨h.symm, fun hm => ?_⟩
    obtain ⟨k, hk1, hk2⟩ := List.mem_map.1 hm
    simp only [Prod.mk.injEq] at hk2
    have := List.find?_eq_none.1 hk k hk1
    exact this (M.here_iff.2 hk2)
theorem M.kg_in {L : List K} {s p : Int} : (M.kg L s p).2 = decide ((s, p) ∈ M.pl L) := by
  obtain ⟨⟨e, o⟩, h⟩ : ∃ q, M.kg L s p = q := ⟨_, rfl⟩
  cases o with
  | true =>
    obtain ⟨k, h1, h2, h3, _⟩ := M.kg_mem h
    rw [h]
    have := M.pl_mem h1
    rw [h2, h3] at this
    simp [this]
  | false =>
    rw [h]
    simp [(M.kg_none h).2]
theorem M.pl_inj {L : List K} (h : (M.pl L).Nodup) {j k : K} (hj : j ∈ L) (hk : k ∈ L) (e : (j.s, j.p) = (k.s, k.p)) : j = k := by
  induction L with
  | nil => simp at hj
  | cons x L ih =>
    have h' : (x.s, x.p) ∉ M.pl L ∧ (M.pl L).Nodup := by
      unfold M.pl at h
      simpa [List.nodup_cons, M.pl] using h
    rcases List.mem_cons.1 hj with a1 | a1
    · rcases List.mem_cons.1 hk with a2 | a2
      · rw [a1, a2]
      · exact absurd (by rw [← a1, e]; exact M.pl_mem a2) h'.1
    · rcases List.mem_cons.1 hk with a2 | a2
      · exact absurd (by rw [← a2, ← e]; exact M.pl_mem a1) h'.1
      · exact ih h'.2 a1 a2
/-- Each that is kept is got. -/
theorem Good.got {L : List K} (g : Good L) {k : K} (hk : k ∈ L) : M.kg L k.s k.p = (k.e, true) := by
  obtain ⟨⟨e, o⟩, h⟩ : ∃ q, M.kg L k.s k.p = q := ⟨_, rfl⟩
  have ho := M.kg_in (L := L) (s := k.s) (p := k.p)
  rw [h, decide_eq_true (M.pl_mem hk)] at ho
  simp only at ho
  subst ho
  obtain ⟨j, h1, h2, h3, h4⟩ := M.kg_mem h
  rw [h, ← h4]
  have : j = k := by
    exact M.pl_inj g.nd h1 hk (by rw [h2, h3])
  rw [this]

theorem Good.nil : Good [] := ⟨by simp, by simp [M.pl], by simp, by simp⟩
theorem Good.sub {L D : List K} (g : Good L) (h : D.Sublist L) : Good D :=
  ⟨Nat.le_trans h.length_le g.len, (h.map _).nodup g.nd, fun k hk => g.num k (h.subset hk), fun k hk => g.ent k (h.subset hk)⟩
theorem Good.kd {L : List K} (g : Good L) (s p : Int) : Good (M.kd L s p) := g.sub List.filter_sublist
theorem Good.kx {L : List K} (g : Good L) (s : Int) : Good (M.kx L s) := g.sub List.filter_sublist
theorem Good.kl {L : List K} (g : Good L) : Good (M.kl L) ∧ (M.kl L).length ≤ 7 := by
  have := g.len
  unfold M.kl
  split
  · exact ⟨g.sub (List.tail_sublist L), by rw [List.length_tail]; omega⟩
  · exact ⟨g, by omega⟩
theorem M.kd_not {L : List K} {s p : Int} {k : K} (h : k ∈ M.kd L s p) : ¬ (k.s = s ∧ k.p = p) := by
  unfold M.kd at h
  rw [List.mem_filter] at h
  intro e
  rw [M.here_iff.2 e] at h
  simp at h
theorem M.kl_sub (L : List K) : (M.kl L).Sublist L := by
  unfold M.kl
  split
  · exact List.tail_sublist L
  · exact List.Sublist.refl L
theorem M.kfe_ok {s p : Int} {e : E} (h : M.kfe s p e = 0) : M.nr s = true ∧ M.np p = true ∧ e.v = true ∧ M.ce e = 0 := by
  unfold M.kfe at h
  by_cases c1 : (M.nr s && M.np p) = false
  · rw [if_pos c1] at h; omega
  · rw [if_neg c1] at h
    by_cases c2 : (e.v && M.ce e == 0) = false
    · rw [if_pos c2] at h; omega
    · simp only [Bool.not_eq_false, Bool.and_eq_true, beq_iff_eq] at c1 c2
      exact ⟨c1.1, c1.2, c2.1, c2.2⟩
theorem M.kfe_mk {s p : Int} {e : E} (h1 : M.nr s = true) (h2 : M.np p = true) (h3 : e.v = true) (h4 : M.ce e = 0) : M.kfe s p e = 0 := by
  unfold M.kfe
  rw [h1, h2, h3, h4]
  rfl
theorem Good.kput {L : List K} (g : Good L) {s p : Int} {e : E} (h : M.kfe s p e = 0) : Good (M.kput L s p e) := by
  obtain ⟨h1, h2, h3, h4⟩ := M.kfe_ok h
  obtain ⟨g1, g2⟩ := (g.kd s p).kl
  unfold M.kput
  refine ⟨by rw [List.length_append]; simp; omega, ?_, ?_, ?_⟩
  · unfold M.pl
    rw [List.map_append, List.nodup_append]
    refine ⟨g1.nd, by simp, fun x hx y hy => ?_⟩
    simp only [List.map_cons, List.map_nil, List.mem_singleton] at hy
    subst hy
    obtain ⟨k, hk, rfl⟩ := List.mem_map.1 hx
    intro e1
    simp only [Prod.mk.injEq] at e1
    exact M.kd_not ((M.kl_sub _).subset hk) e1
  · intro k hk
    rcases List.mem_append.1 hk with hk | hk
    · exact g1.num k hk
    · simp only [List.mem_singleton] at hk; subst hk; exact ⟨h1, h2⟩
  · intro k hk
    rcases List.mem_append.1 hk with hk | hk
    · exact g1.ent k hk
    · simp only [List.mem_singleton] at hk; subst hk; exact ⟨h3, h4⟩
theorem Good.kf {L : List K} (g : Good L) (s p : Int) (e : E) : Good (M.kf L s p e) := by
  unfold M.kf
  split
  · exact g.kput ‹_›
  · exact g
/-- To let the eldest's page go is to let the eldest go. -/
theorem Good.eldest {L : List K} {k : K} (g : Good (k :: L)) : M.kd (k :: L) k.s k.p = L := by
  unfold M.kd
  rw [List.filter_cons, M.here_iff.2 ⟨rfl, rfl⟩]
  simp only [Bool.not_true, Bool.false_eq_true, if_false]
  refine List.filter_eq_self.2 (fun j hj => ?_)
  have hnd := g.nd
  unfold M.pl at hnd
  rw [List.map_cons, List.nodup_cons] at hnd
  cases hh : M.here k.s k.p j
  · rfl
  · obtain ⟨e1, e2⟩ := M.here_iff.1 hh
    exact absurd (by rw [← e1, ← e2]; exact M.pl_mem hj) hnd.1

/-- What a walk leads to can be kept. -/
theorem M.pe_right {n : Nat} {F : Nat → Nat} {dir a : Int} {c : E} (h : M.pe n F dir a = (c, 0)) (hn : n ≤ 65536) : c.v = true ∧ M.ce c = 0 ∧ ∃ P : Nat, c.a = ((16 * P : Nat) : Int) ∧ 16 * P + 16 ≤ n := by
  obtain ⟨A, D, P, Q, c1, _, _, _, _, _, _, _, _, _, h2, hQ, hQ'⟩ := M.pe_ok h
  obtain ⟨q1, _, _⟩ := M.lv_ok h2
  refine ⟨q1, ?_, Q, hQ, hQ'⟩
  obtain ⟨v, o, x⟩ := c
  simp only at q1 hQ
  subst q1 hQ
  have : M.pg ((16 * Q : Nat) : Int) = true := by
    simp only [M.pg, Bool.and_eq_true, decide_eq_true_eq, beq_iff_eq]
    omega
  simp only [M.ce, this, if_true]
theorem M.np_of {a : Int} (h : M.isA a = true) : M.np (a / 16) = true := by
  simp only [M.isA, M.np, Bool.and_eq_true, decide_eq_true_eq] at *
  omega
theorem M.pe_isA {n : Nat} {F : Nat → Nat} {dir a : Int} {c : E} (h : M.pe n F dir a = (c, 0)) : M.isA a = true := by
  unfold M.pe at h
  by_cases c1 : M.isA a = false
  · rw [if_pos c1] at h; simp at h
  · simpa using c1
theorem Good.kte {n : Nat} {F : Nat → Nat} {L : List K} (g : Good L) {s dir a : Int} (hn : n ≤ 65536) (h1 : M.nr s = true) : Good (M.kte n F L s dir a).2.2 := by
  unfold M.kte
  split
  · exact g
  · split
    · rename_i hp
      obtain ⟨⟨c, f⟩, hc⟩ : ∃ q, M.pe n F dir a = q := ⟨_, rfl⟩
      rw [hc] at hp ⊢
      simp only at hp
      subst hp
      obtain ⟨q1, q2, _⟩ := M.pe_right hc hn
      exact g.kput (M.kfe_mk h1 (M.np_of (M.pe_isA hc)) q1 q2)
    · exact g
theorem Good.kt {n : Nat} {F : Nat → Nat} {L : List K} (g : Good L) {s dir a : Int} {wr : Bool} (hn : n ≤ 65536) : Good (M.kt n F L s dir a wr).2.2 := by
  unfold M.kt
  by_cases c1 : (M.nr s && M.isA a) = false
  · rw [if_pos c1]; exact g
  · rw [if_neg c1]
    simp only [Bool.not_eq_false, Bool.and_eq_true] at c1
    have := g.kte (F := F) (dir := dir) (a := a) hn c1.1
    split
    · split
      · exact this
      · exact this
    · exact this
end Go.Proofs.Ytmmjmloaefcmmaa
