/-
  THE PLAIN TREE: slots with what comes of each, eldest first (a slot, what comes of it, the others that come of the same). What the chapter's calls make of it and tell of it. Speaks of no function of the program.
-/
import Derived.Test.YtdnoidnpiaadaaaGreatChecked
import Derived.Deep.Trees
namespace Go.Proofs.YtdnoidnpiaadaaaGreat
set_option maxRecDepth 10000
namespace T9
set_option linter.unusedVariables false

/-- The library's trees, whose two numbers a node say nothing here. -/
abbrev Fo := Go.Deep.BT (Int × Int)
abbrev Fo.nil : Fo := Go.Deep.BT.nil
abbrev Fo.node (bb oo : Nat) (a : Int × Int) (d r : Fo) : Fo := Go.Deep.BT.node bb oo a d r
theorem Fo.ind {motive : Fo → Prop} (nil : motive Go.Deep.BT.nil) (node : ∀ (bb oo : Nat) (a : Int × Int) (d r : Fo), motive d → motive r → motive (Go.Deep.BT.node bb oo a d r)) (f : Fo) : motive f := by
  induction f with
  | nil => exact nil
  | node bb oo a d r h1 h2 => exact node bb oo a d r h1 h2
theorem Fo.cs {motive : Fo → Prop} (nil : motive Go.Deep.BT.nil) (node : ∀ (bb oo : Nat) (a : Int × Int) (d r : Fo), motive (Go.Deep.BT.node bb oo a d r)) (f : Fo) : motive f := by
  cases f with
  | nil => exact nil
  | node bb oo a d r => exact node bb oo a d r

namespace Fo
def app : Fo → Fo → Fo
  | Deep.BT.nil, g => g
  | Deep.BT.node bb oo a d r, g => node bb oo a d (app r g)
def one (s : Int × Int) : Fo := node 0 0 s nil nil
/-- All slots, each ahead of its kin. -/
def pre : Fo → List (Int × Int)
  | Deep.BT.nil => []
  | Deep.BT.node bb oo a d r => a :: (pre d ++ pre r)
/-- The first row. -/
def tops : Fo → List (Int × Int)
  | Deep.BT.nil => []
  | Deep.BT.node bb oo a _ r => a :: tops r
/-- What comes of a slot. -/
def sub : Fo → Int × Int → Option Fo
  | Deep.BT.nil, _ => none
  | Deep.BT.node bb oo a d r, s => if a = s then some d else (sub d s).or (sub r s)
/-- What a slot comes of, and the first row of what comes of it. -/
def view : Fo → Option (Int × Int) → Int × Int → Option (Option (Int × Int) × List (Int × Int))
  | Deep.BT.nil, _, _ => none
  | Deep.BT.node bb oo a d r, p, s => if a = s then some (p, tops d) else (view d (some a) s).or (view r p s)
def add (o s : Int × Int) : Fo → Fo
  | Deep.BT.nil => nil
  | Deep.BT.node bb oo a d r => if a = o then node bb oo a (app d (one s)) r else node bb oo a (add o s d) (add o s r)
def drop (s : Int × Int) : Fo → Fo
  | Deep.BT.nil => nil
  | Deep.BT.node bb oo a d r => if a = s then app d r else node bb oo a (drop s d) (drop s r)
def mv (f t : Int × Int) : Fo → Fo
  | Deep.BT.nil => nil
  | Deep.BT.node bb oo a d r => node bb oo (if a = f then t else a) (mv f t d) (mv f t r)

theorem pre_app (f g : Fo) : (app f g).pre = f.pre ++ g.pre := by
  induction f using Fo.ind with
  | nil => rfl
  | node bb oo a d r _ ih => simp [app, pre, ih]
theorem tops_app (f g : Fo) : (app f g).tops = f.tops ++ g.tops := by
  induction f using Fo.ind with
  | nil => rfl
  | node bb oo a d r _ ih => simp [app, tops, ih]
theorem sub_app (f g : Fo) (x : Int × Int) : (app f g).sub x = (f.sub x).or (g.sub x) := by
  induction f using Fo.ind with
  | nil => rfl
  | node bb oo a d r _ ih =>
    simp only [app, sub, ih]
    split
    · rfl
    · rw [Option.or_assoc]
theorem view_app (f g : Fo) (p : Option (Int × Int)) (x : Int × Int) : (app f g).view p x = (f.view p x).or (g.view p x) := by
  induction f using Fo.ind generalizing p with
  | nil => rfl
  | node bb oo a d r _ ih =>
    simp only [app, view, ih]
    split
    · rfl
    · rw [Option.or_assoc]
theorem sub_some {f : Fo} {x : Int × Int} : (∃ d, f.sub x = some d) ↔ x ∈ f.pre := by
  induction f using Fo.ind with
  | nil => simp [sub, pre]
  | node bb oo a d r ihd ihr =>
    simp only [sub, pre, List.mem_cons, List.mem_append, ← ihd, ← ihr]
    by_cases h : a = x
    · simp [h]
    · rw [if_neg h]
      cases hd : d.sub x with
      | some e => simp
      | none => simp [Ne.symm h]
theorem sub_none {f : Fo} {x : Int × Int} : f.sub x = none ↔ x ∉ f.pre := by
  rw [← sub_some]
  cases h : f.sub x <;> simp
theorem view_sub (f : Fo) (p : Option (Int × Int)) (x : Int × Int) : (f.view p x).map Prod.snd = (f.sub x).map tops := by
  induction f using Fo.ind generalizing p with
  | nil => rfl
  | node bb oo a d r ihd ihr =>
    simp only [view, sub]
    split
    · rfl
    · rw [Option.map_or, Option.map_or, ihd, ihr]
theorem view_none {f : Fo} {p : Option (Int × Int)} {x : Int × Int} : f.view p x = none ↔ x ∉ f.pre := by
  rw [← sub_none]
  have := view_sub f p x
  cases h1 : f.view p x <;> cases h2 : f.sub x <;> simp [h1, h2] at this ⊢
theorem view_some {f : Fo} {p : Option (Int × Int)} {x : Int × Int} {q : Option (Int × Int)} {l : List (Int × Int)} (h : f.view p x = some (q, l)) : ∃ d, f.sub x = some d ∧ l = d.tops := by
  have := view_sub f p x
  rw [h] at this
  cases h2 : f.sub x with
  | none => rw [h2] at this; cases this
  | some d => rw [h2] at this; exact ⟨d, rfl, by simpa using this⟩
theorem tops_pre {f : Fo} {x : Int × Int} (h : x ∈ f.tops) : x ∈ f.pre := by
  induction f using Fo.ind with
  | nil => cases h
  | node bb oo a d r _ ih =>
    simp only [tops, List.mem_cons] at h
    simp only [pre, List.mem_cons, List.mem_append]
    rcases h with h | h
    · exact .inl h
    · exact .inr (.inr (ih h))
/-- What comes of a slot is a part. -/
theorem sub_pre {f d : Fo} {x y : Int × Int} (h : f.sub x = some d) (hy : y ∈ d.pre) : y ∈ f.pre := by
  induction f using Fo.ind with
  | nil => cases h
  | node bb oo a e r ihe ihr =>
    simp only [sub] at h
    simp only [pre, List.mem_cons, List.mem_append]
    split at h
    · cases h; exact .inr (.inl hy)
    · cases he : e.sub x with
      | some e' => rw [he] at h; simp at h; subst h; exact .inr (.inl (ihe he))
      | none => rw [he] at h; simp at h; exact .inr (.inr (ihr h))
/-- What a slot comes of is in the tree, or is what all comes of. -/
theorem view_par {f : Fo} {p q : Option (Int × Int)} {x : Int × Int} {l : List (Int × Int)} (h : f.view p x = some (q, l)) : q = p ∨ ∃ y, q = some y ∧ y ∈ f.pre := by
  induction f using Fo.ind generalizing p with
  | nil => cases h
  | node bb oo a d r ihd ihr =>
    simp only [view] at h
    split at h
    · cases h; exact .inl rfl
    · cases hd : d.view (some a) x with
      | some e =>
        rw [hd] at h; simp at h; subst h
        rcases ihd hd with rfl | ⟨y, rfl, hy⟩
        · exact .inr ⟨a, rfl, by simp [pre]⟩
        · exact .inr ⟨y, rfl, by simp [pre, hy]⟩
      | none =>
        rw [hd] at h; simp at h
        rcases ihr h with rfl | ⟨y, rfl, hy⟩
        · exact .inl rfl
        · exact .inr ⟨y, rfl, by simp [pre, hy]⟩

theorem nodup_node {bb oo : Nat} {a : Int × Int} {d r : Fo} : (node bb oo a d r).pre.Nodup ↔ a ∉ d.pre ∧ a ∉ r.pre ∧ d.pre.Nodup ∧ r.pre.Nodup ∧ ∀ x ∈ d.pre, x ∉ r.pre := by
  simp only [pre, List.nodup_cons, List.mem_append, not_or, List.nodup_append]
  constructor
  · rintro ⟨⟨h1, h2⟩, h3, h4, h5⟩
    exact ⟨h1, h2, h3, h4, fun x hx hr => h5 x hx x hr rfl⟩
  · rintro ⟨h1, h2, h3, h4, h5⟩
    exact ⟨⟨h1, h2⟩, h3, h4, fun x hx y hy e => h5 x hx (e ▸ hy)⟩

/-! ### A slot more -/
theorem view_one (s : Int × Int) (p : Option (Int × Int)) (x : Int × Int) : (one s).view p x = if s = x then some (p, []) else none := by
  simp [one, view, tops]
theorem pre_one (s : Int × Int) : (one s).pre = [s] := rfl

theorem add_out {o s : Int × Int} {f : Fo} (h : o ∉ f.pre) : add o s f = f := by
  induction f using Fo.ind with
  | nil => rfl
  | node bb oo a d r ihd ihr =>
    simp only [pre, List.mem_cons, List.mem_append, not_or] at h
    simp only [add]
    rw [if_neg (Ne.symm h.1), ihd h.2.1, ihr h.2.2]
theorem tops_add {o s : Int × Int} (f : Fo) : (add o s f).tops = f.tops := by
  induction f using Fo.ind with
  | nil => rfl
  | node bb oo a d r ihd ihr =>
    simp only [add]
    split
    · rfl
    · simp [tops, ihr]
theorem mem_add {o s x : Int × Int} {f : Fo} (h : o ∈ f.pre) : x ∈ (add o s f).pre ↔ x = s ∨ x ∈ f.pre := by
  induction f using Fo.ind with
  | nil => cases h
  | node bb oo a d r ihd ihr =>
    simp only [add]
    by_cases e : a = o
    · rw [if_pos e]
      simp only [pre, pre_app, pre_one, List.mem_cons, List.mem_append, List.mem_nil_iff, or_false]
      constructor
      · rintro (h | ((h | h) | h))
        · exact .inr (.inl h)
        · exact .inr (.inr (.inl h))
        · exact .inl h
        · exact .inr (.inr (.inr h))
      · rintro (h | (h | (h | h)))
        · exact .inr (.inl (.inr h))
        · exact .inl h
        · exact .inr (.inl (.inl h))
        · exact .inr (.inr h)
    · rw [if_neg e]
      simp only [pre, List.mem_cons, List.mem_append] at h ⊢
      by_cases hd : o ∈ d.pre
      · rw [ihd hd]
        by_cases hr : o ∈ r.pre
        · rw [ihr hr]
          constructor
          · rintro (h | ((h | h) | (h | h)))
            · exact .inr (.inl h)
            · exact .inl h
            · exact .inr (.inr (.inl h))
            · exact .inl h
            · exact .inr (.inr (.inr h))
          · rintro (h | (h | (h | h)))
            · exact .inr (.inl (.inl h))
            · exact .inl h
            · exact .inr (.inl (.inr h))
            · exact .inr (.inr (.inr h))
        · rw [add_out hr]
          constructor
          · rintro (h | ((h | h) | h))
            · exact .inr (.inl h)
            · exact .inl h
            · exact .inr (.inr (.inl h))
            · exact .inr (.inr (.inr h))
          · rintro (h | (h | (h | h)))
            · exact .inr (.inl (.inl h))
            · exact .inl h
            · exact .inr (.inl (.inr h))
            · exact .inr (.inr h)
      · rw [add_out hd]
        have hr : o ∈ r.pre := by
          rcases h with h | h | h
          · exact absurd h.symm e
          · exact absurd h hd
          · exact h
        rw [ihr hr]
        constructor
        · rintro (h | (h | (h | h)))
          · exact .inr (.inl h)
          · exact .inr (.inr (.inl h))
          · exact .inl h
          · exact .inr (.inr (.inr h))
        · rintro (h | (h | (h | h)))
          · exact .inr (.inr (.inl h))
          · exact .inl h
          · exact .inr (.inl h)
          · exact .inr (.inr (.inr h))
theorem len_add {o s : Int × Int} {f : Fo} (hn : f.pre.Nodup) (h : o ∈ f.pre) : (add o s f).pre.length = f.pre.length + 1 := by
  induction f using Fo.ind with
  | nil => cases h
  | node bb oo a d r ihd ihr =>
    obtain ⟨h1, h2, h3, h4, h5⟩ := nodup_node.1 hn
    simp only [add]
    by_cases e : a = o
    · rw [if_pos e]; simp [pre, pre_app, pre_one]; omega
    · rw [if_neg e]
      simp only [pre, List.mem_cons, List.mem_append] at h
      rcases h with h | h | h
      · exact absurd h.symm e
      · rw [add_out (h5 _ h)]; simp only [pre, List.length_cons, List.length_append, ihd h3 h]; omega
      · rw [add_out (fun hx => h5 _ hx h)]; simp only [pre, List.length_cons, List.length_append, ihr h4 h]; omega
theorem nodup_add {o s : Int × Int} {f : Fo} (hn : f.pre.Nodup) (h : o ∈ f.pre) (hs : s ∉ f.pre) : (add o s f).pre.Nodup := by
  induction f using Fo.ind with
  | nil => cases h
  | node bb oo a d r ihd ihr =>
    obtain ⟨h1, h2, h3, h4, h5⟩ := nodup_node.1 hn
    simp only [pre, List.mem_cons, List.mem_append, not_or] at hs
    obtain ⟨s1, s2, s3⟩ := hs
    simp only [add]
    by_cases e : a = o
    · rw [if_pos e]
      refine nodup_node.2 ⟨?_, h2, ?_, h4, ?_⟩
      · rw [pre_app, pre_one]; simp [h1]; exact Ne.symm s1
      · rw [pre_app, pre_one]
        refine List.nodup_append.2 ⟨h3, by simp, fun x hx y hy => ?_⟩
        simp at hy; subst hy; exact fun e => s2 (e ▸ hx)
      · intro x hx
        rw [pre_app, pre_one] at hx
        simp at hx
        rcases hx with hx | rfl
        · exact h5 x hx
        · exact s3
    · rw [if_neg e]
      simp only [pre, List.mem_cons, List.mem_append] at h
      rcases h with h | h | h
      · exact absurd h.symm e
      · rw [add_out (h5 _ h)]
        refine nodup_node.2 ⟨fun hx => ?_, h2, ihd h3 h s2, h4, fun x hx => ?_⟩
        · rcases (mem_add h).1 hx with h | h
          · exact s1 h.symm
          · exact h1 h
        · rcases (mem_add h).1 hx with rfl | h
          · exact s3
          · exact h5 _ h
      · rw [add_out (fun hx => h5 _ hx h)]
        refine nodup_node.2 ⟨h1, fun hx => ?_, h3, ihr h4 h s3, fun x hx hr => ?_⟩
        · rcases (mem_add h).1 hx with h | h
          · exact s1 h.symm
          · exact h2 h
        · rcases (mem_add h).1 hr with rfl | h
          · exact s2 hx
          · exact h5 _ hx h
theorem view_add {o s : Int × Int} {f : Fo} (hn : f.pre.Nodup) (h : o ∈ f.pre) (hs : s ∉ f.pre) (p : Option (Int × Int)) (x : Int × Int) :
    (add o s f).view p x = if x = s then some (some o, []) else (f.view p x).map fun y => (y.1, if x = o then y.2 ++ [s] else y.2) := by
  induction f using Fo.ind generalizing p with
  | nil => cases h
  | node bb oo a d r ihd ihr =>
    obtain ⟨h1, h2, h3, h4, h5⟩ := nodup_node.1 hn
    simp only [pre, List.mem_cons, List.mem_append, not_or] at hs
    obtain ⟨s1, s2, s3⟩ := hs
    have idm : ∀ (g : Fo) (p : Option (Int × Int)), o ∉ g.pre → (g.view p x).map (fun y => (y.1, if x = o then y.2 ++ [s] else y.2)) = g.view p x := by
      intro g p hg
      by_cases e : x = o
      · rw [view_none.2 (e ▸ hg)]; rfl
      · simp [if_neg e]
    simp only [add]
    by_cases e : a = o
    · subst e
      rw [if_pos rfl]
      simp only [view]
      by_cases hx : a = x
      · subst hx
        rw [if_pos rfl, if_pos rfl, if_neg (Ne.symm s1)]
        simp [tops_app, one, tops]
      · rw [if_neg hx, if_neg hx, view_app, view_one]
        by_cases hxs : x = s
        · subst hxs
          rw [view_none.2 s2]; simp
        · rw [if_neg (Ne.symm hxs), if_neg hxs, Option.or_none]
          simp [if_neg (Ne.symm hx)]
    · rw [if_neg e]
      simp only [pre, List.mem_cons, List.mem_append] at h
      simp only [view]
      by_cases hx : a = x
      · subst hx
        rw [if_pos rfl, if_pos rfl, if_neg (Ne.symm s1), tops_add]
        simp [if_neg e]
      · rw [if_neg hx, if_neg hx]
        rcases h with h | h | h
        · exact absurd h.symm e
        · rw [add_out (h5 _ h), ihd h3 h s2]
          by_cases hxs : x = s
          · rw [if_pos hxs, if_pos hxs]; rfl
          · rw [if_neg hxs, if_neg hxs, Option.map_or, idm r p (h5 _ h)]
        · have hd : o ∉ d.pre := fun hx => h5 _ hx h
          rw [add_out hd, ihr h4 h s3]
          by_cases hxs : x = s
          · rw [if_pos hxs, if_pos hxs, view_none.2 (hxs ▸ s2)]; rfl
          · rw [if_neg hxs, if_neg hxs, Option.map_or, idm d (some a) hd]

/-! ### A slot fewer -/
theorem drop_out {s : Int × Int} {f : Fo} (h : s ∉ f.pre) : drop s f = f := by
  induction f using Fo.ind with
  | nil => rfl
  | node bb oo a d r ihd ihr =>
    simp only [pre, List.mem_cons, List.mem_append, not_or] at h
    simp only [drop]
    rw [if_neg (Ne.symm h.1), ihd h.2.1, ihr h.2.2]
theorem pre_drop {s : Int × Int} {f : Fo} (hn : f.pre.Nodup) : (drop s f).pre = f.pre.filter (· != s) := by
  have keep : ∀ l : List (Int × Int), s ∉ l → l.filter (· != s) = l := fun l h => List.filter_eq_self.2 (fun x hx => by simp; exact fun e => h (e ▸ hx))
  induction f using Fo.ind with
  | nil => rfl
  | node bb oo a d r ihd ihr =>
    obtain ⟨h1, h2, h3, h4, h5⟩ := nodup_node.1 hn
    simp only [drop]
    by_cases e : a = s
    · subst e
      rw [if_pos rfl, pre_app]
      simp [pre, keep _ h1, keep _ h2]
    · rw [if_neg e]
      simp [pre, e, ihd h3, ihr h4]
/-- The first row with what comes of a slot in its place. -/
def put (l : List (Int × Int)) (s : Int × Int) (k : List (Int × Int)) : List (Int × Int) := l.flatMap fun x => if x = s then k else [x]
theorem put_out {l : List (Int × Int)} {s : Int × Int} {k : List (Int × Int)} (h : s ∉ l) : put l s k = l := by
  induction l with
  | nil => rfl
  | cons a l ih =>
    simp only [List.mem_cons, not_or] at h
    have := ih h.2
    unfold put at this ⊢
    simp [this, Ne.symm h.1]
theorem tops_drop {s : Int × Int} {f e : Fo} (hn : f.pre.Nodup) (h : f.sub s = some e) : (drop s f).tops = put f.tops s e.tops := by
  induction f using Fo.ind with
  | nil => cases h
  | node bb oo a d r ihd ihr =>
    obtain ⟨h1, h2, h3, h4, h5⟩ := nodup_node.1 hn
    simp only [drop]
    simp only [sub] at h
    by_cases ea : a = s
    · subst ea
      rw [if_pos rfl] at h ⊢
      cases h
      rw [tops_app]
      show _ = put (a :: r.tops) a e.tops
      have := put_out (s := a) (k := e.tops) (fun hx => h2 (tops_pre hx))
      unfold put at this ⊢
      simp [this]
    · rw [if_neg ea] at h ⊢
      show a :: (drop s r).tops = put (a :: r.tops) s e.tops
      have hput : put (a :: r.tops) s e.tops = a :: put r.tops s e.tops := by unfold put; simp [ea]
      rw [hput]
      cases hd : d.sub s with
      | some e' =>
        have hs : s ∉ r.pre := h5 _ (sub_some.1 ⟨_, hd⟩)
        rw [drop_out hs, put_out (fun hx => hs (tops_pre hx))]
      | none =>
        rw [hd] at h
        rw [ihr h4 (by simpa using h)]
theorem view_top {d : Fo} (hn : d.pre.Nodup) (p q : Option (Int × Int)) (x : Int × Int) : d.view q x = (d.view p x).map fun y => (if x ∈ d.tops then q else y.1, y.2) := by
  induction d using Fo.ind with
  | nil => rfl
  | node bb oo a d r ihd ihr =>
    obtain ⟨h1, h2, h3, h4, h5⟩ := nodup_node.1 hn
    simp only [view]
    by_cases hx : a = x
    · subst hx
      rw [if_pos rfl, if_pos rfl]
      simp [tops]
    · rw [if_neg hx, if_neg hx, Option.map_or, ihr h4]
      by_cases hd : x ∈ d.pre
      · have hr : x ∉ r.tops := fun e => h5 _ hd (tops_pre e)
        have ht : x ∉ (node bb oo a d r).tops := by simp [tops, Ne.symm hx, hr]
        rw [view_none.2 (h5 _ hd)]
        simp [ht]
      · rw [view_none.2 hd]
        simp only [Option.none_or, Option.map_none]
        congr 1
        funext y
        simp [tops, Ne.symm hx]
theorem view_drop {s : Int × Int} {f : Fo} {p q : Option (Int × Int)} {l : List (Int × Int)} (hn : f.pre.Nodup) (hp : ∀ y, p = some y → y ∉ f.pre) (h : f.view p s = some (q, l)) (x : Int × Int) (hxs : x ≠ s) :
    (drop s f).view p x = (f.view p x).map fun y => (if x ∈ l then q else y.1, if q = some x then put y.2 s l else y.2) := by
  induction f using Fo.ind generalizing p with
  | nil => cases h
  | node bb oo a d r ihd ihr =>
    obtain ⟨h1, h2, h3, h4, h5⟩ := nodup_node.1 hn
    simp only [drop]
    simp only [view] at h
    by_cases ea : a = s
    · subst ea
      rw [if_pos rfl] at h ⊢
      simp only [Option.some.injEq, Prod.mk.injEq] at h
      obtain ⟨h, h'⟩ := h
      subst h h'
      have hq : ∀ y, p = some y → y ∉ d.pre ∧ y ∉ r.pre := fun y e => by
        have := hp y e
        simp only [pre, List.mem_cons, List.mem_append, not_or] at this
        exact this.2
      simp only [view, if_neg (Ne.symm hxs)]
      rw [view_app, Option.map_or, view_top h3 (some a) p x]
      congr 1
      · cases hv : d.view (some a) x with
        | none => rfl
        | some y =>
          have hxd : x ∈ d.pre := Classical.byContradiction fun hc => by rw [view_none.2 hc] at hv; cases hv
          have : p ≠ some x := fun e => (hq x e).1 hxd
          simp [this]
      · cases hv : r.view p x with
        | none => rfl
        | some y =>
          have hxr : x ∈ r.pre := Classical.byContradiction fun hc => by rw [view_none.2 hc] at hv; cases hv
          have t1 : p ≠ some x := fun e => (hq x e).2 hxr
          have t2 : x ∉ d.tops := fun e => h5 _ (tops_pre e) hxr
          simp [t1, t2]
    · rw [if_neg ea] at h ⊢
      simp only [view]
      cases hd : d.view (some a) s with
      | some e =>
        rw [hd] at h
        simp at h
        subst h
        have hsd : s ∈ d.pre := Classical.byContradiction fun hc => by rw [view_none.2 hc] at hd; cases hd
        have hsr : s ∉ r.pre := h5 _ hsd
        obtain ⟨dd, hdd, rfl⟩ := view_some hd
        have hl : ∀ y ∈ dd.tops, y ∈ d.pre := fun y hy => sub_pre hdd (tops_pre hy)
        rw [drop_out hsr]
        by_cases hxa : a = x
        · subst hxa
          rw [if_pos rfl, if_pos rfl]
          have t1 : a ∉ dd.tops := fun e => h1 (hl _ e)
          simp only [Option.map_some, if_neg t1, Option.some.injEq, Prod.mk.injEq, true_and]
          rw [tops_drop h3 hdd]
          by_cases ht : s ∈ d.tops
          · have : q = some a := by
              have := view_top h3 none (some a) s
              rw [hd] at this
              cases hv : d.view none s with
              | none => rw [hv] at this; cases this
              | some y => rw [hv] at this; simp [ht] at this; exact this.1
            rw [if_pos this]
          · rw [put_out ht]
            by_cases hq : q = some a
            · rw [if_pos hq]
            · rw [if_neg hq]
        · rw [if_neg hxa, if_neg hxa, Option.map_or, ihd h3 (fun y e => by cases e; exact h1) hd]
          congr 1
          cases hv : r.view p x with
          | none => rfl
          | some y =>
            have hxr : x ∈ r.pre := Classical.byContradiction fun hc => by rw [view_none.2 hc] at hv; cases hv
            have t2 : x ∉ dd.tops := fun e => h5 _ (hl _ e) hxr
            have t1 : q ≠ some x := by
              rcases view_par hd with rfl | ⟨y, rfl, hy⟩
              · exact fun e => hxa (by simpa using e)
              · exact fun e => h5 _ hy (by simp at e; rw [e]; exact hxr)
            simp [t1, t2]
      | none =>
        rw [hd] at h
        simp at h
        have hsd : s ∉ d.pre := view_none.1 hd
        have hpr : ∀ y, p = some y → y ∉ r.pre := fun y e hy => hp y e (by simp [pre, hy])
        obtain ⟨dd, hdd, rfl⟩ := view_some h
        have hl : ∀ y ∈ dd.tops, y ∈ r.pre := fun y hy => sub_pre hdd (tops_pre hy)
        rw [drop_out hsd]
        by_cases hxa : a = x
        · subst hxa
          rw [if_pos rfl, if_pos rfl]
          have t1 : a ∉ dd.tops := fun e => h2 (hl _ e)
          have t2 : q ≠ some a := by
            rcases view_par h with rfl | ⟨y, rfl, hy⟩
            · exact fun e => hp a e (by simp [pre])
            · exact fun e => h2 (by simp at e; rw [← e]; exact hy)
          simp [t1, t2]
        · rw [if_neg hxa, if_neg hxa, Option.map_or, ihr h4 hpr h]
          congr 1
          cases hv : d.view (some a) x with
          | none => rfl
          | some y =>
            have hxd : x ∈ d.pre := Classical.byContradiction fun hc => by rw [view_none.2 hc] at hv; cases hv
            have t2 : x ∉ dd.tops := fun e => h5 _ hxd (hl _ e)
            have t1 : q ≠ some x := by
              rcases view_par h with rfl | ⟨y, rfl, hy⟩
              · exact fun e => hp x e (by simp [pre, hxd])
              · exact fun e => h5 _ hxd (by simp at e; rw [← e]; exact hy)
            simp [t1, t2]

/-! ### A slot in another one's place -/
def ren (f t x : Int × Int) : Int × Int := if x = f then t else x
theorem pre_mv (f t : Int × Int) (g : Fo) : (mv f t g).pre = g.pre.map (ren f t) := by
  induction g using Fo.ind with
  | nil => rfl
  | node bb oo a d r ihd ihr => simp [mv, pre, ihd, ihr, ren]
theorem tops_mv (f t : Int × Int) (g : Fo) : (mv f t g).tops = g.tops.map (ren f t) := by
  induction g using Fo.ind with
  | nil => rfl
  | node bb oo a d r ihd ihr => simp [mv, tops, ihr, ren]
theorem mv_out {f t : Int × Int} {g : Fo} (h : f ∉ g.pre) : mv f t g = g := by
  induction g using Fo.ind with
  | nil => rfl
  | node bb oo a d r ihd ihr =>
    simp only [pre, List.mem_cons, List.mem_append, not_or] at h
    simp only [mv]
    rw [if_neg (Ne.symm h.1), ihd h.2.1, ihr h.2.2]
theorem ren_inj {f t : Int × Int} {l : List (Int × Int)} (h : t ∉ l) {x y : Int × Int} (hx : x ∈ l) (hy : y ∈ l) (e : ren f t x = ren f t y) : x = y := by
  unfold ren at e
  by_cases h1 : x = f
  · by_cases h2 : y = f
    · rw [h1, h2]
    · rw [if_pos h1, if_neg h2] at e; exact absurd (e ▸ hy) h
  · by_cases h2 : y = f
    · rw [if_neg h1, if_pos h2] at e; exact absurd (e ▸ hx) h
    · rwa [if_neg h1, if_neg h2] at e
theorem nodup_map_in {α β : Type} (φ : α → β) : ∀ (l : List α), l.Nodup → (∀ x ∈ l, ∀ y ∈ l, φ x = φ y → x = y) → (l.map φ).Nodup
  | [], _, _ => by simp
  | a :: l, h, k => by
    rw [List.nodup_cons] at h
    rw [List.map_cons, List.nodup_cons]
    refine ⟨fun hm => ?_, nodup_map_in φ l h.2 (fun x hx y hy => k x (by simp [hx]) y (by simp [hy]))⟩
    obtain ⟨b, hb, e⟩ := List.mem_map.1 hm
    exact h.1 (k b (by simp [hb]) a (by simp) e ▸ hb)
theorem nodup_mv {f t : Int × Int} {g : Fo} (hn : g.pre.Nodup) (h : t ∉ g.pre) : (mv f t g).pre.Nodup := by
  rw [pre_mv]
  exact nodup_map_in _ _ hn (fun x hx y hy e => ren_inj h hx hy e)
theorem put_ren (l : List (Int × Int)) (f t : Int × Int) : put l f [t] = l.map (ren f t) := by
  induction l with
  | nil => rfl
  | cons a l ih =>
    unfold put at ih ⊢
    rw [List.flatMap_cons, ih, List.map_cons]
    unfold ren
    by_cases e : a = f
    · simp [e]
    · simp [e]
theorem view_mv_new {f t : Int × Int} {g : Fo} {p q : Option (Int × Int)} {l : List (Int × Int)} (hn : g.pre.Nodup) (ht : t ∉ g.pre) (h : g.view p f = some (q, l)) : (mv f t g).view p t = some (q, l) := by
  induction g using Fo.ind generalizing p with
  | nil => cases h
  | node bb oo a d r ihd ihr =>
    obtain ⟨h1, h2, h3, h4, h5⟩ := nodup_node.1 hn
    simp only [pre, List.mem_cons, List.mem_append, not_or] at ht
    obtain ⟨t1, t2, t3⟩ := ht
    simp only [mv, view]
    simp only [view] at h
    by_cases ea : a = f
    · subst ea
      rw [if_pos rfl] at h
      rw [if_pos rfl, if_pos rfl, mv_out h1]
      exact h
    · rw [if_neg ea] at h
      rw [if_neg ea, if_neg (Ne.symm t1)]
      cases hd : d.view (some a) f with
      | some e =>
        rw [hd] at h
        rw [ihd h3 t2 (hd.trans (by simpa using h))]
        rfl
      | none =>
        rw [hd] at h
        rw [mv_out (view_none.1 hd), view_none.2 t2, ihr h4 t3 (by simpa using h)]
        rfl
theorem view_mv_gone {f t : Int × Int} {g : Fo} (p : Option (Int × Int)) (hne : f ≠ t) : (mv f t g).view p f = none := by
  rw [view_none, pre_mv]
  intro h
  obtain ⟨x, _, e⟩ := List.mem_map.1 h
  unfold ren at e
  split at e
  · exact hne e.symm
  · contradiction
theorem view_mv {f t : Int × Int} {g : Fo} {p q : Option (Int × Int)} {l : List (Int × Int)} (hn : g.pre.Nodup) (ht : t ∉ g.pre) (hp : ∀ y, p = some y → y ∉ g.pre) (h : g.view p f = some (q, l)) (x : Int × Int) (hxf : x ≠ f) (hxt : x ≠ t) :
    (mv f t g).view p x = (g.view p x).map fun y => (if x ∈ l then some t else y.1, if q = some x then put y.2 f [t] else y.2) := by
  induction g using Fo.ind generalizing p with
  | nil => cases h
  | node bb oo a d r ihd ihr =>
    obtain ⟨h1, h2, h3, h4, h5⟩ := nodup_node.1 hn
    simp only [pre, List.mem_cons, List.mem_append, not_or] at ht
    obtain ⟨t1, t2, t3⟩ := ht
    simp only [mv]
    simp only [view] at h
    by_cases ea : a = f
    · subst ea
      rw [if_pos rfl] at h ⊢
      simp only [Option.some.injEq, Prod.mk.injEq] at h
      obtain ⟨h, h'⟩ := h
      subst h h'
      have hq : ∀ y, p = some y → y ∉ d.pre ∧ y ∉ r.pre := fun y e => by
        have := hp y e
        simp only [pre, List.mem_cons, List.mem_append, not_or] at this
        exact this.2
      simp only [view, if_neg (Ne.symm hxf), if_neg (Ne.symm hxt)]
      rw [mv_out h1, mv_out h2, Option.map_or, view_top h3 (some a) (some t) x]
      congr 1
      · cases hv : d.view (some a) x with
        | none => rfl
        | some y =>
          have hxd : x ∈ d.pre := Classical.byContradiction fun hc => by rw [view_none.2 hc] at hv; cases hv
          have : p ≠ some x := fun e => (hq x e).1 hxd
          simp [this]
      · cases hv : r.view p x with
        | none => rfl
        | some y =>
          have hxr : x ∈ r.pre := Classical.byContradiction fun hc => by rw [view_none.2 hc] at hv; cases hv
          have u1 : p ≠ some x := fun e => (hq x e).2 hxr
          have u2 : x ∉ d.tops := fun e => h5 _ (tops_pre e) hxr
          simp [u1, u2]
    · rw [if_neg ea] at h ⊢
      simp only [view]
      cases hd : d.view (some a) f with
      | some e =>
        rw [hd] at h
        simp at h
        subst h
        have hsd : f ∈ d.pre := Classical.byContradiction fun hc => by rw [view_none.2 hc] at hd; cases hd
        have hsr : f ∉ r.pre := h5 _ hsd
        obtain ⟨dd, hdd, rfl⟩ := view_some hd
        have hl : ∀ y ∈ dd.tops, y ∈ d.pre := fun y hy => sub_pre hdd (tops_pre hy)
        rw [mv_out hsr]
        by_cases hxa : a = x
        · subst hxa
          rw [if_pos rfl, if_pos rfl]
          have u1 : a ∉ dd.tops := fun e => h1 (hl _ e)
          simp only [Option.map_some, if_neg u1, Option.some.injEq, Prod.mk.injEq, true_and]
          rw [tops_mv, ← put_ren]
          by_cases htt : f ∈ d.tops
          · have : q = some a := by
              have := view_top h3 none (some a) f
              rw [hd] at this
              cases hv : d.view none f with
              | none => rw [hv] at this; cases this
              | some y => rw [hv] at this; simp [htt] at this; exact this.1
            rw [if_pos this]
          · rw [put_out htt]
            by_cases hq : q = some a
            · rw [if_pos hq]
            · rw [if_neg hq]
        · rw [if_neg hxa, if_neg hxa, Option.map_or, ihd h3 t2 (fun y e => by cases e; exact h1) hd]
          congr 1
          cases hv : r.view p x with
          | none => rfl
          | some y =>
            have hxr : x ∈ r.pre := Classical.byContradiction fun hc => by rw [view_none.2 hc] at hv; cases hv
            have u2 : x ∉ dd.tops := fun e => h5 _ (hl _ e) hxr
            have u1 : q ≠ some x := by
              rcases view_par hd with rfl | ⟨y, rfl, hy⟩
              · exact fun e => hxa (by simpa using e)
              · exact fun e => h5 _ hy (by simp at e; rw [e]; exact hxr)
            simp [u1, u2]
      | none =>
        rw [hd] at h
        simp at h
        have hsd : f ∉ d.pre := view_none.1 hd
        have hpr : ∀ y, p = some y → y ∉ r.pre := fun y e hy => hp y e (by simp [pre, hy])
        obtain ⟨dd, hdd, rfl⟩ := view_some h
        have hl : ∀ y ∈ dd.tops, y ∈ r.pre := fun y hy => sub_pre hdd (tops_pre hy)
        rw [mv_out hsd]
        by_cases hxa : a = x
        · subst hxa
          rw [if_pos rfl, if_pos rfl]
          have u1 : a ∉ dd.tops := fun e => h2 (hl _ e)
          have u2 : q ≠ some a := by
            rcases view_par h with rfl | ⟨y, rfl, hy⟩
            · exact fun e => hp a e (by simp [pre])
            · exact fun e => h2 (by simp at e; rw [← e]; exact hy)
          simp [u1, u2]
        · rw [if_neg hxa, if_neg hxa, Option.map_or, ihr h4 t3 hpr h]
          congr 1
          cases hv : d.view (some a) x with
          | none => rfl
          | some y =>
            have hxd : x ∈ d.pre := Classical.byContradiction fun hc => by rw [view_none.2 hc] at hv; cases hv
            have u2 : x ∉ dd.tops := fun e => h5 _ hxd (hl _ e)
            have u1 : q ≠ some x := by
              rcases view_par h with rfl | ⟨y, rfl, hy⟩
              · exact fun e => hp x e (by simp [pre, hxd])
              · exact fun e => h5 _ hxd (by simp at e; rw [← e]; exact hy)
            simp [u1, u2]

/-! ### What is asked -/
def has (f : Fo) (s : Int × Int) : Bool := (f.sub s).isSome
def parent (f : Fo) (s : Int × Int) : Option (Int × Int) := match f.view none s with | some (q, _) => q | none => none
def children (f : Fo) (s : Int × Int) : List (Int × Int) := match f.sub s with | some d => d.tops | none => []
def kin (f : Fo) (s : Int × Int) : List (Int × Int) := match f.sub s with | some d => d.pre | none => []
def len (f : Fo) : Nat := f.pre.length
def rootE (f : Fo) (s : Int × Int) : Int := if f.has s then 4 else 0
def rootF (f : Fo) (s : Int × Int) : Fo := if f.has s then f else app f (one s)
def childE (f : Fo) (o s : Int × Int) : Int := if f.has o then (if f.has s then 4 else 0) else 3
def childF (f : Fo) (o s : Int × Int) : Fo := if f.has o then (if f.has s then f else add o s f) else f
def dropE (f : Fo) (s : Int × Int) : Int := if f.has s then 0 else 3
def dropF (f : Fo) (s : Int × Int) : Fo := if f.has s then drop s f else f
def moveE (f : Fo) (a b : Int × Int) : Int := if f.has a then (if f.has b then 4 else 0) else 3
def moveF (f : Fo) (a b : Int × Int) : Fo := if f.has a then (if f.has b then f else mv a b f) else f
theorem has_iff {f : Fo} {s : Int × Int} : f.has s = true ↔ s ∈ f.pre := by
  rw [← sub_some]; unfold has; cases f.sub s <;> simp
theorem has_not {f : Fo} {s : Int × Int} : f.has s = false ↔ s ∉ f.pre := by
  rw [← has_iff]; cases f.has s <;> simp
theorem view_has {f : Fo} {s : Int × Int} {q : Option (Int × Int)} {l : List (Int × Int)} (h : f.view none s = some (q, l)) : f.parent s = q ∧ f.children s = l ∧ f.has s = true := by
  obtain ⟨d, hd, rfl⟩ := view_some h
  refine ⟨by unfold parent; rw [h], by unfold children; rw [hd], by unfold has; rw [hd]; rfl⟩
theorem has_view {f : Fo} {s : Int × Int} (h : f.has s = true) : f.view none s = some (f.parent s, f.children s) := by
  cases hv : f.view none s with
  | none => exact absurd (has_iff.1 h) (view_none.1 hv)
  | some y => obtain ⟨q, l⟩ := y; obtain ⟨rfl, rfl, _⟩ := view_has hv; rfl
theorem hasnt {f : Fo} {s : Int × Int} (h : f.has s = false) : f.view none s = none ∧ f.sub s = none ∧ f.parent s = none ∧ f.children s = [] ∧ f.kin s = [] := by
  have h1 : f.view none s = none := view_none.2 (has_not.1 h)
  have h2 := sub_none.2 (has_not.1 h)
  exact ⟨h1, h2, by unfold parent; rw [h1], by unfold children; rw [h2], by unfold kin; rw [h2]⟩

end Fo
end T9
end Go.Proofs.YtdnoidnpiaadaaaGreat
