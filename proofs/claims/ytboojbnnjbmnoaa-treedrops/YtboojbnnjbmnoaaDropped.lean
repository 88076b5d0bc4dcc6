/-
  PLAIN FACTS for TreeDrops, and a map from slots' names to lists of them (the law's own).
-/
import Derived.Test.YtboojbnnjbmnoaaMoved
namespace Go.Proofs.Ytboojbnnjbmnoaa
open Go.RowKit Go.Maps
set_option linter.unusedVariables false

namespace Fo
theorem sub_drop {s x : Int × Int} {g : Fo} (hn : g.pre.Nodup) (hx : x ≠ s) : (drop s g).sub x = (g.sub x).map (drop s) := by
  induction g using Fo.ind with
  | nil => rfl
  | node bb oo a d r ihd ihr =>
    obtain ⟨h1, h2, h3, h4, h5⟩ := nodup_node.1 hn
    simp only [drop]
    by_cases ea : a = s
    · subst ea
      rw [if_pos rfl, sub_app]
      simp only [sub]
      rw [if_neg (Ne.symm hx), Option.map_or]
      congr 1
      · cases hd : d.sub x with
        | none => rfl
        | some e => simp only [Option.map_some]; rw [drop_out (fun hc => h1 (sub_pre hd hc))]
      · cases hr : r.sub x with
        | none => rfl
        | some e => simp only [Option.map_some]; rw [drop_out (fun hc => h2 (sub_pre hr hc))]
    · rw [if_neg ea]
      simp only [sub]
      split
      · rfl
      · rw [ihd h3, ihr h4, Option.map_or]
structure Drp (f f' : Fo) (s : Int × Int) : Prop where
  ok : f.dropE s = 0
  to : f.dropF s = f'
  gone : f'.has s = false
  ln : f'.len + 1 = f.len
  par : ∀ c ∈ f.children s, f'.parent c = f.parent s
  kn : ∀ x, x ≠ s → f'.kin x = (f.kin x).filter (· != s)
theorem drp {f : Fo} (G : Good f) {s : Int × Int} (hs : f.has s = true) : Drp f (drop s f) s := by
  have h1 := has_iff.1 hs
  have hv := has_view hs
  refine ⟨by unfold dropE; rw [hs]; rfl, by unfold dropF; rw [hs]; rfl, has_not.2 (by rw [pre_drop G.nd]; simp), by unfold len; exact len_drop G.nd h1, fun c hc => ?_, fun x hx => ?_⟩
  · obtain ⟨p1, p2, p3, p4⟩ := G.place' hs
    have hcs : c ≠ s := fun e => p2 (e ▸ hc)
    have := view_drop G.nd (by simp) hv c hcs
    obtain ⟨l', hl'⟩ := child_par G.nd hv hc
    rw [hl'] at this
    simp only [Option.map_some, if_pos hc] at this
    exact (view_has this).1
  · unfold kin
    rw [sub_drop G.nd hx]
    cases he : f.sub x with
    | none => rfl
    | some e => simp only [Option.map_some]; exact pre_drop (nodup_sub G.nd he).1
end Fo

/-! ### Lists as elements of a map -/
/-- How a list reads: where it lies, how many, and how much room. -/
def slElem (v : Value) : Option (DataW Unit × List MemPlace) :=
  match v with
  | .slice none 0 0 => some (.nil, [])
  | .slice (some ⟨g, 0, none⟩) n c => some (.agg [.lit (.int .i64 g), .lit (.int .i64 n), .lit (.int .i64 c)], [])
  | _ => none
/-- The slices that are so. -/
def Sl (v : Value) : Prop := v = .slice none 0 0 ∨ ∃ g n c : Nat, v = .slice (some ⟨g, 0, none⟩) n c
def slD (v : Value) : DataW Unit := match slElem v with | some (d, _) => d | none => .nil
theorem Sl.elem {v : Value} (h : Sl v) : slElem v = some (slD v, []) := by rcases h with rfl | ⟨g, n, c, rfl⟩ <;> rfl
theorem Sl.inj {v v' : Value} {ps : List MemPlace} (h : Sl v) (h' : slElem v' = some (slD v, ps)) : v' = v := by
  unfold slElem at h'
  split at h'
  · rcases h with rfl | ⟨g, n, c, rfl⟩
    · rfl
    · simp [slD, slElem] at h'
  · rename_i g' n' c'
    rcases h with rfl | ⟨g, n, c, rfl⟩
    · simp [slD, slElem] at h'
    · simp only [slD, slElem, Option.some.injEq, Prod.mk.injEq, DataW.agg.injEq, List.cons.injEq, DataW.lit.injEq, Lit.int.injEq, true_and, and_true] at h'
      obtain ⟨⟨e1, e2, e3⟩, _⟩ := h'
      simp only [Int.natCast_inj] at e1 e2 e3
      rw [e1, e2, e3]
  · cases h'
theorem Lst.sl {w : World} {B : Nat} {v : Value} {L : List (Int × Int)} (h : Lst w B v L) : Sl v := by
  rcases h.form with ⟨rfl, _⟩ | ⟨g, c, rfl, _⟩
  · exact .inl rfl
  · exact .inr ⟨_, _, _, rfl⟩

/-- What lies in such a map. -/
def SMap (w : World) (b m : Nat) (F : Int × Int → Value) : Prop :=
  ∃ D : DataW Unit, w.ownsMap Try.prog 31 slElem b m D ∧ (∀ s, Sl (F s)) ∧ ∀ s : Int × Int, I64 s.1 → I64 s.2 → D.atKey (kl s.1 s.2) .nil = slD (F s)
theorem SMap.lt {w : World} {b m : Nat} {F : Int × Int → Value} (h : SMap w b m F) : b < w.heap.size := by obtain ⟨D, h, _⟩ := h; exact h.lt
theorem SMap.fr {O : Nat → Prop} {w w' : World} {b m : Nat} {F : Int × Int → Value} (h : SMap w b m F) (k : Fr O w w') (ho : ¬ O b) : SMap w' b m F := by
  have hlt := h.lt
  obtain ⟨D, ⟨es, clock, hb, F, hs, hD⟩, h2⟩ := h
  exact ⟨D, ⟨es, clock, (k.block b hlt ho).trans hb, F, hs, hD⟩, h2⟩
theorem SMap.kept {w w' : World} {b m : Nat} {F : Int × Int → Value} (h : SMap w b m F) (g : w.grownBy w' none) : SMap w' b m F := h.fr (O := fun _ => False) (Fr.grown g) (fun e => e)
theorem SMap.made (w : World) : SMap (w.alloc (.map #[] 0)) w.heap.size 0 (fun _ => .slice none 0 0) := ⟨.map [], World.ownsMap_made _ _ _ _, fun _ => .inl rfl, fun _ _ _ => rfl⟩
theorem zeroSl (w : World) : (zeroValue 39).run Try.prog w = .ok (.slice none 0 0) w := by kernel_rfl
theorem SMap.look {w : World} {b m : Nat} {F : Int × Int → Value} (h : SMap w b m F) (s t : Int) (hs : I64 s) (ht : I64 t) :
    (Instr.lookup 49 (.map (some b)) (sv s t) false).run Try.prog w = .ok (F (s, t)) w := by
  obtain ⟨D, h1, h3, h2⟩ := h
  obtain ⟨v, ps, hr, hv⟩ := h1.lookup Try.keySlot Try.underlying49 (zeroSl w) (zd := .nil) (zp := []) rfl (keyOf_slot hs ht)
  rw [h2 (s, t) hs ht] at hv
  rw [hr, (h3 (s, t)).inj hv]
theorem SMap.put {w : World} {b m : Nat} {F : Int × Int → Value} (h : SMap w b m F) (s t : Int) (v : Value) (hv : Sl v) (hs : I64 s) (ht : I64 t) (hn : m ≤ 1000) :
    ∃ w', (Instr.mapUpdate 49 (.map (some b)) (sv s t) v).run Try.prog w = .ok () w' ∧ SMap w' b (m + 1) (fun j => if j = (s, t) then v else F j) ∧ w.grownBy w' (some b) := by
  obtain ⟨D, h1, h3, h2⟩ := h
  obtain ⟨w', hr, ho, hg⟩ := h1.update Try.keySlot Try.underlying49 (by unfold maxLen; omega) (keyOf_slot hs ht) hv.elem
  refine ⟨w', hr, ⟨_, ho, fun j => ?_, fun j hj hj' => ?_⟩, hg⟩
  · by_cases e : j = (s, t)
    · simp only [if_pos e]; exact hv
    · simp only [if_neg e]; exact h3 j
  · by_cases e : j = (s, t)
    · subst e
      simp only [if_true]
      rw [atKey_put_same h1.isMap (kl_key hs ht)]
    · have hne : kl j.1 j.2 ≠ kl s t := fun x => e (by obtain ⟨a, b⟩ := kl_inj hj hj' hs ht x; obtain ⟨j1, j2⟩ := j; simp at a b; rw [a, b])
      simp only [if_neg e]
      rw [atKey_put_other hne]
      exact h2 j hj hj'

/-- The kin of the first j slots, kept in the map. -/
structure Kpt (wr : World) (O : Nat → Prop) (mb j : Nat) (I : List (Int × Int)) (f : Fo) (F : Int × Int → Value) : Prop where
  map : SMap wr mb j F
  far : ¬ O mb
  lst : ∀ s ∈ I.take j, Lst wr 0 (F s) (f.kin s)
  out : ∀ s ∈ I.take j, ∀ g, (F s).ownBlock = some g → ¬ O g
theorem Kpt.fr {wr w' : World} {O O' : Nat → Prop} {mb j : Nat} {I : List (Int × Int)} {f : Fo} {F : Int × Int → Value} (h : Kpt wr O mb j I f F) (k : Fr O wr w') (hO : ∀ i, i < wr.heap.size → O' i → O i) : Kpt w' O' mb j I f F :=
  ⟨h.map.fr k h.far, fun e => h.far (hO _ h.map.lt e), fun s hs => (h.lst s hs).fr k (h.out s hs), fun s hs g hg e => h.out s hs g hg (hO _ ((h.lst s hs).lt g hg).2 e)⟩
theorem Kpt.kept {wr w' : World} {O : Nat → Prop} {mb j : Nat} {I : List (Int × Int)} {f : Fo} {F : Int × Int → Value} (h : Kpt wr O mb j I f F) (k : wr.grownBy w' none) : Kpt w' O mb j I f F := h.fr (Fr.grown k) (fun _ _ e => e)
theorem Kpt.add {wr w5 : World} {O : Nat → Prop} {mb j : Nat} {I : List (Int × Int)} {f : Fo} {F : Int × Int → Value} (h : Kpt wr O mb j I f F) {a b : Int} {v : Value} (hn : I.Nodup) (hj : I[j]? = some (a, b)) (lv : Lst wr 0 v (f.kin (a, b))) (ov : ∀ g, v.ownBlock = some g → ¬ O g)
    (hm : SMap w5 mb (j + 1) (fun t => if t = (a, b) then v else F t)) (g5 : wr.grownBy w5 (some mb)) : Kpt w5 O mb (j + 1) I f (fun t => if t = (a, b) then v else F t) := by
  have k : Fr (fun i => i = mb) wr w5 := Fr.at g5 rfl
  have hb : ∀ {v : Value} {L : List (Int × Int)}, Lst wr 0 v L → ∀ g, v.ownBlock = some g → g ≠ mb := fun {v L} l g hg e => by
    obtain ⟨cur, hc⟩ := l.blk hg
    obtain ⟨D, ⟨es, clock, hb, _⟩, _⟩ := h.map
    rw [e] at hc
    rw [hc] at hb; cases hb
  have e2 : I.take (j + 1) = I.take j ++ [(a, b)] := by rw [List.take_add_one, hj]; rfl
  refine ⟨hm, h.far, fun s hs => ?_, fun s hs g hg => ?_⟩
  · by_cases e : s = (a, b)
    · subst e; simp only [if_true]; exact lv.fr k (hb lv)
    · simp only [if_neg e]
      rw [e2, List.mem_append] at hs
      have hs' := hs.resolve_right (by simp [e])
      exact (h.lst s hs').fr k (hb (h.lst s hs'))
  · by_cases e : s = (a, b)
    · subst e; simp only [if_true] at hg; exact ov g hg
    · simp only [if_neg e] at hg
      rw [e2, List.mem_append] at hs
      exact h.out s (hs.resolve_right (by simp [e])) g hg

end Go.Proofs.Ytboojbnnjbmnoaa
