/-
  WHAT FOLLOWS of the plain tree: parents and children answer one another; no slot is of its own kin; what becomes of kin where a slot goes or moves. Speaks of no function of the program.
-/
import Derived.Test.YtkpcdfiebjigbaaTPlain
namespace Go.Proofs.Ytkpcdfiebjigbaa
set_option maxRecDepth 10000
namespace T9
set_option linter.unusedVariables false
namespace Fo

theorem sub_in {f : Fo} {x : Int × Int} {d : Fo} (h : f.sub x = some d) : x ∈ f.pre := sub_some.1 ⟨d, h⟩
theorem view_in {f : Fo} {p : Option (Int × Int)} {x : Int × Int} {y : Option (Int × Int) × List (Int × Int)} (h : f.view p x = some y) : x ∈ f.pre := Classical.byContradiction fun hc => by rw [view_none.2 hc] at h; cases h
theorem sub_len {f : Fo} {x : Int × Int} {d : Fo} (h : f.sub x = some d) : d.pre.length < f.pre.length := by
  induction f using Fo.ind with
  | nil => cases h
  | node bb oo a e r ihe ihr =>
    simp only [sub] at h
    simp only [pre, List.length_cons, List.length_append]
    split at h
    · cases h; omega
    · cases he : e.sub x with
      | some y => rw [he] at h; simp at h; subst h; have := ihe he; omega
      | none => rw [he] at h; simp at h; have := ihr h; omega
theorem sub_node {bb oo : Nat} {a : Int × Int} {d r : Fo} (hn : (node bb oo a d r).pre.Nodup) {x : Int × Int} : (x ∈ d.pre → (node bb oo a d r).sub x = d.sub x) ∧ (x ∈ r.pre → (node bb oo a d r).sub x = r.sub x) := by
  obtain ⟨h1, h2, h3, h4, h5⟩ := nodup_node.1 hn
  refine ⟨fun h => ?_, fun h => ?_⟩
  · simp only [sub]
    rw [if_neg (show ¬ a = x from fun e => h1 (e ▸ h))]
    obtain ⟨e, he⟩ := sub_some.2 h
    rw [he]; rfl
  · simp only [sub]
    rw [if_neg (show ¬ a = x from fun e => h2 (e ▸ h)), sub_none.2 (fun e => h5 _ e h)]
    rfl
/-- A part is found in the whole. -/
theorem sub_sub {f d : Fo} {x y : Int × Int} (hn : f.pre.Nodup) (h : f.sub x = some d) (hy : y ∈ d.pre) : f.sub y = d.sub y := by
  induction f using Fo.ind with
  | nil => cases h
  | node bb oo a e r ihe ihr =>
    obtain ⟨h1, h2, h3, h4, h5⟩ := nodup_node.1 hn
    have hs := @sub_node bb oo a e r hn y
    simp only [sub] at h
    split at h
    · cases h; exact hs.1 hy
    · cases he : e.sub x with
      | some z =>
        rw [he] at h; simp at h; subst h
        rw [hs.1 (sub_pre he hy)]; exact ihe h3 he
      | none =>
        rw [he] at h; simp at h
        rw [hs.2 (sub_pre h hy)]; exact ihr h4 h
theorem nodup_sub {f d : Fo} {x : Int × Int} (hn : f.pre.Nodup) (h : f.sub x = some d) : d.pre.Nodup ∧ x ∉ d.pre := by
  induction f using Fo.ind with
  | nil => cases h
  | node bb oo a e r ihe ihr =>
    obtain ⟨h1, h2, h3, h4, h5⟩ := nodup_node.1 hn
    simp only [sub] at h
    split at h
    · rename_i ea; cases h; subst ea; exact ⟨h3, h1⟩
    · cases he : e.sub x with
      | some z => rw [he] at h; simp at h; subst h; exact ihe h3 he
      | none => rw [he] at h; simp at h; exact ihr h4 h
theorem nodup_tops {f : Fo} (hn : f.pre.Nodup) : f.tops.Nodup := by
  induction f using Fo.ind with
  | nil => simp [tops]
  | node bb oo a e r ihe ihr =>
    obtain ⟨h1, h2, h3, h4, h5⟩ := nodup_node.1 hn
    simp only [tops, List.nodup_cons]
    exact ⟨fun h => h2 (tops_pre h), ihr h4⟩
/-- Two slots are not of one another's kin. -/
theorem kin_lt {f d e : Fo} {x y : Int × Int} (hn : f.pre.Nodup) (h : f.sub x = some d) (hy : y ∈ d.pre) (he : f.sub y = some e) : e.pre.length < d.pre.length := by
  rw [sub_sub hn h hy] at he
  exact sub_len he

theorem view_top_is {d : Fo} (hn : d.pre.Nodup) {p q : Option (Int × Int)} {x : Int × Int} {l : List (Int × Int)} (h : d.view p x = some (q, l)) : (x ∈ d.tops → q = p) ∧ (x ∉ d.tops → ∃ y, q = some y ∧ y ∈ d.pre) := by
  have h0 := view_top hn none p x
  rw [h] at h0
  cases hv : d.view none x with
  | none => rw [hv] at h0; cases h0
  | some y =>
    rw [hv] at h0
    simp only [Option.map_some, Option.some.injEq, Prod.mk.injEq] at h0
    refine ⟨fun hx => by rw [h0.1, if_pos hx], fun hx => ?_⟩
    rw [if_neg hx] at h0
    obtain ⟨y1, y2⟩ := y
    simp only at h0
    rcases view_par hv with e | e
    · -- y1 = none: then x would stand in the first row
      exfalso
      have h2 := view_top hn (some x) none x
      rw [hv] at h2
      cases hw : d.view (some x) x with
      | none => rw [hw] at h2; cases h2
      | some z =>
        rw [hw] at h2
        simp only [Option.map_some, Option.some.injEq, Prod.mk.injEq, if_neg hx] at h2
        obtain ⟨z1, z2⟩ := z
        simp only at h2
        rcases view_par hw with e2 | ⟨u, e2, _⟩
        · rw [← h2.1, e] at e2; cases e2
        · rw [← h2.1, e] at e2; cases e2
    · rw [h0.1]; exact e
theorem view_node {bb oo : Nat} {a : Int × Int} {d r : Fo} (hn : (node bb oo a d r).pre.Nodup) {p : Option (Int × Int)} {x : Int × Int} : (x ∈ d.pre → (node bb oo a d r).view p x = d.view (some a) x) ∧ (x ∈ r.pre → (node bb oo a d r).view p x = r.view p x) := by
  obtain ⟨h1, h2, h3, h4, h5⟩ := nodup_node.1 hn
  refine ⟨fun h => ?_, fun h => ?_⟩
  · simp only [view]
    rw [if_neg (show ¬ a = x from fun e => h1 (e ▸ h)), view_none.2 (h5 _ h), Option.or_none]
  · simp only [view]
    rw [if_neg (show ¬ a = x from fun e => h2 (e ▸ h)), view_none.2 (fun e => h5 _ e h)]
    rfl
/-- What comes of a slot comes of it. -/
theorem child_par {f : Fo} {p q : Option (Int × Int)} {s c : Int × Int} {l : List (Int × Int)} (hn : f.pre.Nodup) (h : f.view p s = some (q, l)) (hc : c ∈ l) : ∃ l', f.view p c = some (some s, l') := by
  induction f using Fo.ind generalizing p with
  | nil => cases h
  | node bb oo a d r ihd ihr =>
    obtain ⟨h1, h2, h3, h4, h5⟩ := nodup_node.1 hn
    have hv := @view_node bb oo a d r hn p c
    simp only [view] at h
    split at h
    · rename_i ea
      subst ea
      simp only [Option.some.injEq, Prod.mk.injEq] at h
      obtain ⟨_, rfl⟩ := h
      have hcd := tops_pre hc
      rw [hv.1 hcd]
      cases hw : d.view (some a) c with
      | none => exact absurd hcd (view_none.1 hw)
      | some y =>
        obtain ⟨y1, y2⟩ := y
        exact ⟨y2, by rw [(view_top_is h3 hw).1 hc]⟩
    · cases hd : d.view (some a) s with
      | some y =>
        rw [hd] at h
        simp only [Option.some_or, Option.some.injEq] at h
        subst h
        obtain ⟨l', hl'⟩ := ihd h3 hd
        rw [hv.1 (view_in hl')]; exact ⟨l', hl'⟩
      | none =>
        rw [hd] at h
        simp only [Option.none_or] at h
        obtain ⟨l', hl'⟩ := ihr h4 h
        rw [hv.2 (view_in hl')]; exact ⟨l', hl'⟩
/-- A slot is among the children of what it comes of. -/
theorem par_child {f : Fo} {p q : Option (Int × Int)} {s : Int × Int} {l : List (Int × Int)} (hn : f.pre.Nodup) (h : f.view p s = some (q, l)) : q = p ∨ ∃ x y, q = some x ∧ f.view p x = some y ∧ s ∈ y.2 := by
  induction f using Fo.ind generalizing p with
  | nil => cases h
  | node bb oo a d r ihd ihr =>
    obtain ⟨h1, h2, h3, h4, h5⟩ := nodup_node.1 hn
    simp only [view] at h
    split at h
    · simp only [Option.some.injEq, Prod.mk.injEq] at h
      exact .inl h.1.symm
    · cases hd : d.view (some a) s with
      | some y =>
        rw [hd] at h
        simp only [Option.some_or, Option.some.injEq] at h
        subst h
        rcases ihd h3 hd with e | ⟨x, y, e1, e2, e3⟩
        · refine .inr ⟨a, (p, d.tops), e, by simp [view], ?_⟩
          refine Classical.byContradiction fun hc => ?_
          obtain ⟨z, hz, hz2⟩ := (view_top_is h3 hd).2 hc
          rw [e] at hz
          cases hz
          exact h1 hz2
        · exact .inr ⟨x, y, e1, by rw [(@view_node bb oo a d r hn p x).1 (view_in e2)]; exact e2, e3⟩
      | none =>
        rw [hd] at h
        simp only [Option.none_or] at h
        rcases ihr h4 h with e | ⟨x, y, e1, e2, e3⟩
        · exact .inl e
        · exact .inr ⟨x, y, e1, by rw [(@view_node bb oo a d r hn p x).2 (view_in e2)]; exact e2, e3⟩
/-- Of two slots not each comes of the other. -/
theorem par_not {f : Fo} {s x : Int × Int} {q o : Option (Int × Int)} {l lx : List (Int × Int)} (hn : f.pre.Nodup) (hs : f.view none s = some (q, l)) (hx : f.view none x = some (o, lx)) (h : s ∈ lx) : x ∉ l ∧ s ∉ l := by
  obtain ⟨d, hd, rfl⟩ := view_some hs
  obtain ⟨e, he, rfl⟩ := view_some hx
  refine ⟨fun hc => ?_, fun hc => (nodup_sub hn hd).2 (tops_pre hc)⟩
  have h1 := kin_lt hn hd (tops_pre hc) he
  have h2 := kin_lt hn he (tops_pre h) hd
  omega
theorem self_not {f : Fo} {s : Int × Int} {q : Option (Int × Int)} {l : List (Int × Int)} (hn : f.pre.Nodup) (hs : f.view none s = some (q, l)) : s ∉ l := by
  obtain ⟨d, hd, rfl⟩ := view_some hs
  exact fun hc => (nodup_sub hn hd).2 (tops_pre hc)
theorem nodup_ch {f : Fo} {s : Int × Int} {q : Option (Int × Int)} {l : List (Int × Int)} (hn : f.pre.Nodup) (hs : f.view none s = some (q, l)) : l.Nodup ∧ ∀ c ∈ l, c ∈ f.pre := by
  obtain ⟨d, hd, rfl⟩ := view_some hs
  exact ⟨nodup_tops (nodup_sub hn hd).1, fun c hc => sub_pre hd (tops_pre hc)⟩

/-- Where a slot stands in a list without doubles. -/
theorem put_at {l k : List (Int × Int)} {s : Int × Int} (hn : l.Nodup) (h : s ∈ l) : ∃ j, l[j]? = some s ∧ (∀ i, i < j → l[i]? ≠ some s) ∧ put l s k = l.take j ++ (k ++ l.drop (j + 1)) := by
  induction l with
  | nil => cases h
  | cons a l ih =>
    rw [List.nodup_cons] at hn
    by_cases e : a = s
    · subst e
      refine ⟨0, rfl, fun i hi => by omega, ?_⟩
      have := put_out (k := k) hn.1
      unfold put at this ⊢
      simp [this]
    · obtain ⟨j, h1, h2, h3⟩ := ih hn.2 (by rcases List.mem_cons.1 h with h | h; exact absurd h.symm e; exact h)
      refine ⟨j + 1, by simpa using h1, fun i hi => ?_, ?_⟩
      · cases i with
        | zero => simp; exact e
        | succ i => simpa using h2 i (by omega)
      · have h4 : put (a :: l) s k = a :: put l s k := by unfold put; simp [e]
        rw [h4, h3]
        simp
theorem len_drop {f : Fo} {s : Int × Int} (hn : f.pre.Nodup) (h : s ∈ f.pre) : (drop s f).pre.length + 1 = f.pre.length := by
  rw [pre_drop hn]
  have hg : ∀ l : List (Int × Int), l.Nodup → s ∈ l → (l.filter (· != s)).length + 1 = l.length := by
    intro l
    induction l with
    | nil => intro _ h; cases h
    | cons a l ih =>
      intro hn h
      rw [List.nodup_cons] at hn
      by_cases e : a = s
      · subst e
        have : l.filter (· != a) = l := List.filter_eq_self.2 (fun x hx => by simp; exact fun e => hn.1 (e ▸ hx))
        simp [this]
      · have := ih hn.2 (by rcases List.mem_cons.1 h with h | h; exact absurd h.symm e; exact h)
        simp [e, this]
  exact hg _ hn h
theorem len_mv (a b : Int × Int) (f : Fo) : (mv a b f).pre.length = f.pre.length := by rw [pre_mv, List.length_map]

end Fo
end T9
end Go.Proofs.Ytkpcdfiebjigbaa
