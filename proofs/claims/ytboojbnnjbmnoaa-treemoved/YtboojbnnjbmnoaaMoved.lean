/-
  PLAIN FACTS for TreeMoved and TreeDrops.
-/
import Derived.Test.YtboojbnnjbmnoaaGrow
namespace Go.Proofs.Ytboojbnnjbmnoaa
open Go.RowKit
set_option linter.unusedVariables false

namespace Fo
theorem sub_mv_new {f t : Int × Int} {g e : Fo} (hn : g.pre.Nodup) (ht : t ∉ g.pre) (h : g.sub f = some e) : (mv f t g).sub t = some e := by
  induction g using Fo.ind with
  | nil => cases h
  | node bb oo a d r ihd ihr =>
    obtain ⟨h1, h2, h3, h4, h5⟩ := nodup_node.1 hn
    simp only [pre, List.mem_cons, List.mem_append, not_or] at ht
    obtain ⟨t1, t2, t3⟩ := ht
    simp only [mv, sub]
    simp only [sub] at h
    by_cases ea : a = f
    · subst ea
      rw [if_pos rfl] at h
      rw [if_pos rfl, if_pos rfl, mv_out h1]
      exact h
    · rw [if_neg ea] at h
      rw [if_neg ea, if_neg (Ne.symm t1)]
      cases hd : d.sub f with
      | some z =>
        rw [hd] at h
        rw [ihd h3 t2 (hd.trans (by simpa using h))]
        rfl
      | none =>
        rw [hd] at h
        rw [mv_out (sub_none.1 hd), sub_none.2 t2, ihr h4 t3 (by simpa using h)]
        rfl
/-- What holds of a slot's place in a tree, without numbers. -/
theorem _root_.Go.Proofs.Ytboojbnnjbmnoaa.Good.place' {f : Fo} (G : Good f) {s : Int × Int} (hs : f.has s = true) :
    (∀ c ∈ f.children s, c ∈ f.pre) ∧ s ∉ f.children s ∧ (f.children s).Nodup ∧
    ∀ x, f.parent s = some x → x ∉ f.children s ∧ x ≠ s ∧ ∃ y, f.view none x = some y ∧ s ∈ y.2 := by
  have hv := has_view hs
  obtain ⟨n1, n2⟩ := nodup_ch G.nd hv
  refine ⟨n2, self_not G.nd hv, n1, fun x hx => ?_⟩
  rw [hx] at hv
  rcases par_child G.nd hv with e | ⟨x', ⟨o, lx⟩, e1, e2, e3⟩
  · cases e
  · cases e1
    obtain ⟨p1, p2⟩ := par_not G.nd hv e2 e3
    refine ⟨p1, fun e => ?_, (o, lx), e2, e3⟩
    subst e
    rw [hv] at e2
    cases e2
    exact p2 e3
structure Mvd (f f' : Fo) (s d : Int × Int) : Prop where
  ok : f.moveE s d = 0
  to : f.moveF s d = f'
  gone : f'.has s = false
  come : f'.has d = true
  ln : f'.len = f.len
  par : f'.parent d = f.parent s
  ch : f'.children d = f.children s
  kn : f'.kin d = f.kin s
  sib : ∀ x, f.parent s = some x → f'.children x = (f.children x).map (ren s d)
  ok2 : f'.moveE d s = 0
  to2 : f'.moveF d s = f
theorem mvd {f : Fo} (G : Good f) {s d : Int × Int} (hs : f.has s = true) (hd : f.has d = false) : Mvd f (mv s d f) s d := by
  have h1 := has_iff.1 hs
  have h2 := has_not.1 hd
  have hne : s ≠ d := fun e => h2 (e ▸ h1)
  have hv := has_view hs
  obtain ⟨D, hD⟩ := sub_some.2 h1
  have hv' := view_mv_new G.nd h2 hv
  have hsub := sub_mv_new G.nd h2 hD
  have hg : (mv s d f).has s = false := has_not.2 (view_none.1 (view_mv_gone none hne))
  have hc : (mv s d f).has d = true := has_iff.2 (sub_in hsub)
  refine ⟨?_, ?_, hg, hc, ?_, ?_, ?_, ?_, ?_, ?_, ?_⟩
  · unfold moveE; rw [hs, hd]; rfl
  · unfold moveF; rw [hs, hd]; rfl
  · unfold len; rw [len_mv]
  · exact (view_has hv').1
  · exact (view_has hv').2.1
  · unfold kin; rw [hsub, hD]
  · intro x hx
    obtain ⟨p1, p2, p3, p4⟩ := G.place' hs
    obtain ⟨q1, q2, y, q3, q4⟩ := p4 x hx
    have hxd : x ≠ d := fun e => h2 (e ▸ view_in q3)
    have := view_mv G.nd h2 (by simp) hv x q2 hxd
    rw [q3] at this
    simp only [Option.map_some, if_neg q1, if_pos hx] at this
    rw [(view_has this).2.1, put_ren]
    obtain ⟨y1, y2⟩ := y
    rw [(view_has q3).2.1]
  · unfold moveE; rw [hc, hg]; rfl
  · unfold moveF; rw [hc, hg]
    simp only [if_true, Bool.false_eq_true, if_false]
    exact mv_back h2
end Fo
end Go.Proofs.Ytboojbnnjbmnoaa
