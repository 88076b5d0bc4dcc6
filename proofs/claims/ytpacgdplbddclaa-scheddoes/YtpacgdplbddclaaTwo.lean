/-
  A NEW LIST out of parts of another one: what is stored, two runs of append.
-/
import Derived.Test.YtpacgdplbddclaaLin
namespace Go.Proofs.Ytpacgdplbddclaa
set_option maxRecDepth 10000
open Go.RowKit
set_option linter.unusedVariables false

/-! ### What is laid into a new list -/
section
variable {α : Type} {e : α → List Value} {tk : TypeId} {s : Nat} {w : World} {O : Nat → Prop} {p : Nat} {L L' : List α} {v' : Value} {W : World}
/-- All that was made is new: the store of it. -/
theorem HA.storeNew (h : HA e tk s w O p L) (G : w.grownBy W none) (l : Ls e tk s W w.heap.size v' L') :
    W.cell? ⟨p, 0, none⟩ = w.cell? ⟨p, 0, none⟩ ∧ W.frozen? ⟨p, 0, none⟩ = false ∧ HA e tk s (W.setCell ⟨p, 0, none⟩ v') (wide O w (W.setCell ⟨p, 0, none⟩ v')) p L' ∧ Fr O w (W.setCell ⟨p, 0, none⟩ v') := by
  obtain ⟨v, h1, _⟩ := h.ex
  refine ⟨(G.cell h1 (by simp)).trans h1.symm, (gbFrozen G h.lt (by simp)).trans (h.fz 0), h.store (Fr.grown G) l.low (fun k hk => ?_)⟩
  have h2 := (l.lt k hk).1
  have := h.lt
  exact ⟨.inr h2, by omega⟩
end

/-- A new list out of the front of another one and of its end: two runs of append. -/
theorem twoRuns {w : World} {B g n cap i x : Nat} {L : List Int} (h : IL w B (.slice (some ⟨g, 0, none⟩) n cap) L) (hn : L.length = n) (hn2 : n ≤ 1000) (hi : i < n) (hx : x = i + 1) (hc : n ≤ cap) (ad : Addr) (c1 c2 : Nat) (had : x < cap → ad = (⟨g, x, none⟩ : Addr)) :
    ∃ x1 m1 d1 w1 x2 m2 d2 w2, (Builtin.append_ #[44, 44] 44 #[.slice (some ⟨w.heap.size, 0, none⟩) 0 0, .slice (some ⟨g, 0, none⟩) i c1]).run Try.prog (w.alloc (.cells #[] 3)).drew = .ok (.slice x1 m1 d1) w1 ∧
      (Builtin.append_ #[44, 44] 44 #[.slice x1 m1 d1, .slice (some ad) (n - x) c2]).run Try.prog w1 = .ok (.slice x2 m2 d2) w2 ∧ w.grownBy w1 none ∧ IL w2 w.heap.size (.slice x2 m2 d2) (L.eraseIdx i) ∧ w.grownBy w2 none := by
  have G : w.grownBy (w.alloc (.cells #[] 3)).drew none := gbDrew (gbAlloc w (.cells #[] 3) none)
  have hE : IL (w.alloc (.cells #[] 3)).drew w.heap.size (.slice (some ⟨w.heap.size, 0, none⟩) 0 0) [] := Ls.kept (Ls.empty eI 3 1 w) (gbDrewN _ 1 none)
  obtain ⟨v1, w1, r1, l1, g1, _⟩ := run_append_i (w.alloc (.cells #[] 3)).drew w.heap.size (.slice (some ⟨w.heap.size, 0, none⟩) 0 0) [] hE 44 (some ⟨g, 0, none⟩) i c1 (L.take i) (by rw [List.length_take]; omega) (by simp) (by
    rintro ad' ⟨⟩ j u hu
    have := (h.kept G).row encI hn 0 (L.take i) (fun j => by
      rw [List.getElem?_take, Nat.zero_add]
      split
      · exact .inr rfl
      · exact .inl rfl) j u hu
    simpa using this) (by simp; omega) (by simp)
  have G1 : w.grownBy w1 none := gbNews (gbTrans (gbAny G _) g1) (fun k hk => by cases hk; exact Nat.le_refl _)
  obtain ⟨x1, d1, rfl, _⟩ := l1.arr
  obtain ⟨v2, w2, r2, l2, g2, _⟩ := run_append_i w1 w.heap.size _ ([] ++ L.take i) l1 44 (some ad) (n - x) c2 (L.drop x) (by rw [List.length_drop, hn]) (by simp) (by
    rintro ad' ⟨⟩ j u hu
    have hlt : 0 < (L.drop x).length := by
      have := (List.getElem?_eq_some_iff.1 hu).1
      rw [cl_len encI] at this
      omega
    rw [List.length_drop] at hlt
    obtain rfl := had (by omega)
    have := (h.kept G1).row encI hn x (L.drop x) (fun j => .inr (by rw [List.getElem?_drop])) j u hu
    simpa using this) (by simp; omega) G1.size
  have G2 : w.grownBy w2 none := gbNews (gbTrans (gbAny G1 _) g2) (fun k hk => (l1.lt k hk).1)
  obtain ⟨x2, d2, rfl, _⟩ := l2.arr
  refine ⟨x1, _, d1, w1, x2, _, d2, w2, r1, r2, G1, ?_, G2⟩
  have e : [] ++ L.take i ++ L.drop x = L.eraseIdx i := by rw [List.nil_append, hx, del_list]
  rw [e] at l2 ⊢
  exact l2
end Go.Proofs.Ytpacgdplbddclaa
