/-
  THE PLAIN TREE AS A ROW of slots with their depths, each ahead of its kin (the document's own): what stands ahead of a slot, its kin, and what stands behind; what becomes of the row. Speaks of no function.
-/
import Derived.Test.YtboojbnnjbmnoaaKin
namespace Go.Proofs.Ytboojbnnjbmnoaa
set_option linter.unusedVariables false
namespace Fo
def flat : Fo → Nat → List ((Int × Int) × Nat)
  | Deep.BT.nil, _ => []
  | Deep.BT.node bb oo a d r, k => (a, k) :: (flat d (k + 1) ++ flat r k)
theorem flat_fst (f : Fo) (k : Nat) : (flat f k).map Prod.fst = f.pre := by
  induction f using Fo.ind generalizing k with
  | nil => rfl
  | node bb oo a d r ihd ihr => simp [flat, pre, ihd, ihr]
theorem flat_len (f : Fo) (k : Nat) : (flat f k).length = f.pre.length := by rw [← flat_fst f k, List.length_map]
theorem flat_app (f g : Fo) (k : Nat) : flat (app f g) k = flat f k ++ flat g k := by
  induction f using Fo.ind generalizing k with
  | nil => rfl
  | node bb oo a d r _ ih => simp [app, flat, ih]
theorem flat_ge (f : Fo) (k : Nat) : ∀ x ∈ flat f k, k ≤ x.2 := by
  induction f using Fo.ind generalizing k with
  | nil => intro x hx; cases hx
  | node bb oo a d r ihd ihr =>
    intro x hx
    simp only [flat, List.mem_cons, List.mem_append] at hx
    rcases hx with rfl | hx | hx
    · exact Nat.le_refl _
    · have := ihd (k + 1) x hx; omega
    · exact ihr k x hx
theorem flat_lt (f : Fo) (k : Nat) : ∀ x ∈ flat f k, x.2 < k + f.pre.length := by
  induction f using Fo.ind generalizing k with
  | nil => intro x hx; cases hx
  | node bb oo a d r ihd ihr =>
    intro x hx
    simp only [flat, List.mem_cons, List.mem_append] at hx
    simp only [pre, List.length_cons, List.length_append]
    rcases hx with rfl | hx | hx
    · simp only; omega
    · have := ihd (k + 1) x hx; omega
    · have := ihr k x hx; omega
theorem flat_head (f : Fo) (k : Nat) (x : (Int × Int) × Nat) (h : (flat f k).head? = some x) : x.2 = k := by
  cases f using Fo.cs with
  | nil => cases h
  | node bb oo a d r => simp [flat] at h; rw [← h]
/-- One level up. -/
theorem flat_up (f : Fo) (k : Nat) : flat f k = (flat f (k + 1)).map fun x => (x.1, x.2 - 1) := by
  induction f using Fo.ind generalizing k with
  | nil => rfl
  | node bb oo a d r ihd ihr =>
    simp only [flat, List.map_cons, List.map_append]
    rw [← ihd (k + 1), ← ihr k]
    simp
/-- The first row, by depths. -/
theorem flat_tops (f : Fo) (k : Nat) : ((flat f k).filter fun x => x.2 == k).map Prod.fst = f.tops := by
  induction f using Fo.ind generalizing k with
  | nil => rfl
  | node bb oo a d r ihd ihr =>
    simp only [flat, tops]
    have h1 : (flat d (k + 1)).filter (fun x => x.2 == k) = [] := List.filter_eq_nil_iff.2 (fun x hx => by have := flat_ge d (k + 1) x hx; simp; omega)
    rw [List.filter_cons, List.filter_append, h1]
    simp [ihr]
/-- The last one ahead that is less deep. -/
def up : List ((Int × Int) × Nat) → Nat → Option (Int × Int)
  | [], _ => none
  | x :: l, j => match up l j with
    | some y => some y
    | none => if x.2 < j then some x.1 else none
theorem up_app (l m : List ((Int × Int) × Nat)) (j : Nat) : up (l ++ m) j = (up m j).or (up l j) := by
  induction l with
  | nil => simp [up]
  | cons x l ih =>
    simp only [List.cons_append, up, ih]
    cases up m j <;> rfl
theorem up_none {l : List ((Int × Int) × Nat)} {j : Nat} (h : ∀ x ∈ l, j ≤ x.2) : up l j = none := by
  induction l with
  | nil => rfl
  | cons x l ih =>
    simp only [up, ih (fun y hy => h y (by simp [hy]))]
    rw [if_neg (by have := h x (by simp); omega)]
theorem up_none' {l : List ((Int × Int) × Nat)} {j : Nat} (h : up l j = none) : ∀ x ∈ l, j ≤ x.2 := by
  induction l with
  | nil => intro x hx; cases hx
  | cons y l ih =>
    simp only [up] at h
    cases hl : up l j with
    | some z => rw [hl] at h; cases h
    | none =>
      rw [hl] at h
      simp only at h
      intro x hx
      rcases List.mem_cons.1 hx with rfl | hx
      · by_cases e : x.2 < j
        · rw [if_pos e] at h; cases h
        · omega
      · exact ih hl x hx

/-- A slot's place in the row. -/
structure At (f : Fo) (k : Nat) (s : Int × Int) (d : Fo) (A C : List ((Int × Int) × Nat)) (j : Nat) : Prop where
  eq : flat f k = A ++ ((s, j) :: (flat d (j + 1) ++ C))
  out : ∀ x ∈ A, x.1 ≠ s
  hd : ∀ x, C.head? = some x → x.2 ≤ j
  ge : k ≤ j
  lo : (∀ x ∈ A, j ≤ x.2) → j = k
  add : ∀ s', flat (add s s' f) k = A ++ ((s, j) :: (flat d (j + 1) ++ ((s', j + 1) :: C)))
  drop : flat (drop s f) k = A ++ (flat d j ++ C)
  mv : ∀ t, flat (mv s t f) k = A ++ ((t, j) :: (flat d (j + 1) ++ C))
  par : ∀ p q l, f.view p s = some (q, l) → q = (up A j).or p
theorem at_of {f d : Fo} {s : Int × Int} (hn : f.pre.Nodup) (h : f.sub s = some d) (k : Nat) : ∃ A C j, At f k s d A C j := by
  induction f using Fo.ind generalizing k with
  | nil => cases h
  | node bb oo a e r ihe ihr =>
    obtain ⟨h1, h2, h3, h4, h5⟩ := nodup_node.1 hn
    simp only [sub] at h
    by_cases ea : a = s
    · rw [if_pos ea] at h
      cases h
      subst ea
      refine ⟨[], flat r k, k, ⟨rfl, by simp, fun x hx => Nat.le_of_eq (flat_head r k x hx), Nat.le_refl _, fun _ => rfl, fun s' => ?_, ?_, fun t => ?_, fun p q l hv => ?_⟩⟩
      · simp [add, flat, flat_app, one]
      · simp [Fo.drop, flat_app]
      · simp [Fo.mv, flat, mv_out h1, mv_out h2]
      · simp only [view, if_true, Option.some.injEq, Prod.mk.injEq] at hv
        simp [up, hv.1]
    · rw [if_neg ea] at h
      cases he : e.sub s with
      | some z =>
        rw [he] at h
        simp only [Option.some_or, Option.some.injEq] at h
        subst h
        have hse := sub_in he
        have hsr := h5 _ hse
        obtain ⟨A, C, j, H⟩ := ihe h3 he (k + 1)
        refine ⟨(a, k) :: A, C ++ flat r k, j, ⟨?_, ?_, ?_, by have := H.ge; omega, ?_, fun s' => ?_, ?_, fun t => ?_, fun p q l hv => ?_⟩⟩
        · simp [flat, H.eq]
        · intro x hx
          rcases List.mem_cons.1 hx with rfl | hx
          · exact ea
          · exact H.out x hx
        · intro x hx
          cases C with
          | nil =>
            simp only [List.nil_append] at hx
            have := flat_head r k x hx
            have := H.ge
            omega
          | cons y C => exact H.hd x (by simpa using hx)
        · intro hA
          have h6 : j ≤ k := hA (a, k) (by simp)
          have h7 := H.ge
          omega
        · simp [add, ea, flat, H.add s', add_out hsr]
        · simp [Fo.drop, ea, flat, H.drop, drop_out hsr]
        · simp [Fo.mv, ea, flat, H.mv t, mv_out hsr]
        · simp only [view, if_neg ea] at hv
          cases hw : e.view (some a) s with
          | none => exact absurd hse (view_none.1 hw)
          | some y =>
            rw [hw] at hv
            simp only [Option.some_or, Option.some.injEq] at hv
            subst hv
            have hq := H.par (some a) q l hw
            rw [hq]
            simp only [up]
            cases hu : up A j with
            | some y => rfl
            | none => rw [if_pos (by have := H.ge; omega)]; rfl
      | none =>
        rw [he] at h
        simp only [Option.none_or] at h
        have hse := sub_none.1 he
        obtain ⟨A, C, j, H⟩ := ihr h4 h k
        refine ⟨(a, k) :: (flat e (k + 1) ++ A), C, j, ⟨?_, ?_, H.hd, H.ge, ?_, fun s' => ?_, ?_, fun t => ?_, fun p q l hv => ?_⟩⟩
        · simp [flat, H.eq]
        · intro x hx
          rcases List.mem_cons.1 hx with rfl | hx
          · exact ea
          · rcases List.mem_append.1 hx with hx | hx
            · intro e2
              refine hse ?_
              rw [← flat_fst e (k + 1), ← e2]
              exact List.mem_map_of_mem hx
            · exact H.out x hx
        · intro hA
          have h6 : j ≤ k := hA (a, k) (by simp)
          have h7 := H.ge
          omega
        · simp [add, ea, flat, H.add s', add_out hse]
        · simp [Fo.drop, ea, flat, H.drop, drop_out hse]
        · simp [Fo.mv, ea, flat, H.mv t, mv_out hse]
        · simp only [view, if_neg ea, view_none.2 hse, Option.none_or] at hv
          rw [H.par p q l hv]
          simp only [up, up_app]
          cases hu : up A j with
          | some y => rfl
          | none =>
            have hj := H.lo (up_none' hu)
            subst hj
            have : up (flat e (j + 1)) j = none := up_none (fun x hx => by have := flat_ge e (j + 1) x hx; omega)
            simp [this]
end Fo
end Go.Proofs.Ytboojbnnjbmnoaa
