/-
  WHO IS PICKED, PLAIN: the highest level, who comes to it, and how it turns with yields.
-/
import Derived.Test.YtpacgdplbddclaaWrk
namespace Go.Proofs.Ytpacgdplbddclaa
set_option linter.unusedVariables false
namespace M
theorem se_cases (F : Nat → List (Int × Int)) (a e l : Int) :
    (se F a e l = 0 ∧ 0 ≤ e ∧ e < 4 ∧ 0 ≤ l ∧ l < 8 ∧ inn F a = false ∧ sp F a e l = upd F e.toNat (F e.toNat ++ [(a, l)])) ∨ (se F a e l ≠ 0 ∧ sp F a e l = F) := by
  unfold se sp
  by_cases c : 0 ≤ a ∧ a < 64 ∧ 0 ≤ e ∧ e < 4 ∧ 0 ≤ l ∧ l < 8
  · rw [if_pos c]
    cases hi : inn F a with
    | true => right; exact ⟨by simp, if_neg (fun e => by cases e.2)⟩
    | false => left; exact ⟨by simp, c.2.2.1, c.2.2.2.1, c.2.2.2.2.1, c.2.2.2.2.2, rfl, if_pos ⟨c, rfl⟩⟩
  · right
    rw [if_neg c]
    exact ⟨by simp, if_neg (fun e => c e.1)⟩
/-- The highest level of R is t, and D has its ids. -/
structure Top (R : List (Int × Int)) (t : Int) (D : List Int) : Prop where
  hi : hi (bb R) 8 = t
  li : lv R t = D
theorem hi_congr {b c : Nat → Bool} : ∀ {n : Nat}, (∀ i, i < n → b i = c i) → hi b n = M.hi c n := by
  intro n
  induction n with
  | zero => intro _; rfl
  | succ n ih =>
    intro h
    rw [M.hi, M.hi, h n (by omega), ih (fun i hi => h i (by omega))]
theorem hi_lift {b : Nat → Bool} : ∀ {n l : Nat}, l < n → M.hi b n < (l : Int) → M.hi (fun i => b i || decide (i = l)) n = (l : Int) := by
  intro n
  induction n with
  | zero => intro l h; omega
  | succ n ih =>
    intro l hl h
    rw [M.hi] at h ⊢
    by_cases e : b n = true
    · rw [e] at h; simp at h; omega
    · have e2 : b n = false := by simpa using e
      rw [e2] at h ⊢
      simp at h
      by_cases q : n = l
      · simp [q]
      · have q2 : l < n := by omega
        have := ih q2 h
        simp [q, this]
theorem hi_keep {b : Nat → Bool} : ∀ {n l : Nat}, (l : Int) ≤ M.hi b n → M.hi (fun i => b i || decide (i = l)) n = M.hi b n := by
  intro n
  induction n with
  | zero => intro l h; simp [M.hi] at h; omega
  | succ n ih =>
    intro l h
    rw [M.hi] at h ⊢
    rw [M.hi]
    by_cases e : b n = true
    · simp [e]
    · have e2 : b n = false := by simpa using e
      rw [e2] at h ⊢
      simp at h
      have hb := hi_bd b n
      have q : ¬ n = l := by omega
      have := ih h
      simp [q, this]
section
variable {R : List (Int × Int)} {t : Int} {D : List Int}
theorem Top.bd (h : Top R t D) : -1 ≤ t ∧ t < 8 := by
  have := hi_bd (bb R) 8
  rw [h.hi] at this
  omega
theorem Top.nil : Top [] (-1) [] := ⟨by decide, rfl⟩
theorem Top.above (h : Top R t D) {k : Nat} (hk : t < (k : Int)) (h8 : k < 8) : lv R k = [] := by
  have e : bb R k = false := by
    by_cases c : t < 0
    · exact hi_none (by rw [h.hi]; exact c) k h8
    · obtain ⟨m, rfl⟩ : ∃ m : Nat, t = m := ⟨t.toNat, by omega⟩
      exact (hi_at h.hi).2.2 k (by omega) h8
  unfold bb at e
  simpa using e
theorem bb_app (R : List (Int × Int)) (a : Int) (l : Nat) (i : Nat) : bb (R ++ [(a, (l : Int))]) i = (bb R i || decide (i = l)) := by
  unfold bb
  rw [lv_app]
  by_cases c : (i : Int) = (l : Int)
  · have : i = l := by omega
    rw [if_pos c]; simp [this]
  · have : ¬ i = l := by omega
    rw [if_neg c]; simp [this]
theorem Top.more (h : Top R t D) (a : Int) {l : Nat} (hl : l < 8) (c : t < (l : Int)) : Top (R ++ [(a, (l : Int))]) l [a] := by
  refine ⟨?_, ?_⟩
  · rw [hi_congr (fun i _ => bb_app R a l i)]
    exact hi_lift hl (by rw [h.hi]; exact c)
  · rw [lv_app, if_pos rfl, h.above c hl]
    rfl
theorem Top.level (h : Top R t D) (a : Int) {l : Nat} (hl : l < 8) (c : t = (l : Int)) : Top (R ++ [(a, (l : Int))]) l (D ++ [a]) := by
  refine ⟨?_, ?_⟩
  · rw [hi_congr (fun i _ => bb_app R a l i), hi_keep (by rw [h.hi, c]; omega), h.hi, c]
  · rw [lv_app, if_pos rfl, ← c, h.li]
theorem Top.less (h : Top R t D) (a : Int) {l : Nat} (hl : l < 8) (c : (l : Int) < t) : Top (R ++ [(a, (l : Int))]) t D := by
  refine ⟨?_, ?_⟩
  · rw [hi_congr (fun i _ => bb_app R a l i), hi_keep (by rw [h.hi]; omega), h.hi]
  · rw [lv_app, if_neg (by omega), h.li]
theorem Top.head {x : Int} {L : List Int} (g : Gd R) (h : Top R t (x :: L)) : nx R = x ∧ nb R = true ∧ 0 ≤ t ∧ x ∈ ids R := by
  have hb := h.bd
  have h0 : 0 ≤ t := by
    by_cases c : 0 ≤ t
    · exact c
    · exfalso
      have : x ∈ lv R t := by rw [h.li]; simp
      have := g.le _ _ (mem_lv.1 this)
      omega
  have hn : ¬ t < 0 := by omega
  refine ⟨?_, ?_, h0, ?_⟩
  · unfold nx
    rw [h.hi, if_neg hn, h.li]
    rfl
  · unfold nb
    rw [h.hi, if_neg hn]
  · exact mem_ids.2 ⟨t, mem_lv.1 (by rw [h.li]; simp)⟩
theorem Top.none (h : Top R t []) : nb R = false := by
  unfold nb
  rw [h.hi]
  by_cases c : t < 0
  · rw [if_pos c]
  · exfalso
    obtain ⟨m, rfl⟩ : ∃ m : Nat, t = m := ⟨t.toNat, by omega⟩
    have := (hi_at h.hi).2.1
    unfold bb at this
    rw [h.li] at this
    simp at this
theorem Top.some {x : Int} {L : List Int} (g : Gd R) (h : Top R t (x :: L)) : nb R = true := (h.head g).2.1
/-- The first one of it yields: it stands behind. -/
theorem Top.turn {x : Int} {L : List Int} (g : Gd R) (h : Top R t (x :: L)) : Top (rd R x ++ [(x, lo R x)]) t (L ++ [x]) := by
  obtain ⟨_, _, h0, hx⟩ := h.head g
  have hm : (x, t) ∈ R := mem_lv.1 (by rw [h.li]; simp)
  have hl : lo R x = t := lo_at g hm
  have hb := h.bd
  obtain ⟨m, hmt⟩ : ∃ m : Nat, t = m := ⟨t.toNat, by omega⟩
  rw [hl]
  have hnd := lv_nodup g.nd t
  rw [h.li] at hnd
  have e1 : lv (rd R x ++ [(x, t)]) t = L ++ [x] := by
    rw [lv_app, if_pos rfl, lv_rd, h.li, wo_head hnd]
  refine ⟨?_, e1⟩
  refine (hi_congr fun i hi => ?_).trans h.hi
  unfold bb
  by_cases c : (i : Int) = t
  · rw [c, e1, h.li]
    simp
  · rw [lv_app, if_neg c, lv_rd, wo_not]
    intro hmem
    exact c (g.one (mem_lv.1 hmem) hm)
end
/-- A list, turned i times. -/
def rot (D : List Int) (i : Nat) : List Int := D.drop i ++ D.take i
theorem rot_zero (D : List Int) : rot D 0 = D := by simp [rot]
theorem rot_all (D : List Int) : rot D D.length = D := by simp [rot]
theorem rot_at {D : List Int} {i : Nat} {x : Int} (h : D[i]? = .some x) : rot D i = x :: (D.drop (i + 1) ++ D.take i) ∧ rot D (i + 1) = (D.drop (i + 1) ++ D.take i) ++ [x] := by
  have hi := (List.getElem?_eq_some_iff.1 h)
  obtain ⟨hlt, hx⟩ := hi
  unfold rot
  refine ⟨?_, ?_⟩
  · rw [List.drop_eq_getElem_cons hlt, hx]; rfl
  · rw [List.take_add_one, h]; simp
end M
end Go.Proofs.Ytpacgdplbddclaa
