/-
  Plain: the acts of those that wait; who is met, who waits, who does no longer. A list that was made anew, beside a thing.
-/
import Derived.Test.YtenljiciiocagaaWrk
namespace Go.Proofs.Ytenljiciiocagaa
set_option linter.unusedVariables false
namespace M
/-- Who waits. -/
def ids (I : List Q) : List Int := I.map Q.i
/-- What it is at. -/
def wk : List Q → Int
  | [] => 0
  | q :: _ => q.k + 1
/-- Nobody twice, all of one side. -/
structure Wd (I : List Q) : Prop where
  nd : (ids I).Nodup
  one : ∀ q ∈ I, (q.k = 0 ∨ q.k = 1) ∧ q.k + 1 = wk I
theorem Wd.nil : Wd [] := ⟨by unfold ids; simp, fun q hq => by cases hq⟩
theorem ids_len (I : List Q) : (ids I).length = I.length := by unfold ids; simp
/-- Who leaves. -/
def lv (I : List Q) (a : Int) : List Q := I.filter fun q => q.i != a
theorem lv_len (I : List Q) (a : Int) : (lv I a).length ≤ I.length := List.length_filter_le _ _
theorem ids_lv (I : List Q) (a : Int) : M.wo (ids I) a = ids (lv I a) := by
  unfold M.wo ids lv
  rw [List.filter_map]
  rfl
theorem wk_of {I : List Q} (h : Wd I) {D : List Q} (hs : ∀ q ∈ D, q ∈ I) : wk D = M.es (wk I) (ids D) := by
  unfold M.es
  cases D with
  | nil => rfl
  | cons q D =>
    rw [if_neg (by unfold ids; simp)]
    exact (h.one q (hs q (List.mem_cons_self ..))).2
theorem Wd.sub {I D : List Q} (h : Wd I) (hs : D.Sublist I) : Wd D := by
  refine ⟨h.nd.sublist (hs.map Q.i), fun q hq => ⟨(h.one q (hs.subset hq)).1, ?_⟩⟩
  rw [(h.one q (hs.subset hq)).2, wk_of h (fun x hx => hs.subset hx)]
  unfold M.es
  rw [if_neg]
  intro e
  unfold ids at e
  rw [List.map_eq_nil_iff] at e
  rw [e] at hq
  cases hq
theorem Wd.cancel {I : List Q} (h : Wd I) (a : Int) : Wd (lv I a) ∧ M.es (wk I) (M.wo (ids I) a) = wk (lv I a) := by
  have hs : (lv I a).Sublist I := List.filter_sublist
  exact ⟨h.sub hs, by rw [ids_lv, wk_of h (fun x hx => hs.subset hx)]⟩
theorem lv_in {a : Int} {I : List Q} {c : Nat} {q : Q} (h : I[c]? = some q) (e : (q.i == a) = true) : lv (I.take (c + 1)) a = lv (I.take c) a := by
  rw [List.take_add_one, h]
  unfold lv
  have e2 : q.i = a := by simpa using e
  simp [e2]
theorem lv_out {a : Int} {I : List Q} {c : Nat} {q : Q} (h : I[c]? = some q) (e : (q.i == a) = false) : lv (I.take (c + 1)) a = lv (I.take c) a ++ [q] := by
  rw [List.take_add_one, h]
  unfold lv
  have e2 : ¬ q.i = a := by simpa using e
  simp [e2]
/-- The sides: r's own t, the other one o. -/
structure Sd (r : Q) (t o : Int) : Prop where
  is : (r.k = 0 ∧ t = 1 ∧ o = 2) ∨ (r.k = 1 ∧ t = 2 ∧ o = 1)
theorem Wd.no {I : List Q} {a o t : Int} {wt : Bool} (p : ¬ pe (ids I) a = 0) : ek (wk I) (ids I) t o a wt = wk I ∧ el (wk I) (ids I) o a wt = ids I := by
  unfold ek el
  rw [if_neg p, if_neg p]
  exact ⟨rfl, rfl⟩
theorem Wd.meet {q : Q} {I : List Q} (h : Wd (q :: I)) {r : Q} {t o : Int} (s : Sd r t o) (hk : (q.k == r.k) = false) (p : pe (ids (q :: I)) r.i = 0) (wt : Bool) :
    eb (wk (q :: I)) (ids (q :: I)) o r.i = true ∧ ex (wk (q :: I)) (ids (q :: I)) o r.i = q.i ∧ ek (wk (q :: I)) (ids (q :: I)) t o r.i wt = wk I ∧ el (wk (q :: I)) (ids (q :: I)) o r.i wt = ids I ∧ Wd I := by
  have hq := (h.one q (List.mem_cons_self ..)).1
  have hk2 : ¬ q.k = r.k := by simpa using hk
  have e : wk (q :: I) = o := by
    show q.k + 1 = o
    rcases s.is with c | c <;> omega
  have hs : I.Sublist (q :: I) := List.sublist_cons_self q I
  refine ⟨?_, ?_, ?_, ?_, h.sub hs⟩
  · unfold eb
    rw [decide_eq_true_iff]
    exact ⟨p, e⟩
  · unfold ex
    rw [if_pos ⟨p, e⟩]
    rfl
  · unfold ek
    rw [if_pos p, if_pos e, wk_of h (fun x hx => hs.subset hx)]
    rfl
  · unfold el
    rw [if_pos p, if_pos e]
    rfl
/-- Nobody is there whom it could meet. -/
def Al (I : List Q) (r : Q) : Prop := ∀ q, I.head? = some q → q.k = r.k
theorem Wd.stay {I : List Q} (h : Wd I) {r : Q} {t o : Int} (s : Sd r t o) (ha : Al I r) (p : pe (ids I) r.i = 0) :
    eb (wk I) (ids I) o r.i = false ∧ (ek (wk I) (ids I) t o r.i true = wk (I ++ [r]) ∧ el (wk I) (ids I) o r.i true = ids (I ++ [r]) ∧ Wd (I ++ [r])) ∧ ek (wk I) (ids I) t o r.i false = wk I ∧ el (wk I) (ids I) o r.i false = ids I := by
  have e : ¬ wk I = o := by
    cases I with
    | nil =>
      show ¬ (0 : Int) = o
      rcases s.is with c | c <;> omega
    | cons q I =>
      have := ha q rfl
      show ¬ q.k + 1 = o
      rcases s.is with c | c <;> omega
  have w1 : wk (I ++ [r]) = t := by
    cases I with
    | nil =>
      show r.k + 1 = t
      rcases s.is with c | c <;> omega
    | cons q I =>
      have := ha q rfl
      show q.k + 1 = t
      rcases s.is with c | c <;> omega
  have w2 : ids (I ++ [r]) = ids I ++ [r.i] := by unfold ids; simp
  refine ⟨?_, ⟨?_, ?_, ⟨?_, ?_⟩⟩, ?_, ?_⟩
  · unfold eb
    rw [decide_eq_false_iff_not]
    exact fun c => e c.2
  · unfold ek
    rw [if_pos p, if_neg e, if_pos rfl, w1]
  · unfold el
    rw [if_pos p, if_neg e, if_pos rfl, w2]
  · rw [w2, ← M.pl_ok p]
    exact M.pl_nodup r.i h.nd
  · intro q hq
    rw [w1]
    rw [List.mem_append] at hq
    rcases hq with hq | hq
    · refine ⟨(h.one q hq).1, ?_⟩
      rw [(h.one q hq).2]
      cases I with
      | nil => cases hq
      | cons q0 I =>
        have := ha q0 rfl
        show q0.k + 1 = t
        rcases s.is with c | c <;> omega
    · simp at hq
      subst hq
      rcases s.is with c | c <;> omega
  · unfold ek
    rw [if_pos p, if_neg e, if_neg (by simp)]
  · unfold el
    rw [if_pos p, if_neg e, if_neg (by simp)]
theorem Wd.same {I : List Q} (h : Wd I) {i j : Nat} {q s : Q} (hi : I[i]? = some q) (hj : I[j]? = some s) : q.k = s.k := by
  have h1 := (h.one q (List.mem_of_getElem? hi)).2
  have h2 := (h.one s (List.mem_of_getElem? hj)).2
  omega
end M
section
variable {α : Type} {e : α → List Value} {tk : TypeId} {s : Nat} {A B : World → (Nat → Prop) → Prop} {w0 w w' : World} {P R : Nat → Prop} {D : List α} {v' : Value}
/-- A list that was made anew stands for the one that was there. -/
theorem Tw.fresh (hA : Keeps A) (h : Tw A B w0 w P R) (g : w.grownBy w' none) (l : Ls e tk s w' w.heap.size v' D) : Tw A (LB e tk s v' D) w0 w' P (wide R w w') :=
  Tw.doc (B' := LB e tk s v' D) hA h ⟨l.low, fun k hk => .inr (l.lt k hk)⟩ (Fr.grown g)
end
end Go.Proofs.Ytenljiciiocagaa
