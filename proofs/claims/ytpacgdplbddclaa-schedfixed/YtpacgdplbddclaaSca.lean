/-
  A SCHEDULE IN MEMORY, the program's: its entries, which one runs, four Readys; an array of four pointers as one value.
-/
import Derived.Test.YtpacgdplbddclaaPla
namespace Go.Proofs.Ytpacgdplbddclaa
set_option maxRecDepth 10000
open Go.RowKit
set_option linter.unusedVariables false

/-! ### Lists of entries -/
abbrev eP (o : Int × Int) : List Value := [.int .i64 o.1, .int .i64 o.2]
theorem encP : Enc eP 2 := ⟨by decide, fun _ => rfl, fun x u hu => by simp at hu; rcases hu with rfl | rfl <;> rfl⟩
/-- Pairs of numbers that are read, whoever has them. -/
def Pairs (w : World) (a : Option Addr) (T : List (Int × Int)) : Prop := ∀ i o, T[i]? = some o → ∃ x, a = some x ∧ w.cell? (x.add (i * 2)) = some (.int .i64 o.1) ∧ w.cell? ⟨(x.add (i * 2)).block, (x.add (i * 2)).off + 1, none⟩ = some (.int .i64 o.2)
theorem Pairs.kept {w w' : World} {a : Option Addr} {T : List (Int × Int)} (h : Pairs w a T) (g : w.grownBy w' none) : Pairs w' a T := fun i o ho => by
  obtain ⟨x, h1, h2, h3⟩ := h i o ho
  exact ⟨x, h1, g.cell h2 (by simp), g.cell h3 (by simp)⟩
theorem addAt (g j : Nat) : (⟨g, 0, none⟩ : Addr).add j = ⟨g, j, none⟩ := by
  rw [Addr.add_lit, Nat.zero_add]
theorem Ls.pairs {tk : TypeId} {w : World} {B : Nat} {x : Option Addr} {n cap : Nat} {T : List (Int × Int)} (h : Ls eP tk 2 w B (.slice x n cap) T) : Pairs w x T := fun i o ho => by
  rcases h.form with ⟨e, rfl⟩ | ⟨g, c, e, _⟩
  · simp at ho
  · cases e
    refine ⟨_, rfl, ?_⟩
    rw [addAt]
    exact ⟨by have := h.cell encP rfl i 0 o _ ho rfl; simpa using this, h.cell encP rfl i 1 o _ ho rfl⟩
/-- Cell by cell. -/
theorem Pairs.row {w : World} {x : Addr} {T : List (Int × Int)} (h : Pairs w (some x) T) : ∀ j u, (cl eP T)[j]? = some u → w.cell? (x.add j) = some u := by
  intro j u hu
  have hj : j < T.length * 2 := by have := (List.getElem?_eq_some_iff.1 hu).1; rwa [cl_len encP] at this
  obtain ⟨o, ho⟩ : ∃ o, T[j / 2]? = some o := ⟨_, List.getElem?_eq_getElem (by omega)⟩
  obtain ⟨y, e, h1, h2⟩ := h _ o ho
  cases e
  have hk : j % 2 < 2 := by omega
  have hg := cl_get encP T (j / 2) (j % 2) o ho hk
  have e2 : j / 2 * 2 + j % 2 = j := by omega
  rw [e2, hu] at hg
  rcases (show j % 2 = 0 ∨ j % 2 = 1 by omega) with e3 | e3
  · rw [e3] at hg
    simp at hg
    subst hg
    have e4 : j / 2 * 2 = j := by omega
    rw [e4] at h1
    exact h1
  · rw [e3] at hg
    simp at hg
    subst hg
    have e4 : x.add j = ⟨(x.add (j / 2 * 2)).block, (x.add (j / 2 * 2)).off + 1, none⟩ := by
      have hj0 : j ≠ 0 := by omega
      unfold Addr.add
      rw [if_neg hj0]
      by_cases c : j / 2 * 2 = 0
      · rw [if_pos c]; simp <;> omega
      · rw [if_neg c]; simp only [Addr.mk.injEq, true_and, and_true]; omega
    rw [e4]
    exact h2

/-! ### An array of four pointers -/
def arr4 (vs : Nat → Value) : Array Value := #[vs 0, vs 1, vs 2, vs 3]
theorem arr4_get (vs : Nat → Value) (i : Nat) (hi : i < 4) : (arr4 vs)[i]? = some (vs i) := by
  have : i = 0 ∨ i = 1 ∨ i = 2 ∨ i = 3 := by omega
  rcases this with rfl | rfl | rfl | rfl <;> rfl
theorem Try.sizeArr4 : (Try.prog.info? 56).map (·.size) = some 4 := by kernel_rfl
theorem load4 {w : World} {p : Nat} {vs : Nat → Value} (h : ∀ i, i < 4 → w.cell? ⟨p, 3 + i, none⟩ = some (vs i)) : (Instr.loadAt 56 (.pointer (some ⟨p, 3, none⟩))).run Try.prog w = .ok (.agg (arr4 vs)) w := by
  have := run_loadAt_mid (P := Try.prog) w p 3 56 (arr4 vs).toList _ (fun j v hv => by
    have hj : j < 4 := (List.getElem?_eq_some_iff.1 hv).1
    have e := arr4_get vs j hj
    rw [← Array.getElem?_toList, hv] at e
    cases e
    exact h j hj) Try.underlying56 rfl (by rw [Try.sizeArr4]; rfl)
  simpa using this
theorem index4 (w : World) (vs : Nat → Value) (i : Nat) (hi : i < 4) : (Instr.index 56 (.agg (arr4 vs)) (.int .i64 i)).run Try.prog w = .ok (vs i) w := by
  have hc : (sizeOf 55).run Try.prog w = .ok 1 w := by kernel_rfl
  have ha : (isAgg 55).run Try.prog w = .ok false w := by kernel_rfl
  have hb : (0 : Int) ≤ (i : Int) ∧ (i : Int) < ((4 : Nat) : Int) := by omega
  unfold Instr.index
  simp only [Sem.run_bind, asIntOf, Sem.run_pure, run_underlying Try.underlying56, Result.andThen_ok, Sem.run_ite, if_pos hb, hc, Int.toNat_natCast]
  simp [part, Sem.run_bind, ha, arr4_get vs i hi]
theorem wpList_load4 {w : World} {ops : Array Oper} {rest : List Oper} {o : Oper} {a : Act} {Q : Exit → Act → World → Prop} (hg : o.guard = none) (x : Operand) (ho : o.op = .load 56 x)
    (p : Nat) (A : Array Value) (hx : a.eval x = .pointer (some ⟨p, 3, none⟩)) (hl : (Instr.loadAt 56 (.pointer (some ⟨p, 3, none⟩))).run Try.prog w = .ok (.agg A) w)
    (h : wpList Try.prog ops Q rest (a.put o.dst (.agg A)) w) : wpList Try.prog ops Q (o :: rest) a w :=
  wpList_plain hg fun K' hK' => by
    unfold Oper.wp execOp
    simp only [ho, hx, Sem.run_bind, hl, Result.andThen_ok, Sem.run_pure]
    exact hK' _ _ h
theorem wpList_index4 {w : World} {ops : Array Oper} {rest : List Oper} {o : Oper} {a : Act} {Q : Exit → Act → World → Prop} (hg : o.guard = none) (x y : Operand) (ho : o.op = .index 56 x y)
    (A : Array Value) (i : Nat) (v : Value) (hx : a.eval x = .agg A) (hy : a.eval y = .int .i64 i) (hr : (Instr.index 56 (.agg A) (.int .i64 i)).run Try.prog w = .ok v w)
    (h : wpList Try.prog ops Q rest (a.put o.dst v) w) : wpList Try.prog ops Q (o :: rest) a w :=
  wpList_plain hg fun K' hK' => by
    unfold Oper.wp execOp
    simp only [ho, hx, hy, Sem.run_bind, hr, Result.andThen_ok, Sem.run_pure]
    exact hK' _ _ h

/-! ### The program's schedule -/
/-- A pointer to what lies at a block's beginning. -/
abbrev ptr (q : Nat) : Value := .pointer (some ⟨q, 0, none⟩)
/-- The schedule at p: its entries T, entry n with l ticks left; the first j domains' Readys at qs, with the blocks Os. -/
structure SV (w : World) (O : Nat → Prop) (p : Nat) (T : List (Int × Int)) (n : Nat) (l : Int) (F : Nat → List (Int × Int)) (x : Option Addr) (cap : Nat) (j : Nat) (qs : Nat → Nat) (Os : Nat → Nat → Prop) : Prop where
  c0 : w.cell? ⟨p, 0, none⟩ = some (.slice x T.length cap)
  c1 : w.cell? ⟨p, 1, none⟩ = some (.int .i64 n)
  c2 : w.cell? ⟨p, 2, none⟩ = some (.int .i64 l)
  c3 : ∀ d, d < 4 → w.cell? ⟨p, 3 + d, none⟩ = some (if d < j then ptr (qs d) else .pointer none)
  tl : Ls eP 49 2 w 0 (.slice x T.length cap) T
  tb : ∀ k, Value.ownBlock (.slice x T.length cap) = some k → O k ∧ k ≠ p ∧ ∀ d, d < j → ¬ Os d k
  ra : ∀ d, d < j → RA w (Os d) (qs d) (F d)
  os : ∀ d k, d < j → Os d k → O k ∧ k ≠ p
  ob : ∀ d k, d < j → Os d k → k < w.heap.size
  ap : ∀ d e k, d < j → e < j → Os d k → Os e k → d = e
  fz : ∀ i, w.frozen? ⟨p, i, none⟩ = false
  lt : p < w.heap.size
  op : O p
section
variable {w w' : World} {O O' : Nat → Prop} {p : Nat} {T : List (Int × Int)} {n : Nat} {l : Int} {F : Nat → List (Int × Int)} {x : Option Addr} {cap j : Nat} {qs : Nat → Nat} {Os : Nat → Nat → Prop}
theorem SV.fr (h : SV w O p T n l F x cap j qs Os) (k : Fr O' w w') (hd : ∀ i, O i → ¬ O' i) : SV w' O p T n l F x cap j qs Os :=
  have hp := hd p h.op
  ⟨k.cell h.c0 hp, k.cell h.c1 hp, k.cell h.c2 hp, fun d hd4 => k.cell (h.c3 d hd4) hp, h.tl.fr k (fun b hb => hd b (h.tb b hb).1), h.tb, fun d hdj => (h.ra d hdj).fr k (fun i hi => hd i (h.os d i hdj hi).1), h.os, fun d b hdj hb => Nat.lt_of_lt_of_le (h.ob d b hdj hb) k.size, h.ap, fun i => (k.frozen h.lt hp).trans (h.fz i), Nat.lt_of_lt_of_le h.lt k.size, h.op⟩
theorem SV.kept (h : SV w O p T n l F x cap j qs Os) (g : w.grownBy w' none) : SV w' O p T n l F x cap j qs Os := h.fr (O' := fun _ => False) (Fr.grown g) (fun _ _ e => e)
theorem SV.mono (h : SV w O p T n l F x cap j qs Os) (hO : ∀ i, O i → O' i) : SV w O' p T n l F x cap j qs Os :=
  ⟨h.c0, h.c1, h.c2, h.c3, h.tl, fun k hk => ⟨hO k (h.tb k hk).1, (h.tb k hk).2⟩, h.ra, fun d k hd hk => ⟨hO k (h.os d k hd hk).1, (h.os d k hd hk).2⟩, h.ob, h.ap, h.fz, h.lt, hO p h.op⟩
theorem SV.same {G : Nat → List (Int × Int)} (h : SV w O p T n l F x cap j qs Os) (e : ∀ d, d < j → F d = G d) : SV w O p T n l G x cap j qs Os :=
  ⟨h.c0, h.c1, h.c2, h.c3, h.tl, h.tb, fun d hd => by rw [← e d hd]; exact h.ra d hd, h.os, h.ob, h.ap, h.fz, h.lt, h.op⟩
/-- One of the domains' Readys turned. -/
theorem SV.turn (h : SV w O p T n l F x cap j qs Os) {d : Nat} (hd : d < j) {R : List (Int × Int)} (Z : RA w' (wide (Os d) w w') (qs d) R) (k : Fr (Os d) w w') :
    SV w' (wide O w w') p T n l (upd F d R) x cap j qs (upd Os d (wide (Os d) w w')) ∧ Fr O w w' := by
  have hp : ¬ Os d p := fun e => (h.os d p hd e).2 rfl
  have hs := k.size
  refine ⟨⟨k.cell h.c0 hp, k.cell h.c1 hp, k.cell h.c2 hp, fun e he => k.cell (h.c3 e he) hp, h.tl.fr k (fun b hb => (h.tb b hb).2.2 d hd), fun b hb => ⟨.inl (h.tb b hb).1, (h.tb b hb).2.1, fun e he => ?_⟩, fun e he => ?_, fun e i he hi => ?_, fun e i he hi => ?_, fun e f i he hf hi hi2 => ?_, fun i => (k.frozen h.lt hp).trans (h.fz i), Nat.lt_of_lt_of_le h.lt hs, .inl h.op⟩, k.mono fun i _ hi => (h.os d i hd hi).1⟩
  · have hlt := (h.tl.lt b hb).2
    by_cases q : e = d
    · subst q; rw [upd_at]; exact wideNo ((h.tb b hb).2.2 e he) hlt
    · rw [upd_ne _ _ q]; exact (h.tb b hb).2.2 e he
  · by_cases q : e = d
    · subst q; rw [upd_at, upd_at]; exact Z
    · rw [upd_ne _ _ q, upd_ne _ _ q]; exact (h.ra e he).fr k (fun i hi e2 => q (h.ap e d i he hd hi e2))
  · by_cases q : e = d
    · subst q; rw [upd_at] at hi
      rcases hi with hi | hi
      · exact ⟨.inl (h.os e i he hi).1, (h.os e i he hi).2⟩
      · have := h.lt; exact ⟨.inr hi, by omega⟩
    · rw [upd_ne _ _ q] at hi; exact ⟨.inl (h.os e i he hi).1, (h.os e i he hi).2⟩
  · by_cases q : e = d
    · subst q; rw [upd_at] at hi
      rcases hi with hi | hi
      · exact Nat.lt_of_lt_of_le (h.ob e i he hi) hs
      · exact hi.2
    · rw [upd_ne _ _ q] at hi; exact Nat.lt_of_lt_of_le (h.ob e i he hi) hs
  · have hm : ∀ e, e < j → upd Os d (wide (Os d) w w') e i → Os e i ∨ (e = d ∧ w.heap.size ≤ i) := fun e he hi => by
      by_cases q : e = d
      · subst q; rw [upd_at] at hi
        rcases hi with hi | hi
        · exact .inl hi
        · exact .inr ⟨rfl, hi.1⟩
      · rw [upd_ne _ _ q] at hi; exact .inl hi
    rcases hm e he hi with h1 | ⟨h1, h2⟩ <;> rcases hm f hf hi2 with h3 | ⟨h3, h4⟩
    · exact h.ap e f i he hf h1 h3
    · have := h.ob e i he h1; omega
    · have := h.ob f i hf h3; omega
    · rw [h1, h3]
/-- The entry and its ticks are stored. -/
theorem SV.setLeft (h : SV w O p T n l F x cap j qs Os) (l' : Int) : ∃ W, w.setCell ⟨p, 2, none⟩ (.int .i64 l') = W ∧ SV W O p T n l' F x cap j qs Os ∧ w.grownBy W (some p) := by
  have G := gbSetCell w p 2 (.int .i64 l')
  have F1 : Fr (fun i => i = p) w (w.setCell ⟨p, 2, none⟩ (.int .i64 l')) := Fr.at G rfl
  have oth : ∀ i v, i ≠ 2 → w.cell? ⟨p, i, none⟩ = some v → (w.setCell ⟨p, 2, none⟩ (.int .i64 l')).cell? ⟨p, i, none⟩ = some v := fun i v hi hv => (World.cell?_setCell_other _ _ _ _ (by intro q; cases q; exact hi rfl)).trans hv
  exact ⟨_, rfl, ⟨oth 0 _ (by decide) h.c0, oth 1 _ (by decide) h.c1, World.cell?_setCell_same _ _ _ h.c2, fun d hd => oth _ _ (by omega) (h.c3 d hd), h.tl.fr F1 (fun k hk => (h.tb k hk).2.1), h.tb, fun d hd => (h.ra d hd).fr F1 (fun i hi => (h.os d i hd hi).2), h.os, fun d k hd hk => Nat.lt_of_lt_of_le (h.ob d k hd hk) F1.size, h.ap, fun i => by rw [World.frozen?_setCell]; exact h.fz i, Nat.lt_of_lt_of_le h.lt F1.size, h.op⟩, G⟩
theorem SV.setEntry (h : SV w O p T n l F x cap j qs Os) (m : Nat) : ∃ W, w.setCell ⟨p, 1, none⟩ (.int .i64 m) = W ∧ SV W O p T m l F x cap j qs Os ∧ w.grownBy W (some p) := by
  have G := gbSetCell w p 1 (.int .i64 m)
  have F1 : Fr (fun i => i = p) w (w.setCell ⟨p, 1, none⟩ (.int .i64 m)) := Fr.at G rfl
  have oth : ∀ i v, i ≠ 1 → w.cell? ⟨p, i, none⟩ = some v → (w.setCell ⟨p, 1, none⟩ (.int .i64 m)).cell? ⟨p, i, none⟩ = some v := fun i v hi hv => (World.cell?_setCell_other _ _ _ _ (by intro q; cases q; exact hi rfl)).trans hv
  exact ⟨_, rfl, ⟨oth 0 _ (by decide) h.c0, World.cell?_setCell_same _ _ _ h.c1, oth 2 _ (by decide) h.c2, fun d hd => oth _ _ (by omega) (h.c3 d hd), h.tl.fr F1 (fun k hk => (h.tb k hk).2.1), h.tb, fun d hd => (h.ra d hd).fr F1 (fun i hi => (h.os d i hd hi).2), h.os, fun d k hd hk => Nat.lt_of_lt_of_le (h.ob d k hd hk) F1.size, h.ap, fun i => by rw [World.frozen?_setCell]; exact h.fz i, Nat.lt_of_lt_of_le h.lt F1.size, h.op⟩, G⟩
/-- One more Ready, new, is stored. -/
theorem SV.more (h : SV w O p T n l F x cap j qs Os) (hj : j < 4) {q : Nat} {P : Nat → Prop} (g : w.grownBy w' none) (Z : RA w' P q (F j)) (hP : ∀ i, P i → w.heap.size ≤ i ∧ i < w'.heap.size) :
    SV (w'.setCell ⟨p, 3 + j, none⟩ (ptr q)) (wide O w w') p T n l F x cap (j + 1) (upd qs j q) (upd Os j P) ∧ w.grownBy (w'.setCell ⟨p, 3 + j, none⟩ (ptr q)) (some p) ∧ w'.cell? ⟨p, 3 + j, none⟩ = some (.pointer none) ∧ w'.frozen? ⟨p, 3 + j, none⟩ = false := by
  have H := h.kept g
  have G := gbSetCell w' p (3 + j) (ptr q)
  have hs := g.size
  have hlt := h.lt
  have F1 : Fr (fun i => i = p) w' (w'.setCell ⟨p, 3 + j, none⟩ (ptr q)) := Fr.at G rfl
  have oth : ∀ i v, i ≠ 3 + j → w'.cell? ⟨p, i, none⟩ = some v → (w'.setCell ⟨p, 3 + j, none⟩ (ptr q)).cell? ⟨p, i, none⟩ = some v := fun i v hi hv => (World.cell?_setCell_other _ _ _ _ (by intro q; cases q; exact hi rfl)).trans hv
  have c3 := H.c3 j hj
  rw [if_neg (Nat.lt_irrefl j)] at c3
  refine ⟨⟨oth 0 _ (by omega) H.c0, oth 1 _ (by omega) H.c1, oth 2 _ (by omega) H.c2, fun d hd => ?_, H.tl.fr F1 (fun k hk => (h.tb k hk).2.1), fun k hk => ⟨.inl (h.tb k hk).1, (h.tb k hk).2.1, fun d hd e => ?_⟩, fun d hd => ?_, fun d k hd hk => ?_, fun d k hd hk => ?_, fun d e k hd he h1 h2 => ?_, fun i => by rw [World.frozen?_setCell]; exact H.fz i, Nat.lt_of_lt_of_le H.lt F1.size, .inl h.op⟩, gbTrans (gbAny g _) G, c3, H.fz _⟩
  · by_cases e : d = j
    · subst e
      rw [if_pos (by omega), upd_at]
      exact World.cell?_setCell_same _ _ _ c3
    · rw [upd_ne _ _ e]
      have := oth _ _ (by omega) (H.c3 d hd)
      rw [this]
      by_cases c : d < j
      · rw [if_pos c, if_pos (by omega)]
      · rw [if_neg c, if_neg (by omega)]
  · by_cases q2 : d = j
    · subst q2; rw [upd_at] at e; have := (h.tl.lt k hk).2; have := hP k e; omega
    · rw [upd_ne _ _ q2] at e; exact (h.tb k hk).2.2 d (by omega) e
  · by_cases q2 : d = j
    · subst q2; rw [upd_at, upd_at]; exact Z.fr F1 (fun i hi e => by have := hP i hi; omega)
    · rw [upd_ne _ _ q2, upd_ne _ _ q2]; exact (H.ra d (by omega)).fr F1 (fun i hi => (h.os d i (by omega) hi).2)
  · by_cases q2 : d = j
    · subst q2; rw [upd_at] at hk; have := hP k hk; exact ⟨.inr this, by omega⟩
    · rw [upd_ne _ _ q2] at hk; exact ⟨.inl (h.os d k (by omega) hk).1, (h.os d k (by omega) hk).2⟩
  · have hz := F1.size
    by_cases q2 : d = j
    · subst q2; rw [upd_at] at hk; have := hP k hk; omega
    · rw [upd_ne _ _ q2] at hk; have := h.ob d k (by omega) hk; omega
  · by_cases q2 : d = j <;> by_cases q3 : e = j
    · rw [q2, q3]
    · subst q2; rw [upd_at] at h1; rw [upd_ne _ _ q3] at h2; have := hP k h1; have := h.ob e k (by omega) h2; omega
    · subst q3; rw [upd_at] at h2; rw [upd_ne _ _ q2] at h1; have := hP k h2; have := h.ob d k (by omega) h1; omega
    · rw [upd_ne _ _ q2] at h1; rw [upd_ne _ _ q3] at h2; exact h.ap d e k (by omega) (by omega) h1 h2
end
/-- The program's schedule at p. -/
def SA (w : World) (O : Nat → Prop) (p : Nat) (T : List (Int × Int)) (n : Nat) (l : Int) (F : Nat → List (Int × Int)) : Prop := ∃ x cap qs Os, SV w O p T n l F x cap 4 qs Os
section
variable {w w' : World} {O O' : Nat → Prop} {p : Nat} {T : List (Int × Int)} {n : Nat} {l : Int} {F G : Nat → List (Int × Int)}
theorem SA.fr (h : SA w O p T n l F) (k : Fr O' w w') (hd : ∀ i, O i → ¬ O' i) : SA w' O p T n l F := by
  obtain ⟨x, c, q, Os, h⟩ := h; exact ⟨x, c, q, Os, h.fr k hd⟩
theorem SA.kept (h : SA w O p T n l F) (g : w.grownBy w' none) : SA w' O p T n l F := h.fr (O' := fun _ => False) (Fr.grown g) (fun _ _ e => e)
theorem SA.same (h : SA w O p T n l F) (e : ∀ d, d < 4 → F d = G d) : SA w O p T n l G := by
  obtain ⟨x, c, q, Os, h⟩ := h; exact ⟨x, c, q, Os, h.same e⟩
theorem SA.wider (h : SA w O p T n l F) (w1 w2 : World) : SA w (wide O w1 w2) p T n l F := by
  obtain ⟨x, c, q, Os, h⟩ := h; exact ⟨x, c, q, Os, h.mono fun i hi => .inl hi⟩
end
end Go.Proofs.Ytpacgdplbddclaa
