/-
  A SCHEDULE IN MEMORY, the document's: its entries, how many ticks have gone, a list of pointers to four Readys; New.
-/
import Derived.Test.YtpacgdplbddclaaSch
import Derived.Test.YtpacgdplbddclaaRrp
namespace Go.Proofs.Ytpacgdplbddclaa
set_option maxRecDepth 10000
open Go.RowKit
set_option linter.unusedVariables false

/-! ### Lists of pointers -/
abbrev eR (x : Nat) : List Value := [ptr x]
theorem encR : Enc eR 1 := ⟨by decide, fun _ => rfl, fun x u hu => by simp at hu; subst hu; rfl⟩
abbrev RL (w : World) (B : Nat) (v : Value) (L : List Nat) : Prop := Ls eR 63 1 w B v L
theorem Try.infoPtr : (Try.prog.info? 63).map (fun i => (i.zero, i.size, i.bytes)) = some (some (.pointer none), 1, 8) := by kernel_rfl
theorem run_append_r (w : World) (B : Nat) (v : Value) (L : List Nat) (hown : RL w B v L) (ty : TypeId) (ox : Option Addr) (m c : Nat) (D : List Nat) (hm : D.length = m) (hno : ox = none → m = 0) (hx : ∀ ad, ox = some ad → ∀ j u, (cl eR D)[j]? = some u → w.cell? (ad.add j) = some u) (hn : L.length + m ≤ 100000) (hB : B ≤ w.heap.size) :
    ∃ v' w', (Builtin.append_ #[60, 60] ty #[v, .slice ox m c]).run Try.prog w = .ok v' w' ∧ RL w' B v' (L ++ D) ∧ w.grownBy w' v.ownBlock ∧ (v'.ownBlock = v.ownBlock ∨ v'.ownBlock = some w.heap.size) := by
  obtain ⟨i, hi, hx0⟩ := Option.map_eq_some_iff.1 Try.infoPtr
  simp only [Prod.mk.injEq] at hx0
  exact run_append_l encR Try.underlying60 hi hx0.1 hx0.2.1 hx0.2.2 (by kernel_rfl) (by decide) w B v L hown ty ox m c D hm hno hx hn hB
theorem RL.at {w : World} {B : Nat} {y : Option Addr} {n c : Nat} {L : List Nat} (h : RL w B (.slice y n c) L) (d x : Nat) (hd : L[d]? = some x) : ∃ g, y = some ⟨g, 0, none⟩ ∧ w.cell? ⟨g, d, none⟩ = some (ptr x) := by
  rcases h.form with ⟨e, rfl⟩ | ⟨g, c', e, _⟩
  · simp at hd
  · cases e
    exact ⟨g, rfl, by have := h.cell encR rfl d 0 x _ hd rfl; simpa using this⟩
abbrev DL (w : World) (B : Nat) (v : Value) (T : List (Int × Int)) : Prop := Ls eP 46 2 w B v T
theorem Try.infoTimeD : (Try.prog.info? 46).map (fun i => (i.zero, i.size, i.bytes)) = some (some (.agg #[.int .i64 0, .int .i64 0]), 2, 16) := by kernel_rfl
theorem run_append_d (w : World) (B : Nat) (v : Value) (L : List (Int × Int)) (hown : DL w B v L) (ty : TypeId) (ox : Option Addr) (m c : Nat) (D : List (Int × Int)) (hm : D.length = m) (hno : ox = none → m = 0) (hx : ∀ ad, ox = some ad → ∀ j u, (cl eP D)[j]? = some u → w.cell? (ad.add j) = some u) (hn : L.length + m ≤ 100000) (hB : B ≤ w.heap.size) :
    ∃ v' w', (Builtin.append_ #[22, 22] ty #[v, .slice ox m c]).run Try.prog w = .ok v' w' ∧ DL w' B v' (L ++ D) ∧ w.grownBy w' v.ownBlock ∧ (v'.ownBlock = v.ownBlock ∨ v'.ownBlock = some w.heap.size) := by
  obtain ⟨i, hi, hx0⟩ := Option.map_eq_some_iff.1 Try.infoTimeD
  simp only [Prod.mk.injEq] at hx0
  exact run_append_l encP Try.underlying22 hi hx0.1 hx0.2.1 hx0.2.2 (by kernel_rfl) (by decide) w B v L hown ty ox m c D hm hno hx hn hB

/-! ### The document's schedule -/
/-- At q: the entries T, N ticks gone; the first j domains' Readys at qs, with the blocks Os. -/
structure DV (w : World) (O : Nat → Prop) (q : Nat) (T : List (Int × Int)) (N : Int) (F : Nat → List (Int × Int)) (x : Option Addr) (cap : Nat) (y : Option Addr) (cp : Nat) (j : Nat) (qs : Nat → Nat) (Os : Nat → Nat → Prop) : Prop where
  c0 : w.cell? ⟨q, 0, none⟩ = some (.slice x T.length cap)
  c1 : w.cell? ⟨q, 1, none⟩ = some (.int .i64 N)
  c2 : w.cell? ⟨q, 2, none⟩ = some (.slice y j cp)
  tl : DL w 0 (.slice x T.length cap) T
  tb : ∀ k, Value.ownBlock (.slice x T.length cap) = some k → O k ∧ k ≠ q ∧ (∀ d, d < j → ¬ Os d k) ∧ Value.ownBlock (.slice y j cp) ≠ some k
  rl : RL w 0 (.slice y j cp) ((List.range j).map qs)
  rb : ∀ k, Value.ownBlock (.slice y j cp) = some k → O k ∧ k ≠ q ∧ ∀ d, d < j → ¬ Os d k
  ra : ∀ d, d < j → DA w (Os d) (qs d) (F d)
  os : ∀ d k, d < j → Os d k → O k ∧ k ≠ q
  ob : ∀ d k, d < j → Os d k → k < w.heap.size
  ap : ∀ d e k, d < j → e < j → Os d k → Os e k → d = e
  fz : ∀ i, w.frozen? ⟨q, i, none⟩ = false
  lt : q < w.heap.size
  op : O q
section
variable {w w' : World} {O O' : Nat → Prop} {q : Nat} {T : List (Int × Int)} {N : Int} {F : Nat → List (Int × Int)} {x : Option Addr} {cap : Nat} {y : Option Addr} {cp : Nat} {j : Nat} {qs : Nat → Nat} {Os : Nat → Nat → Prop}
theorem DV.fr (h : DV w O q T N F x cap y cp j qs Os) (k : Fr O' w w') (hd : ∀ i, O i → ¬ O' i) : DV w' O q T N F x cap y cp j qs Os :=
  have hp := hd q h.op
  ⟨k.cell h.c0 hp, k.cell h.c1 hp, k.cell h.c2 hp, h.tl.fr k (fun b hb => hd b (h.tb b hb).1), h.tb, h.rl.fr k (fun b hb => hd b (h.rb b hb).1), h.rb, fun d hdj => (h.ra d hdj).fr k (fun i hi => hd i (h.os d i hdj hi).1), h.os, fun d b hdj hb => Nat.lt_of_lt_of_le (h.ob d b hdj hb) k.size, h.ap, fun i => (k.frozen h.lt hp).trans (h.fz i), Nat.lt_of_lt_of_le h.lt k.size, h.op⟩
theorem DV.kept (h : DV w O q T N F x cap y cp j qs Os) (g : w.grownBy w' none) : DV w' O q T N F x cap y cp j qs Os := h.fr (O' := fun _ => False) (Fr.grown g) (fun _ _ e => e)
theorem DV.mono (h : DV w O q T N F x cap y cp j qs Os) (hO : ∀ i, O i → O' i) : DV w O' q T N F x cap y cp j qs Os :=
  ⟨h.c0, h.c1, h.c2, h.tl, fun k hk => ⟨hO k (h.tb k hk).1, (h.tb k hk).2⟩, h.rl, fun k hk => ⟨hO k (h.rb k hk).1, (h.rb k hk).2⟩, h.ra, fun d k hd hk => ⟨hO k (h.os d k hd hk).1, (h.os d k hd hk).2⟩, h.ob, h.ap, h.fz, h.lt, hO q h.op⟩
theorem DV.same {G : Nat → List (Int × Int)} (h : DV w O q T N F x cap y cp j qs Os) (e : ∀ d, d < j → F d = G d) : DV w O q T N G x cap y cp j qs Os :=
  ⟨h.c0, h.c1, h.c2, h.tl, h.tb, h.rl, h.rb, fun d hd => by rw [← e d hd]; exact h.ra d hd, h.os, h.ob, h.ap, h.fz, h.lt, h.op⟩
/-- One of the domains' Readys turned. -/
theorem DV.turn (h : DV w O q T N F x cap y cp j qs Os) {d : Nat} (hd : d < j) {R : List (Int × Int)} (Z : DA w' (wide (Os d) w w') (qs d) R) (k : Fr (Os d) w w') :
    DV w' (wide O w w') q T N (upd F d R) x cap y cp j qs (upd Os d (wide (Os d) w w')) ∧ Fr O w w' := by
  have hp : ¬ Os d q := fun e => (h.os d q hd e).2 rfl
  have hs := k.size
  refine ⟨⟨k.cell h.c0 hp, k.cell h.c1 hp, k.cell h.c2 hp, h.tl.fr k (fun b hb => (h.tb b hb).2.2.1 d hd), fun b hb => ⟨.inl (h.tb b hb).1, (h.tb b hb).2.1, fun e he => ?_, (h.tb b hb).2.2.2⟩, h.rl.fr k (fun b hb => (h.rb b hb).2.2 d hd), fun b hb => ⟨.inl (h.rb b hb).1, (h.rb b hb).2.1, fun e he => ?_⟩, fun e he => ?_, fun e i he hi => ?_, fun e i he hi => ?_, fun e f i he hf hi hi2 => ?_, fun i => (k.frozen h.lt hp).trans (h.fz i), Nat.lt_of_lt_of_le h.lt hs, .inl h.op⟩, k.mono fun i _ hi => (h.os d i hd hi).1⟩
  · have hlt := (h.tl.lt b hb).2
    by_cases c : e = d
    · subst c; rw [upd_at]; exact wideNo ((h.tb b hb).2.2.1 e he) hlt
    · rw [upd_ne _ _ c]; exact (h.tb b hb).2.2.1 e he
  · have hlt := (h.rl.lt b hb).2
    by_cases c : e = d
    · subst c; rw [upd_at]; exact wideNo ((h.rb b hb).2.2 e he) hlt
    · rw [upd_ne _ _ c]; exact (h.rb b hb).2.2 e he
  · by_cases c : e = d
    · subst c; rw [upd_at, upd_at]; exact Z
    · rw [upd_ne _ _ c, upd_ne _ _ c]; exact (h.ra e he).fr k (fun i hi e2 => c (h.ap e d i he hd hi e2))
  · by_cases c : e = d
    · subst c; rw [upd_at] at hi
      rcases hi with hi | hi
      · exact ⟨.inl (h.os e i he hi).1, (h.os e i he hi).2⟩
      · have := h.lt; exact ⟨.inr hi, by omega⟩
    · rw [upd_ne _ _ c] at hi; exact ⟨.inl (h.os e i he hi).1, (h.os e i he hi).2⟩
  · by_cases c : e = d
    · subst c; rw [upd_at] at hi
      rcases hi with hi | hi
      · exact Nat.lt_of_lt_of_le (h.ob e i he hi) hs
      · exact hi.2
    · rw [upd_ne _ _ c] at hi; exact Nat.lt_of_lt_of_le (h.ob e i he hi) hs
  · have hm : ∀ e, e < j → upd Os d (wide (Os d) w w') e i → Os e i ∨ (e = d ∧ w.heap.size ≤ i) := fun e he hi => by
      by_cases c : e = d
      · subst c; rw [upd_at] at hi
        rcases hi with hi | hi
        · exact .inl hi
        · exact .inr ⟨rfl, hi.1⟩
      · rw [upd_ne _ _ c] at hi; exact .inl hi
    rcases hm e he hi with h1 | ⟨h1, h2⟩ <;> rcases hm f hf hi2 with h3 | ⟨h3, h4⟩
    · exact h.ap e f i he hf h1 h3
    · have := h.ob e i he h1; omega
    · have := h.ob f i hf h3; omega
    · rw [h1, h3]
/-- How many ticks have gone is stored. -/
theorem DV.setN (h : DV w O q T N F x cap y cp j qs Os) (N' : Int) : ∃ W, w.setCell ⟨q, 1, none⟩ (.int .i64 N') = W ∧ DV W O q T N' F x cap y cp j qs Os ∧ w.grownBy W (some q) := by
  have G := gbSetCell w q 1 (.int .i64 N')
  have F1 : Fr (fun i => i = q) w (w.setCell ⟨q, 1, none⟩ (.int .i64 N')) := Fr.at G rfl
  have oth : ∀ i v, i ≠ 1 → w.cell? ⟨q, i, none⟩ = some v → (w.setCell ⟨q, 1, none⟩ (.int .i64 N')).cell? ⟨q, i, none⟩ = some v := fun i v hi hv => (World.cell?_setCell_other _ _ _ _ (by intro e; cases e; exact hi rfl)).trans hv
  exact ⟨_, rfl, ⟨oth 0 _ (by decide) h.c0, World.cell?_setCell_same _ _ _ h.c1, oth 2 _ (by decide) h.c2, h.tl.fr F1 (fun k hk => (h.tb k hk).2.1), h.tb, h.rl.fr F1 (fun k hk => (h.rb k hk).2.1), h.rb, fun d hd => (h.ra d hd).fr F1 (fun i hi => (h.os d i hd hi).2), h.os, fun d k hd hk => Nat.lt_of_lt_of_le (h.ob d k hd hk) F1.size, h.ap, fun i => by rw [World.frozen?_setCell]; exact h.fz i, Nat.lt_of_lt_of_le h.lt F1.size, h.op⟩, G⟩
/-- One more Ready, new: the list with it is stored. -/
theorem DV.more (h : DV w O q T N F x cap y cp j qs Os) {r : Nat} {P : Nat → Prop} {w6 : World} {y' : Option Addr} {cp' : Nat} (g : w.grownBy w' none) (Z : DA w' P r (F j)) (hP : ∀ i, P i → w.heap.size ≤ i ∧ i < w'.heap.size)
    (G6 : w'.grownBy w6 (Value.ownBlock (.slice y j cp))) (l6 : RL w6 0 (.slice y' (j + 1) cp') ((List.range (j + 1)).map (upd qs j r))) (hv : Value.ownBlock (.slice y' (j + 1) cp') = Value.ownBlock (.slice y j cp) ∨ Value.ownBlock (.slice y' (j + 1) cp') = some w'.heap.size) :
    DV (w6.setCell ⟨q, 2, none⟩ (.slice y' (j + 1) cp')) (wide O w w6) q T N F x cap y' cp' (j + 1) (upd qs j r) (upd Os j P) ∧ Fr O w (w6.setCell ⟨q, 2, none⟩ (.slice y' (j + 1) cp')) ∧ w6.cell? ⟨q, 2, none⟩ = some (.slice y j cp) ∧ w6.frozen? ⟨q, 2, none⟩ = false ∧ w.heap.size ≤ w6.heap.size := by
  have H := h.kept g
  have G := gbSetCell w6 q 2 (.slice y' (j + 1) cp')
  have hs := g.size
  have hs6 := G6.size
  have hlt := h.lt
  have Fa : Fr (fun i => Value.ownBlock (.slice y j cp) = some i) w' w6 := Fr.opt G6 (fun k hk => hk)
  have hq : ¬ Value.ownBlock (.slice y j cp) = some q := fun e => (h.rb q e).2.1 rfl
  have F1 : Fr (fun i => i = q) w6 (w6.setCell ⟨q, 2, none⟩ (.slice y' (j + 1) cp')) := Fr.at G rfl
  have oth : ∀ i v, i ≠ 2 → w6.cell? ⟨q, i, none⟩ = some v → (w6.setCell ⟨q, 2, none⟩ (.slice y' (j + 1) cp')).cell? ⟨q, i, none⟩ = some v := fun i v hi hv => (World.cell?_setCell_other _ _ _ _ (by intro e; cases e; exact hi rfl)).trans hv
  have c2 := Fa.cell H.c2 hq
  have f2 := (Fa.frozen H.lt hq (i := 2)).trans (H.fz 2)
  have hvb : ∀ k, Value.ownBlock (.slice y' (j + 1) cp') = some k → (wide O w w6 k ∧ k ≠ q ∧ (∀ d, d < j → ¬ Os d k) ∧ ¬ P k ∧ ∀ b, Value.ownBlock (.slice x T.length cap) = some b → b ≠ k) := fun k hk => by
    rcases hv with e | e
    · rw [e] at hk
      have h1 := h.rb k hk
      have h2 := (h.rl.lt k hk).2
      exact ⟨.inl h1.1, h1.2.1, h1.2.2, fun e2 => by have := hP k e2; omega, fun b hb e2 => by subst e2; exact (h.tb b hb).2.2.2 hk⟩
    · rw [e] at hk
      cases hk
      have h2 := (l6.lt _ e).2
      exact ⟨.inr ⟨hs, h2⟩, by omega, fun d hd e2 => by have := h.ob d _ hd e2; omega, fun e2 => by have := hP _ e2; omega, fun b hb e2 => by have := (h.tl.lt b hb).2; omega⟩
  refine ⟨⟨oth 0 _ (by decide) (Fa.cell H.c0 hq), oth 1 _ (by decide) (Fa.cell H.c1 hq), World.cell?_setCell_same _ _ _ c2, (H.tl.fr Fa (fun k hk => (h.tb k hk).2.2.2)).fr F1 (fun k hk => (h.tb k hk).2.1), fun k hk => ⟨.inl (h.tb k hk).1, (h.tb k hk).2.1, fun d hd e => ?_, fun e => (hvb k e).2.2.2.2 k hk rfl⟩, l6.fr F1 (fun k hk => (hvb k hk).2.1), fun k hk => ⟨(hvb k hk).1, (hvb k hk).2.1, fun d hd e => ?_⟩, fun d hd => ?_, fun d k hd hk => ?_, fun d k hd hk => ?_, fun d e k hd he h1 h2 => ?_, fun i => by rw [World.frozen?_setCell]; exact (Fa.frozen H.lt hq).trans (H.fz i), Nat.lt_of_lt_of_le (Nat.lt_of_lt_of_le H.lt hs6) F1.size, .inl h.op⟩, ((Fr.grown g).trans (Fa.mono fun i _ hi => (h.rb i hi).1)).trans (Fr.at G h.op), c2, f2, by omega⟩
  · by_cases c : d = j
    · subst c; rw [upd_at] at e; have := hP k e; have := (h.tl.lt k hk).2; omega
    · rw [upd_ne _ _ c] at e; exact (h.tb k hk).2.2.1 d (by omega) e
  · by_cases c : d = j
    · subst c; rw [upd_at] at e; exact (hvb k hk).2.2.2.1 e
    · rw [upd_ne _ _ c] at e; exact (hvb k hk).2.2.1 d (by omega) e
  · by_cases c : d = j
    · subst c; rw [upd_at, upd_at]
      exact (Z.fr Fa (fun i hi e => by have := hP i hi; have := (h.rl.lt i e).2; omega)).fr F1 (fun i hi e => by have := hP i hi; omega)
    · rw [upd_ne _ _ c, upd_ne _ _ c]
      exact ((H.ra d (by omega)).fr Fa (fun i hi e => (h.rb i e).2.2 d (by omega) hi)).fr F1 (fun i hi => (h.os d i (by omega) hi).2)
  · by_cases c : d = j
    · subst c; rw [upd_at] at hk; have := hP k hk; exact ⟨.inr ⟨by omega, by omega⟩, by omega⟩
    · rw [upd_ne _ _ c] at hk; exact ⟨.inl (h.os d k (by omega) hk).1, (h.os d k (by omega) hk).2⟩
  · have hz := F1.size
    by_cases c : d = j
    · subst c; rw [upd_at] at hk; have := hP k hk; omega
    · rw [upd_ne _ _ c] at hk; have := h.ob d k (by omega) hk; omega
  · by_cases q2 : d = j <;> by_cases q3 : e = j
    · rw [q2, q3]
    · subst q2; rw [upd_at] at h1; rw [upd_ne _ _ q3] at h2; have := hP k h1; have := h.ob e k (by omega) h2; omega
    · subst q3; rw [upd_at] at h2; rw [upd_ne _ _ q2] at h1; have := hP k h2; have := h.ob d k (by omega) h1; omega
    · rw [upd_ne _ _ q2] at h1; rw [upd_ne _ _ q3] at h2; exact h.ap d e k (by omega) (by omega) h1 h2
end
/-- The document's schedule at q: entry n runs, l of its ticks are left. -/
def TA (w : World) (O : Nat → Prop) (q : Nat) (T : List (Int × Int)) (n : Nat) (l : Int) (F : Nat → List (Int × Int)) : Prop := ∃ N x cap y cp qs Os, M.Ps T n l N ∧ DV w O q T N F x cap y cp 4 qs Os
section
variable {w w' : World} {O O' : Nat → Prop} {q : Nat} {T : List (Int × Int)} {n : Nat} {l : Int} {F G : Nat → List (Int × Int)}
theorem TA.fr (h : TA w O q T n l F) (k : Fr O' w w') (hd : ∀ i, O i → ¬ O' i) : TA w' O q T n l F := by
  obtain ⟨N, x, c, y, cp, qs, Os, ps, h⟩ := h; exact ⟨N, x, c, y, cp, qs, Os, ps, h.fr k hd⟩
theorem TA.kept (h : TA w O q T n l F) (g : w.grownBy w' none) : TA w' O q T n l F := h.fr (O' := fun _ => False) (Fr.grown g) (fun _ _ e => e)
theorem TA.wider (h : TA w O q T n l F) (w1 w2 : World) : TA w (wide O w1 w2) q T n l F := by
  obtain ⟨N, x, c, y, cp, qs, Os, ps, h⟩ := h; exact ⟨N, x, c, y, cp, qs, Os, ps, h.mono fun i hi => .inl hi⟩
end

/-! ### New -/
/-- The schedule's block as it is made, without its Readys. -/
theorem DV.made {w w1 : World} {x : Option Addr} {n c : Nat} {T : List (Int × Int)} (g : w.grownBy w1 none) (l : DL w1 w.heap.size (.slice x n c) T) (hn : T.length = n) (F : Nat → List (Int × Int)) :
    ∃ W, w1.alloc (.cells #[.slice x n c, .int .i64 0, .slice none 0 0] 62) = W ∧ DV W (fun i => w.heap.size ≤ i ∧ i < W.heap.size) w1.heap.size T 0 F x c none 0 0 (fun _ => 0) (fun _ _ => False) ∧ w.grownBy W none := by
  subst hn
  have G := gbAlloc w1 (.cells #[.slice x T.length c, .int .i64 0, .slice none 0 0] 62) none
  have hs := g.size
  refine ⟨_, rfl, ⟨by simp, by simp, by simp, (l.kept G).low, fun k hk => ?_, Ls.nil _ _ _ _ _, (fun k hk => by cases hk), fun d hd => absurd hd (by omega), fun d k hd => absurd hd (by omega), fun d k hd => absurd hd (by omega), fun d e k hd => absurd hd (by omega), fun i => by simp, by simp, ?_⟩, gbTrans g G⟩
  · have := l.lt k hk
    refine ⟨?_, by omega, fun d hd => absurd hd (by omega), by simp [Value.ownBlock]⟩
    simp; omega
  · simp; omega
end Go.Proofs.Ytpacgdplbddclaa
