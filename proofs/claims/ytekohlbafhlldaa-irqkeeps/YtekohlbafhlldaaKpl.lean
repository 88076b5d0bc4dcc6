/-
  PLAIN: what a law keeps beside the lines: raised, taken, owned, by whom; each is a function of the lines.
-/
import Derived.Test.YtekohlbafhlldaaOwd
namespace Go.Proofs.Ytekohlbafhlldaa
set_option maxRecDepth 10000
open Go.RowKit
set_option linter.unusedVariables false
namespace M
/-- Taken and not yet acked. -/
def tk (i : I) (k : Nat) : Bool := hs i k && i.m k
theorem kp_own {i : I} {n d : Int} (gd : Gd i) (h : oe i n d = 0) : isL n = true ∧ hs i n.toNat = false ∧ (os i n d).p = i.p ∧ tk (os i n d) = tk i ∧ hs (os i n d) = ub (hs i) n.toNat true ∧ ow (os i n d) = ui (ow i) n.toNat d := by
  unfold oe at h
  by_cases c : isL n = true ∧ isD d = true
  · rw [if_pos c] at h
    by_cases c2 : i.o n.toNat = -1
    · have d0 := (isD_iff.1 c.2).1
      have dn : (d != -1) = true := by simp; omega
      unfold os
      rw [if_pos ⟨c.1, c.2, c2⟩]
      refine ⟨c.1, by unfold hs; rw [c2]; rfl, rfl, ?_, ?_, ?_⟩
      · funext k
        unfold tk hs ub ui
        simp only []
        by_cases e : k = n.toNat
        · rw [if_pos e, if_pos e, e, c2]; simp
        · rw [if_neg e, if_neg e]
      · funext k
        unfold hs ub ui
        simp only []
        by_cases e : k = n.toNat
        · rw [if_pos e, if_pos e, dn]
        · rw [if_neg e, if_neg e]
      · funext k
        unfold ow ui
        simp only []
        by_cases e : k = n.toNat
        · rw [if_pos e, if_pos e, if_neg (by omega)]
        · rw [if_neg e, if_neg e]
    · rw [if_neg c2] at h; omega
  · rw [if_neg c] at h; omega
theorem kp_own_no {i : I} {n d : Int} (h : oe i n d ≠ 0) : os i n d = i := by
  unfold oe at h
  unfold os
  by_cases c : isL n = true ∧ isD d = true
  · rw [if_pos c] at h
    by_cases c2 : i.o n.toNat = -1
    · rw [if_pos c2] at h; exact (h rfl).elim
    · rw [if_neg (fun e => c2 e.2.2)]
  · rw [if_neg (fun e => c ⟨e.1, e.2.1⟩)]
theorem kp_raise {i : I} {n : Int} (h : isL n = true) : re n = 0 ∧ (rs i n).p = ub i.p n.toNat true ∧ tk (rs i n) = tk i ∧ hs (rs i n) = hs i ∧ ow (rs i n) = ow i := by
  unfold re rs
  rw [if_pos h, if_pos h]
  exact ⟨rfl, rfl, rfl, rfl, rfl⟩
theorem kp_raise_no {i : I} {n : Int} (h : isL n = false) : re n = 1 ∧ rs i n = i := by
  unfold re rs
  rw [h]
  exact ⟨rfl, rfl⟩
theorem kp_next {i : I} {d : Int} {k : Nat} (gd : Gd i) (h : Nx i d (some k)) : k < 8 ∧ i.p k = true ∧ tk i k = false ∧ hs i k = true ∧ ow i k = d ∧ (ns i (some k)).p = ub i.p k false ∧ tk (ns i (some k)) = ub (tk i) k true ∧ hs (ns i (some k)) = hs i ∧ ow (ns i (some k)) = ow i := by
  obtain ⟨hk, hh, _⟩ := h
  unfold hit at hh
  simp only [Bool.and_eq_true, beq_iff_eq, Bool.not_eq_true'] at hh
  obtain ⟨⟨h1, h2⟩, h3⟩ := hh
  have o : i.o k ≠ -1 := by
    rcases gd k hk with g | g
    · rw [g.2] at h2; cases h2
    · omega
  have hs1 : hs i k = true := by unfold hs; simpa using o
  refine ⟨hk, h3, by unfold tk; rw [h2]; simp, hs1, by unfold ow; rw [if_neg o]; exact h1, rfl, ?_, rfl, rfl⟩
  funext j
  unfold tk ns ub
  simp only []
  by_cases e : j = k
  · subst e
    rw [if_pos rfl, if_pos rfl]
    show (hs i j && true) = true
    rw [hs1]; rfl
  · rw [if_neg e, if_neg e]; rfl
theorem kp_next_no {i : I} {d : Int} (gd : Gd i) (h : Nx i d none) (k : Nat) (hk : k < 8) : (hs i k && (ow i k == d) && i.p k && !tk i k) = false := by
  have := h k hk
  unfold hit at this
  have g := gd k hk
  unfold tk hs ow
  by_cases c : i.o k = -1
  · rw [c]; simp
  · have o : (i.o k != -1) = true := by simpa using c
    rw [o, if_neg c]
    revert this
    cases i.o k == d <;> cases i.m k <;> cases i.p k <;> simp
theorem kp_ack {i : I} {n : Int} (h : ae i n = 0) : isL n = true ∧ tk i n.toNat = true ∧ (ak i n).p = i.p ∧ tk (ak i n) = ub (tk i) n.toNat false ∧ hs (ak i n) = hs i ∧ ow (ak i n) = ow i := by
  unfold ae at h
  by_cases c : isL n = true
  · rw [if_pos c] at h
    by_cases c2 : i.o n.toNat = -1 ∨ i.m n.toNat = false
    · rw [if_pos c2] at h; omega
    · have o : i.o n.toNat ≠ -1 := fun e => c2 (.inl e)
      have m : i.m n.toNat = true := by
        cases e : i.m n.toNat with
        | true => rfl
        | false => exact (c2 (.inr e)).elim
      unfold ak
      rw [if_pos ⟨c, o⟩]
      refine ⟨c, by unfold tk hs; rw [m]; simpa using o, rfl, ?_, rfl, rfl⟩
      funext k
      unfold tk ub
      simp only []
      by_cases e : k = n.toNat
      · rw [if_pos e, if_pos e]; simp
      · rw [if_neg e, if_neg e]; rfl
  · rw [if_neg c] at h; omega
theorem kp_ack_no {i : I} {n : Int} (h : ae i n ≠ 0) : ak i n = i := by
  unfold ae at h
  unfold ak
  by_cases c : isL n = true
  · rw [if_pos c] at h
    by_cases c2 : i.o n.toNat = -1
    · rw [if_neg (fun e => e.2 c2)]
    · by_cases c3 : i.m n.toNat = false
      · rw [if_pos ⟨c, c2⟩]
        have : ub i.m n.toNat false = i.m := by
          funext k
          unfold ub
          split
          · rename_i e; rw [e, c3]
          · rfl
        rw [this]
      · rw [if_neg (by rintro (e | e); exact c2 e; exact c3 e)] at h
        exact (h rfl).elim
  · rw [if_neg (fun e => c e.1)]
end M
/-- The program's lines and four arrays behind one another, all new. -/
structure Kp (w0 w : World) (P : Nat → Prop) (x b : Nat) (i : I) (f g h : Nat → Bool) (o : Nat → Int) : Prop where
  on : On w0 w P x i
  af : BA w b f
  ag : BA w (b + 1) g
  ah : BA w (b + 2) h
  ao : CA w (b + 3) o
  lo : w0.heap.size ≤ b
  np : ∀ k, b ≤ k → k < b + 4 → ¬ P k
/-- As the lines say. -/
abbrev Ks (w0 w : World) (P : Nat → Prop) (x b : Nat) (i : I) : Prop := Kp w0 w P x b i i.p (M.tk i) (M.hs i) (M.ow i)
section
variable {w0 w w' : World} {P : Nat → Prop} {x b : Nat} {i i' : I} {f g h : Nat → Bool} {o : Nat → Int}
theorem Kp.kept (k : Kp w0 w P x b i f g h o) (e : w.grownBy w' none) : Kp w0 w' P x b i f g h o := ⟨k.on.kept e, k.af.kept e, k.ag.kept e, k.ah.kept e, k.ao.kept e, k.lo, k.np⟩
theorem Kp.turn (k : Kp w0 w P x b i f g h o) (T : IA w' P x i') (F : Fr P w w') : Kp w0 w' P x b i' f g h o :=
  ⟨k.on.turn T F, k.af.fr F (k.np _ (by omega) (by omega)), k.ag.fr F (k.np _ (by omega) (by omega)), k.ah.fr F (k.np _ (by omega) (by omega)), k.ao.fr F (k.np _ (by omega) (by omega)), k.lo, k.np⟩
theorem Kp.beside (k : Kp w0 w P x b i f g h o) {y : Nat} (e : w.grownBy w' (some y)) (h1 : b ≤ y) (h2 : y < b + 4) : On w0 w' P x i :=
  k.on.beside (O := fun j => j = y) (Fr.at e rfl) (fun j hj => by subst hj; exact ⟨Nat.le_trans k.lo h1, k.np _ h1 h2⟩)
theorem Kp.setF (k : Kp w0 w P x b i f g h o) (n : Nat) (v : Bool) : ∃ W, w.setCell ⟨b, n, none⟩ (.bool v) = W ∧ Kp w0 W P x b i (ub f n v) g h o ∧ w.grownBy W (some b) := by
  obtain ⟨W, e, B, G⟩ := k.af.set n v
  exact ⟨W, e, ⟨k.beside G (by omega) (by omega), B, k.ag.aside G (by omega), k.ah.aside G (by omega), k.ao.aside G (by omega), k.lo, k.np⟩, G⟩
theorem Kp.setG (k : Kp w0 w P x b i f g h o) (n : Nat) (v : Bool) : ∃ W, w.setCell ⟨b + 1, n, none⟩ (.bool v) = W ∧ Kp w0 W P x b i f (ub g n v) h o ∧ w.grownBy W (some (b + 1)) := by
  obtain ⟨W, e, B, G⟩ := k.ag.set n v
  exact ⟨W, e, ⟨k.beside G (by omega) (by omega), k.af.aside G (by omega), B, k.ah.aside G (by omega), k.ao.aside G (by omega), k.lo, k.np⟩, G⟩
theorem Kp.setH (k : Kp w0 w P x b i f g h o) (n : Nat) (v : Bool) : ∃ W, w.setCell ⟨b + 2, n, none⟩ (.bool v) = W ∧ Kp w0 W P x b i f g (ub h n v) o ∧ w.grownBy W (some (b + 2)) := by
  obtain ⟨W, e, B, G⟩ := k.ah.set n v
  exact ⟨W, e, ⟨k.beside G (by omega) (by omega), k.af.aside G (by omega), k.ag.aside G (by omega), B, k.ao.aside G (by omega), k.lo, k.np⟩, G⟩
theorem Kp.setO (k : Kp w0 w P x b i f g h o) (n : Nat) (v : Int) : ∃ W, w.setCell ⟨b + 3, n, none⟩ (.int .i64 v) = W ∧ Kp w0 W P x b i f g h (ui o n v) ∧ w.grownBy W (some (b + 3)) := by
  obtain ⟨W, e, B, G⟩ := k.ao.set n v
  exact ⟨W, e, ⟨k.beside G (by omega) (by omega), k.af.aside G (by omega), k.ag.aside G (by omega), k.ah.aside G (by omega), B, k.lo, k.np⟩, G⟩
end
/-- The four arrays are made. -/
theorem Ks.made {w0 w : World} {P : Nat → Prop} {x : Nat} (h : On w0 w P x M.i0) :
    ∃ W, (((w.alloc (.cells #[.bool false, .bool false, .bool false, .bool false, .bool false, .bool false, .bool false, .bool false] 38)).alloc (.cells #[.bool false, .bool false, .bool false, .bool false, .bool false, .bool false, .bool false, .bool false] 38)).alloc (.cells #[.bool false, .bool false, .bool false, .bool false, .bool false, .bool false, .bool false, .bool false] 38)).alloc (.cells #[.int .i64 0, .int .i64 0, .int .i64 0, .int .i64 0, .int .i64 0, .int .i64 0, .int .i64 0, .int .i64 0] 39) = W ∧ Ks w0 W P x w.heap.size M.i0 := by
  have B1 := ba0 w
  have G1 := gbAlloc w (.cells #[.bool false, .bool false, .bool false, .bool false, .bool false, .bool false, .bool false, .bool false] 38) none
  have z1 : (w.alloc (.cells #[.bool false, .bool false, .bool false, .bool false, .bool false, .bool false, .bool false, .bool false] 38)).heap.size = w.heap.size + 1 := by simp
  obtain ⟨w1, e1⟩ : ∃ w1, w.alloc (.cells #[.bool false, .bool false, .bool false, .bool false, .bool false, .bool false, .bool false, .bool false] 38) = w1 := ⟨_, rfl⟩
  rw [e1] at B1 G1 z1 ⊢
  have B2 := ba0 w1
  have G2 := gbAlloc w1 (.cells #[.bool false, .bool false, .bool false, .bool false, .bool false, .bool false, .bool false, .bool false] 38) none
  have z2 : (w1.alloc (.cells #[.bool false, .bool false, .bool false, .bool false, .bool false, .bool false, .bool false, .bool false] 38)).heap.size = w.heap.size + 2 := by simp [z1]
  obtain ⟨w2, e2⟩ : ∃ w2, w1.alloc (.cells #[.bool false, .bool false, .bool false, .bool false, .bool false, .bool false, .bool false, .bool false] 38) = w2 := ⟨_, rfl⟩
  rw [e2] at B2 G2 z2 ⊢
  have B3 := ba0 w2
  have G3 := gbAlloc w2 (.cells #[.bool false, .bool false, .bool false, .bool false, .bool false, .bool false, .bool false, .bool false] 38) none
  have z3 : (w2.alloc (.cells #[.bool false, .bool false, .bool false, .bool false, .bool false, .bool false, .bool false, .bool false] 38)).heap.size = w.heap.size + 3 := by simp [z2]
  obtain ⟨w3, e3⟩ : ∃ w3, w2.alloc (.cells #[.bool false, .bool false, .bool false, .bool false, .bool false, .bool false, .bool false, .bool false] 38) = w3 := ⟨_, rfl⟩
  rw [e3] at B3 G3 z3 ⊢
  have B4 := ca0 w3
  have G4 := gbAlloc w3 (.cells #[.int .i64 0, .int .i64 0, .int .i64 0, .int .i64 0, .int .i64 0, .int .i64 0, .int .i64 0, .int .i64 0] 39) none
  rw [z1] at B2
  rw [z2] at B3
  rw [z3] at B4
  have G34 := gbTrans G3 G4
  have G24 := gbTrans G2 G34
  exact ⟨_, rfl, h.kept (gbTrans G1 G24), B1.kept G24, B2.kept G34, B3.kept G4, B4, h.gr.size, fun k hk _ hP => by have := (h.lo k hP).2; omega⟩
end Go.Proofs.Ytekohlbafhlldaa
