/-
  THE PROGRAM'S LINES IN MEMORY: a block of 24 cells (each line: its channel, its owner, is it masked) and eight channels; its calls.
-/
import Derived.Test.YtekohlbafhlldaaPla
import Derived.Test.YtekohlbafhlldaaTok
import Derived.Deep.RegionHeld3
import Derived.Deep.CutRange
import Derived.Deep.DeepCutAuto
import Derived.Deep.LoopGhost
namespace Go.Proofs.Ytekohlbafhlldaa
set_option maxRecDepth 10000
open Go.RowKit Go.Conc
set_option linter.unusedVariables false

/-- Cell a of the 24. -/
def pg (ch : Nat → Nat) (i : I) (a : Nat) : Value :=
  if a % 3 = 0 then .chan (some (ch (a / 3))) else if a % 3 = 1 then .int .i64 (i.o (a / 3)) else .bool (i.m (a / 3))
/-- The lines, their channels known. -/
structure Ia (w : World) (O : Nat → Prop) (x : Nat) (ch : Nat → Nat) (i : I) : Prop where
  row : w.rowIs x 48 24 (pg ch i)
  tk : ∀ k, k < 8 → Tk w (ch k) (i.p k)
  oc : ∀ k, k < 8 → O (ch k)
  ne : ∀ j k, j < 8 → k < 8 → ch j = ch k → j = k
  ox : O x
/-- The lines. -/
def IA (w : World) (O : Nat → Prop) (x : Nat) (i : I) : Prop := ∃ ch, Ia w O x ch i
section
variable {w w' : World} {O O' : Nat → Prop} {x : Nat} {ch : Nat → Nat} {i : I}
theorem Ia.lt (h : Ia w O x ch i) : x < w.heap.size := World.rowIs.lt h.row
theorem Ia.chan (h : Ia w O x ch i) {k : Nat} (hk : k < 8) : w.cell? ⟨x, k * 3, none⟩ = some (.chan (some (ch k))) := by
  rw [World.rowIs.cell h.row (i := k * 3) (by omega)]
  unfold pg
  rw [if_pos (by omega), show k * 3 / 3 = k by omega]
theorem Ia.owner (h : Ia w O x ch i) {k : Nat} (hk : k < 8) : w.cell? ⟨x, k * 3 + 1, none⟩ = some (.int .i64 (i.o k)) := by
  rw [World.rowIs.cell h.row (i := k * 3 + 1) (by omega)]
  unfold pg
  rw [if_neg (by omega), if_pos (by omega), show (k * 3 + 1) / 3 = k by omega]
theorem Ia.mask (h : Ia w O x ch i) {k : Nat} (hk : k < 8) : w.cell? ⟨x, k * 3 + 2, none⟩ = some (.bool (i.m k)) := by
  rw [World.rowIs.cell h.row (i := k * 3 + 2) (by omega)]
  unfold pg
  rw [if_neg (by omega), if_neg (by omega), show (k * 3 + 2) / 3 = k by omega]
theorem Ia.fz (h : Ia w O x ch i) (a : Nat) : w.frozen? ⟨x, a, none⟩ = false := World.rowIs.frozen h.row a
theorem Ia.apart (h : Ia w O x ch i) {k : Nat} (hk : k < 8) : ch k ≠ x := by
  intro e
  obtain ⟨s, r, ht⟩ := h.tk k hk
  obtain ⟨c, hc, _⟩ := h.row
  rw [e, hc] at ht
  cases ht
/-- Nothing of its blocks turned. -/
theorem Ia.block (h : Ia w O x ch i) (e : ∀ k, k = x ∨ (∃ j, j < 8 ∧ k = ch j) → w'.heap[k]? = w.heap[k]?) : Ia w' O x ch i :=
  ⟨World.rowIs.of_block h.row (e x (.inl rfl)), fun k hk => (h.tk k hk).block (e _ (.inr ⟨k, hk, rfl⟩)), h.oc, h.ne, h.ox⟩
theorem Ia.fr (h : Ia w O x ch i) (F : Fr O' w w') (d : ∀ k, O k → ¬ O' k) : Ia w' O x ch i :=
  h.block (fun k hk => by
    rcases hk with rfl | ⟨j, hj, rfl⟩
    · exact F.block _ h.lt (d _ h.ox)
    · exact F.block _ (h.tk j hj).lt (d _ (h.oc j hj)))
theorem Ia.kept (h : Ia w O x ch i) (g : w.grownBy w' none) : Ia w' O x ch i :=
  h.fr (O' := fun _ => False) (Fr.grown g) (fun _ _ e => e)
theorem IA.fr (h : IA w O x i) (F : Fr O' w w') (d : ∀ k, O k → ¬ O' k) : IA w' O x i := by
  obtain ⟨ch, h⟩ := h
  exact ⟨ch, h.fr F d⟩
theorem IA.kept (h : IA w O x i) (g : w.grownBy w' none) : IA w' O x i := by
  obtain ⟨ch, h⟩ := h
  exact ⟨ch, h.kept g⟩
theorem IA.own (h : IA w O x i) : O x := by
  obtain ⟨ch, h⟩ := h
  exact h.ox
/-- One line's token turns. -/
theorem Ia.token (h : Ia w O x ch i) {k : Nat} (hk : k < 8) {b : Bool} (t : Tk w' (ch k) b) (g : w.grownBy w' (some (ch k))) : Ia w' O x ch ⟨ub i.p k b, i.m, i.o⟩ := by
  refine ⟨World.rowIs.of_block h.row (g.block x h.lt (by simp; exact fun e => h.apart hk e.symm)), fun j hj => ?_, h.oc, h.ne, h.ox⟩
  by_cases e : j = k
  · subst e; simpa [ub] using t
  · have : ch k ≠ ch j := fun e2 => e (h.ne k j hk hj e2).symm
    simp only [ub, if_neg e]
    exact (h.tk j hj).block (g.block _ (h.tk j hj).lt (by simp; exact fun e2 => this e2.symm))
/-- One line's owner is written. -/
theorem Ia.setO (h : Ia w O x ch i) {k : Nat} (hk : k < 8) (d : Int) : ∃ W, w.setCell ⟨x, k * 3 + 1, none⟩ (.int .i64 d) = W ∧ Ia W O x ch ⟨i.p, i.m, ui i.o k d⟩ ∧ w.grownBy W (some x) := by
  refine ⟨_, rfl, ⟨World.rowIs.congr (World.rowIs.set h.row (k * 3 + 1) _) (fun a ha => ?_), fun j hj => ?_, h.oc, h.ne, h.ox⟩, gbSetCell _ _ _ _⟩
  · unfold pg ui
    by_cases e : a = k * 3 + 1
    · rw [if_pos e, if_neg (by omega), if_pos (by omega)]; simp only []; rw [if_pos (by omega)]
    · rw [if_neg e]
      by_cases e1 : a % 3 = 0
      · rw [if_pos e1, if_pos e1]
      · rw [if_neg e1, if_neg e1]
        by_cases e2 : a % 3 = 1
        · rw [if_pos e2, if_pos e2]; simp only []; rw [if_neg (by omega)]
        · rw [if_neg e2, if_neg e2]
  · exact (h.tk j hj).block (Below.heap_setCell _ _ _ _ (fun e => h.apart hj e))
/-- One line's mask is written. -/
theorem Ia.setM (h : Ia w O x ch i) {k : Nat} (hk : k < 8) (b : Bool) : ∃ W, w.setCell ⟨x, k * 3 + 2, none⟩ (.bool b) = W ∧ Ia W O x ch ⟨i.p, ub i.m k b, i.o⟩ ∧ w.grownBy W (some x) := by
  refine ⟨_, rfl, ⟨World.rowIs.congr (World.rowIs.set h.row (k * 3 + 2) _) (fun a ha => ?_), fun j hj => ?_, h.oc, h.ne, h.ox⟩, gbSetCell _ _ _ _⟩
  · unfold pg ub
    by_cases e : a = k * 3 + 2
    · rw [if_pos e, if_neg (by omega), if_neg (by omega)]; simp only []; rw [if_pos (by omega)]
    · rw [if_neg e]
      by_cases e1 : a % 3 = 0
      · rw [if_pos e1, if_pos e1]
      · rw [if_neg e1, if_neg e1]
        by_cases e2 : a % 3 = 1
        · rw [if_pos e2, if_pos e2]
        · rw [if_neg e2, if_neg e2]; simp only []; rw [if_neg (by omega)]
  · exact (h.tk j hj).block (Below.heap_setCell _ _ _ _ (fun e => h.apart hj e))
end

set_option maxHeartbeats 400000 in
theorem isLine_is (w : World) (n : Int) (b : Bool) (hb : M.isL n = b) :
    Calls Try.prog 24 #[.int .i64 n] w fun e w' => e = .returned (.bool b) ∧ w' = w := by
  subst hb
  unfold M.isL
  by_cases c0 : 0 ≤ n
  · by_cases c1 : n < 8
    · go_enter Try.func24, Try.ntmps24
      go_wp2
      go_ret
      exact ⟨ret_bool (by simp; omega), rfl⟩
    · go_enter Try.func24, Try.ntmps24
      go_wp2
      go_ret
      exact ⟨ret_bool (by simp; omega), rfl⟩
  · go_enter Try.func24, Try.ntmps24
    go_wp2
    go_ret
    exact ⟨ret_bool (by simp; omega), rfl⟩
set_option maxHeartbeats 400000 in
theorem isDomain_is (w : World) (n : Int) (b : Bool) (hb : M.isD n = b) :
    Calls Try.prog 25 #[.int .i64 n] w fun e w' => e = .returned (.bool b) ∧ w' = w := by
  subst hb
  unfold M.isD
  by_cases c0 : 0 ≤ n
  · by_cases c1 : n < 4
    · go_enter Try.func25, Try.ntmps25
      go_wp2
      go_ret
      exact ⟨ret_bool (by simp; omega), rfl⟩
    · go_enter Try.func25, Try.ntmps25
      go_wp2
      go_ret
      exact ⟨ret_bool (by simp; omega), rfl⟩
  · go_enter Try.func25, Try.ntmps25
    go_wp2
    go_ret
    exact ⟨ret_bool (by simp; omega), rfl⟩

section
variable {w : World} {O : Nat → Prop} {x : Nat} {i : I}
set_option maxHeartbeats 800000 in
theorem own_is (h : IA w O x i) (n d : Int) (f : Int) (hf : M.oe i n d = f) :
    Calls Try.prog 9 #[.pointer (some ⟨x, 0, none⟩), .int .i64 n, .int .i64 d] w fun e w' => e = .returned (.int .i64 f) ∧ IA w' O x (M.os i n d) ∧ Fr O w w' := by
  subst hf
  obtain ⟨ch, h⟩ := h
  have H := hideIt h
  have hox := hideIt h.ox
  clear h
  unfold M.oe M.os
  by_cases c1 : M.isL n = true
  · by_cases c2 : M.isD d = true
    · obtain ⟨k, rfl, hk, hkn⟩ := M.isL_nat c1
      rw [hkn]
      have o1 := H.out.owner hk
      by_cases c3 : i.o k = -1
      · rw [if_pos ⟨c1, c2⟩, if_pos c3, if_pos ⟨c1, c2, c3⟩]
        rw [c3] at o1
        obtain ⟨V, eV, HV, gV⟩ := H.out.setO hk d
        obtain ⟨W, eW, HW, gW⟩ := HV.setM hk false
        have f1 := H.out.fz (k * 3 + 1)
        have f2 := HV.fz (k * 3 + 2)
        have m1 := HV.mask hk
        replace HW := hideIt HW
        clear HV
        go_enter Try.func9, Try.ntmps9
        go_wp2_with fail
        refine (isLine_is _ _ true c1).mono ?_
        rintro e w1 ⟨rfl, rfl⟩
        go_wp2_with fail
        refine (isDomain_is _ _ true c2).mono ?_
        rintro e w1 ⟨rfl, rfl⟩
        go_wp2
        go_ret
        exact ⟨rfl, ⟨ch, HW.out⟩, (Fr.at gV hox.out).trans (Fr.at gW hox.out)⟩
      · rw [if_pos ⟨c1, c2⟩, if_neg c3, if_neg (fun e => c3 e.2.2)]
        go_enter Try.func9, Try.ntmps9
        go_wp2_with fail
        refine (isLine_is _ _ true c1).mono ?_
        rintro e w1 ⟨rfl, rfl⟩
        go_wp2_with fail
        refine (isDomain_is _ _ true c2).mono ?_
        rintro e w1 ⟨rfl, rfl⟩
        go_wp2
        go_ret
        exact ⟨rfl, ⟨ch, H.out⟩, Fr.refl _ _⟩
    · rw [if_neg (fun e => c2 e.2), if_neg (fun e => c2 e.2.1)]
      have c2' : M.isD d = false := by simpa using c2
      go_enter Try.func9, Try.ntmps9
      go_wp2_with fail
      refine (isLine_is _ _ true c1).mono ?_
      rintro e w1 ⟨rfl, rfl⟩
      go_wp2_with fail
      refine (isDomain_is _ _ false c2').mono ?_
      rintro e w1 ⟨rfl, rfl⟩
      go_wp2
      go_ret
      exact ⟨rfl, ⟨ch, H.out⟩, Fr.refl _ _⟩
  · rw [if_neg (fun e => c1 e.1), if_neg (fun e => c1 e.1)]
    have c1' : M.isL n = false := by simpa using c1
    go_enter Try.func9, Try.ntmps9
    go_wp2_with fail
    refine (isLine_is _ _ false c1').mono ?_
    rintro e w1 ⟨rfl, rfl⟩
    go_wp2
    go_ret
    exact ⟨rfl, ⟨ch, H.out⟩, Fr.refl _ _⟩

set_option maxHeartbeats 800000 in
theorem rraise_is (h : IA w O x i) (n : Int) (f : Int) (hf : M.re n = f) :
    Calls Try.prog 11 #[.pointer (some ⟨x, 0, none⟩), .int .i64 n] w fun e w' => e = .returned (.int .i64 f) ∧ IA w' O x (M.rs i n) ∧ Fr O w w' := by
  subst hf
  obtain ⟨ch, h⟩ := h
  have H := hideIt h
  clear h
  unfold M.re M.rs
  by_cases c1 : M.isL n = true
  · obtain ⟨k, rfl, hk, hkn⟩ := M.isL_nat c1
    rw [hkn, if_pos c1, if_pos c1]
    go_enter Try.func11, Try.ntmps11
    go_wp2_with fail
    refine (isLine_is _ _ true c1).mono ?_
    rintro e w1 ⟨rfl, rfl⟩
    go_wp2_with fail
    refine (raise_is w1 x (k * 3) (ch k) (i.p k) (H.out.chan hk) (H.out.tk k hk)).mono ?_
    rintro e w2 ⟨rfl, t, g⟩
    have F : Hid (Fr O w1 w2) := hideIt (Fr.at g (H.out.oc k hk))
    replace H := hideIt (H.out.token hk t g)
    clear t g
    go_wp2
    go_ret
    exact ⟨rfl, ⟨ch, H.out⟩, F.out⟩
  · rw [if_neg c1, if_neg c1]
    have c1' : M.isL n = false := by simpa using c1
    go_enter Try.func11, Try.ntmps11
    go_wp2_with fail
    refine (isLine_is _ _ false c1').mono ?_
    rintro e w1 ⟨rfl, rfl⟩
    go_wp2
    go_ret
    exact ⟨rfl, ⟨ch, H.out⟩, Fr.refl _ _⟩

set_option maxHeartbeats 800000 in
theorem ack_is (h : IA w O x i) (n : Int) (f : Int) (hf : M.ae i n = f) :
    Calls Try.prog 15 #[.pointer (some ⟨x, 0, none⟩), .int .i64 n] w fun e w' => e = .returned (.int .i64 f) ∧ IA w' O x (M.ak i n) ∧ Fr O w w' := by
  subst hf
  obtain ⟨ch, h⟩ := h
  have H := hideIt h
  have hox := hideIt h.ox
  clear h
  unfold M.ae M.ak
  by_cases c1 : M.isL n = true
  · obtain ⟨k, rfl, hk, hkn⟩ := M.isL_nat c1
    rw [hkn, if_pos c1]
    have o1 := H.out.owner hk
    have m1 := H.out.mask hk
    by_cases c2 : i.o k = -1
    · rw [if_pos (.inl c2), if_neg (fun e => e.2 c2)]
      rw [c2] at o1
      go_enter Try.func15, Try.ntmps15
      go_wp2_with fail
      refine (isLine_is _ _ true c1).mono ?_
      rintro e w1 ⟨rfl, rfl⟩
      go_wp2
      go_ret
      exact ⟨rfl, ⟨ch, H.out⟩, Fr.refl _ _⟩
    · have c2' : (i.o k == -1) = false := by simpa using c2
      cases hm : i.m k with
      | false =>
        rw [if_pos (.inr rfl), if_pos ⟨c1, c2⟩]
        rw [hm] at m1
        have e0 : ub i.m k false = i.m := by
          funext j
          unfold ub
          split
          · rename_i e; rw [e, hm]
          · rfl
        rw [e0]
        clear e0
        go_enter Try.func15, Try.ntmps15
        go_wp2_with fail
        refine (isLine_is _ _ true c1).mono ?_
        rintro e w1 ⟨rfl, rfl⟩
        go_wp2
        go_ret
        exact ⟨rfl, ⟨ch, H.out⟩, Fr.refl _ _⟩
      | true =>
        rw [if_neg (by rintro (e | e); exact c2 e; cases e), if_pos ⟨c1, c2⟩]
        rw [hm] at m1
        obtain ⟨V, eV, HV, gV⟩ := H.out.setM hk false
        have f1 := H.out.fz (k * 3 + 2)
        replace HV := hideIt HV
        go_enter Try.func15, Try.ntmps15
        go_wp2_with fail
        refine (isLine_is _ _ true c1).mono ?_
        rintro e w1 ⟨rfl, rfl⟩
        go_wp2
        go_ret
        exact ⟨rfl, ⟨ch, HV.out⟩, Fr.at gV hox.out⟩
  · rw [if_neg c1, if_neg (fun e => c1 e.1)]
    have c1' : M.isL n = false := by simpa using c1
    go_enter Try.func15, Try.ntmps15
    go_wp2_with fail
    refine (isLine_is _ _ false c1').mono ?_
    rintro e w1 ⟨rfl, rfl⟩
    go_wp2
    go_ret
    exact ⟨rfl, ⟨ch, H.out⟩, Fr.refl _ _⟩

set_option maxHeartbeats 800000 in
theorem owner_is (h : IA w O x i) (n : Int) (f : Int) (b : Bool) (hf : M.on i n = f) (hb : M.ob i n = b) :
    Calls Try.prog 17 #[.pointer (some ⟨x, 0, none⟩), .int .i64 n] w fun e w' => e = .returned (.tuple #[.int .i64 f, .bool b]) ∧ w.grownBy w' none := by
  subst hf
  subst hb
  obtain ⟨ch, h⟩ := h
  have H := hideIt h
  clear h
  unfold M.on M.ob
  by_cases c1 : M.isL n = true
  · obtain ⟨k, rfl, hk, hkn⟩ := M.isL_nat c1
    rw [hkn]
    have o1 := H.out.owner hk
    by_cases c2 : i.o k = -1
    · rw [if_neg (fun e => e.2 c2), c2, c1]
      rw [c2] at o1
      go_enter Try.func17, Try.ntmps17
      go_wp2_with fail
      refine (isLine_is _ _ true c1).mono ?_
      rintro e w1 ⟨rfl, rfl⟩
      go_wp2
      go_ret2
      exact ⟨rfl, gbRefl _ _⟩
    · rw [if_pos ⟨c1, c2⟩, c1]
      have c2' : (i.o k == -1) = false := by simpa using c2
      have c3 : (i.o k != -1) = true := by simpa using c2
      rw [c3]
      go_enter Try.func17, Try.ntmps17
      go_wp2_with fail
      refine (isLine_is _ _ true c1).mono ?_
      rintro e w1 ⟨rfl, rfl⟩
      go_wp2
      go_ret2
      exact ⟨rfl, gbRefl _ _⟩
  · have c1' : M.isL n = false := by simpa using c1
    rw [if_neg (fun e => c1 e.1), c1']
    go_enter Try.func17, Try.ntmps17
    go_wp2_with fail
    refine (isLine_is _ _ false c1').mono ?_
    rintro e w1 ⟨rfl, rfl⟩
    go_wp2
    go_ret2
    exact ⟨rfl, gbRefl _ _⟩
end
end Go.Proofs.Ytekohlbafhlldaa
