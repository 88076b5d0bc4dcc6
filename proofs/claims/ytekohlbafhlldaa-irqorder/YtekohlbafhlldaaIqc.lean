/-
  THE PROGRAM'S WORDS of what is pending and masked; New.
-/
import Derived.Test.YtekohlbafhlldaaIqb
namespace Go.Proofs.Ytekohlbafhlldaa
set_option maxRecDepth 10000
open Go.RowKit Go.Conc
set_option linter.unusedVariables false

section
variable {w : World} {O : Nat → Prop} {x : Nat} {i : I}
set_option maxHeartbeats 2000000 in
theorem wordPending_is (h : IA w O x i) :
    Calls Try.prog 29 #[.pointer (some ⟨x, 0, none⟩), .func (.func 30) #[] #[]] w fun e w' => e = .returned (.int .u64 (M.wd i.p : Int)) ∧ w.grownBy w' none := by
  have H := hideIt h
  clear h
  go_enter Try.func29, Try.ntmps29
  go_wp2_with fail
  go_loopg [5, 7] 8 (fun gk c s wr => ∃ j : Nat, j + gk = 8 ∧ s = .int .i64 j ∧ c = .int .u64 (M.wn i.p j : Int) ∧ Hid (w.grownBy wr none))
  case atStart => exact ⟨0, rfl, rfl, rfl, hideIt (gbRefl _ _)⟩
  case round =>
    obtain ⟨j, hj, rfl, rfl, G⟩ := hrel
    by_cases hlt : j < 8
    · have Hj := hideIt (H.out.kept G.out)
      go_wp2_with fail
      refine (isPend_is Hj.out j hlt (i.p j) rfl).mono ?_
      rintro e w1 ⟨rfl, rfl⟩
      cases hp : i.p j with
      | true =>
        have e1 := hideIt (M.wn_put i.p j hlt hp)
        have l1 := hideIt (Nat.lt_of_lt_of_le (M.wn_lt i.p j) (Nat.le_trans (Nat.pow_le_pow_right (by decide) (Nat.le_of_lt hlt)) (by decide : 2 ^ 8 ≤ 18446744073709551616)))
        have l2 : j + 1 ≤ 64 := by omega
        clear hp
        go_wp2_with fail
        refine (put_yes (M.wn i.p j) j 1 1 _ l1.out (by decide) l2 (by decide)).mono ?_
        rintro e w2 ⟨rfl, q, rfl⟩
        rw [e1.out]
        replace G := hideIt (gbTrans G.out (gbDrewN _ q none))
        go_wp2
        go_roundg (gk - 1)
        case rel => exact ⟨j + 1, by omega, by go_num, rfl, G⟩
        case measure => omega
      | false =>
        have e1 := hideIt (M.wn_skip i.p j hp)
        clear hp
        go_wp2
        go_roundg (gk - 1)
        case rel => exact ⟨j + 1, by omega, by go_num, by rw [← e1.out], G⟩
        case measure => omega
    · obtain rfl : j = 8 := by omega
      go_wp2
      go_ret
      exact ⟨rfl, G.out⟩
set_option maxHeartbeats 800000 in
theorem pending_is (h : IA w O x i) (W : Nat) (hW : M.wd i.p = W) :
    Calls Try.prog 19 #[.pointer (some ⟨x, 0, none⟩)] w fun e w' => e = .returned (.int .u64 (W : Int)) ∧ w.grownBy w' none := by
  subst hW
  have H := hideIt h
  clear h
  go_enter Try.func19, Try.ntmps19
  go_wp2_with fail
  refine (wordPending_is H.out).mono ?_
  rintro e w1 ⟨rfl, g⟩
  replace g := hideIt g
  go_wp2
  go_ret
  exact ⟨rfl, g.out⟩
set_option maxHeartbeats 2000000 in
theorem wordMasked_is (h : IA w O x i) :
    Calls Try.prog 29 #[.pointer (some ⟨x, 0, none⟩), .func (.func 32) #[] #[]] w fun e w' => e = .returned (.int .u64 (M.wd i.m : Int)) ∧ w.grownBy w' none := by
  have H := hideIt h
  clear h
  go_enter Try.func29, Try.ntmps29
  go_wp2_with fail
  go_loopg [5, 7] 8 (fun gk c s wr => ∃ j : Nat, j + gk = 8 ∧ s = .int .i64 j ∧ c = .int .u64 (M.wn i.m j : Int) ∧ Hid (w.grownBy wr none))
  case atStart => exact ⟨0, rfl, rfl, rfl, hideIt (gbRefl _ _)⟩
  case round =>
    obtain ⟨j, hj, rfl, rfl, G⟩ := hrel
    by_cases hlt : j < 8
    · have Hj := hideIt (H.out.kept G.out)
      go_wp2_with fail
      refine (isMask_is Hj.out j hlt (i.m j) rfl).mono ?_
      rintro e w1 ⟨rfl, rfl⟩
      cases hp : i.m j with
      | true =>
        have e1 := hideIt (M.wn_put i.m j hlt hp)
        have l1 := hideIt (Nat.lt_of_lt_of_le (M.wn_lt i.m j) (Nat.le_trans (Nat.pow_le_pow_right (by decide) (Nat.le_of_lt hlt)) (by decide : 2 ^ 8 ≤ 18446744073709551616)))
        have l2 : j + 1 ≤ 64 := by omega
        clear hp
        go_wp2_with fail
        refine (put_yes (M.wn i.m j) j 1 1 _ l1.out (by decide) l2 (by decide)).mono ?_
        rintro e w2 ⟨rfl, q, rfl⟩
        rw [e1.out]
        replace G := hideIt (gbTrans G.out (gbDrewN _ q none))
        go_wp2
        go_roundg (gk - 1)
        case rel => exact ⟨j + 1, by omega, by go_num, rfl, G⟩
        case measure => omega
      | false =>
        have e1 := hideIt (M.wn_skip i.m j hp)
        clear hp
        go_wp2
        go_roundg (gk - 1)
        case rel => exact ⟨j + 1, by omega, by go_num, by rw [← e1.out], G⟩
        case measure => omega
    · obtain rfl : j = 8 := by omega
      go_wp2
      go_ret
      exact ⟨rfl, G.out⟩
set_option maxHeartbeats 800000 in
theorem masked_is (h : IA w O x i) (W : Nat) (hW : M.wd i.m = W) :
    Calls Try.prog 21 #[.pointer (some ⟨x, 0, none⟩)] w fun e w' => e = .returned (.int .u64 (W : Int)) ∧ w.grownBy w' none := by
  subst hW
  have H := hideIt h
  clear h
  go_enter Try.func21, Try.ntmps21
  go_wp2_with fail
  refine (wordMasked_is H.out).mono ?_
  rintro e w1 ⟨rfl, g⟩
  replace g := hideIt g
  go_wp2
  go_ret
  exact ⟨rfl, g.out⟩
end

/-! ### New -/
/-- Cell a of the 24, j lines being made. -/
def pn (ch : Nat → Nat) (j a : Nat) : Value :=
  if a / 3 < j then pg ch M.i0 a else if a % 3 = 0 then .chan none else if a % 3 = 1 then .int .i64 0 else .bool false
theorem run_build_irq (w : World) : (Instr.build 48 #[]).run Try.prog w = .ok (.agg ((List.range 24).map (pn (fun _ => 0) 0)).toArray) w := run_build w _ _ _ (by kernel_rfl)
/-- j lines are made, all since w0. -/
structure Ib (w0 w : World) (x : Nat) (ch : Nat → Nat) (j : Nat) : Prop where
  row : w.rowIs x 48 24 (pn ch j)
  tk : ∀ k, k < j → Tk w (ch k) false
  lo : ∀ k, k < j → w0.heap.size ≤ ch k
  ne : ∀ a b, a < j → b < j → ch a = ch b → a = b
  lx : w0.heap.size ≤ x
  gr : w0.grownBy w none
theorem Ib.begin (w : World) (t : Array Value) (ht : t = ((List.range 24).map (pn (fun _ => 0) 0)).toArray) : Ib w (w.alloc (.cells t 48)) w.heap.size (fun _ => 0) 0 :=
  ⟨by
    subst ht
    exact w.rowIs_alloc _ _ (pn (fun _ => 0) 0) (fun i hi => by simp at hi; simp [hi]), fun k hk => by omega, fun k hk => by omega, fun a b ha => by omega, Nat.le_refl _, gbAlloc _ _ _⟩

theorem irqNew (w : World) : ∃ W, w.alloc (.cells #[.chan none, .int .i64 0, .bool false, .chan none, .int .i64 0, .bool false, .chan none, .int .i64 0, .bool false, .chan none, .int .i64 0, .bool false, .chan none, .int .i64 0, .bool false, .chan none, .int .i64 0, .bool false, .chan none, .int .i64 0, .bool false, .chan none, .int .i64 0, .bool false] 48) = W ∧ Ib w W w.heap.size (fun _ => 0) 0 :=
  ⟨_, rfl, Ib.begin w _ rfl⟩
theorem Ib.drew {w0 w : World} {x : Nat} {ch : Nat → Nat} {j : Nat} (h : Ib w0 w x ch j) : Ib w0 w.drew x ch j :=
  ⟨h.row, h.tk, h.lo, h.ne, h.lx, gbTrans h.gr (gbDrewN _ 1 none)⟩
/-- The cells that a line's making writes, its channel being there. -/
structure T3 (w : World) (x a : Nat) : Prop where
  c0 : ∃ v, w.cell? ⟨x, a, none⟩ = some v
  c1 : ∃ v, w.cell? ⟨x, a + 1, none⟩ = some v
  c2 : ∃ v, w.cell? ⟨x, a + 2, none⟩ = some v
  f0 : w.frozen? ⟨x, a, none⟩ = false
  f1 : w.frozen? ⟨x, a + 1, none⟩ = false
  f2 : w.frozen? ⟨x, a + 2, none⟩ = false
/-- A line is made: its channel, then the store. -/
theorem Ib.line {w0 w : World} {x : Nat} {ch : Nat → Nat} {j : Nat} (h : Ib w0 w x ch j) (hj : j < 8) :
    T3 (w.alloc (.chan 1 #[] false 0 0 false)) x (j * 3) ∧
    ∃ W ch', (((w.alloc (.chan 1 #[] false 0 0 false)).setCell ⟨x, j * 3, none⟩ (.chan (some w.heap.size))).setCell ⟨x, j * 3 + 1, none⟩ (.int .i64 (-1))).setCell ⟨x, j * 3 + 2, none⟩ (.bool true) = W ∧ Ib w0 W x ch' (j + 1) := by
  obtain ⟨V, hV⟩ : ∃ V, w.alloc (.chan 1 #[] false 0 0 false) = V := ⟨_, rfl⟩
  have g : w.grownBy V none := by rw [← hV]; exact gbAlloc _ _ _
  have t : Tk V w.heap.size false := by rw [← hV]; exact Tk.made w
  have R : V.rowIs x 48 24 (pn ch j) := World.rowIs.of_block h.row (g.block x (World.rowIs.lt h.row) (by simp))
  rw [hV]
  refine ⟨⟨⟨_, World.rowIs.cell R (by omega)⟩, ⟨_, World.rowIs.cell R (by omega)⟩, ⟨_, World.rowIs.cell R (by omega)⟩, World.rowIs.frozen R _, World.rowIs.frozen R _, World.rowIs.frozen R _⟩, _, (fun k => if k = j then w.heap.size else ch k), rfl, ?_⟩
  have R1 := World.rowIs.set (World.rowIs.set (World.rowIs.set R (j * 3) (.chan (some w.heap.size))) (j * 3 + 1) (.int .i64 (-1))) (j * 3 + 2) (.bool true)
  have G : V.grownBy (((V.setCell ⟨x, j * 3, none⟩ (.chan (some w.heap.size))).setCell ⟨x, j * 3 + 1, none⟩ (.int .i64 (-1))).setCell ⟨x, j * 3 + 2, none⟩ (.bool true)) (some x) :=
    gbTrans (gbTrans (gbSetCell _ _ _ _) (gbSetCell _ _ _ _)) (gbSetCell _ _ _ _)
  have hx := World.rowIs.lt h.row
  have ap : ∀ k, k < j → ch k < w.heap.size ∧ ch k ≠ x := fun k hk => ⟨(h.tk k hk).lt, fun e => by
    obtain ⟨s, r, ht⟩ := h.tk k hk
    obtain ⟨c, hc, _⟩ := h.row
    rw [e, hc] at ht
    cases ht⟩
  refine ⟨World.rowIs.congr R1 (fun a ha => ?_), fun k hk => ?_, fun k hk => ?_, fun a b ha hb e => ?_, h.lx, gbNew (gbTrans (gbAny h.gr _) (gbTrans (gbAny g _) G)) h.lx⟩
  · unfold pn pg
    by_cases e2 : a = j * 3 + 2
    · rw [if_pos e2, if_pos (by omega), if_neg (by omega), if_neg (by omega)]; rfl
    · rw [if_neg e2]
      by_cases e1 : a = j * 3 + 1
      · rw [if_pos e1, if_pos (by omega), if_neg (by omega), if_pos (by omega)]; rfl
      · rw [if_neg e1]
        by_cases e0 : a = j * 3
        · rw [if_pos e0, if_pos (by omega), if_pos (by omega)]; simp only []; rw [if_pos (by omega)]
        · rw [if_neg e0]
          by_cases c : a / 3 < j
          · rw [if_pos c, if_pos (show a / 3 < j + 1 by omega)]; simp only []; rw [if_neg (show ¬ a / 3 = j by omega)]
          · rw [if_neg c, if_neg (show ¬ a / 3 < j + 1 by omega)]
  · by_cases e : k = j
    · simp only [if_pos e]
      exact t.block (G.block _ t.lt (by simp; omega))
    · simp only [if_neg e]
      have := ap k (by omega)
      exact ((h.tk k (by omega)).block (g.block _ this.1 (by simp))).block (G.block _ (Nat.lt_of_lt_of_le this.1 g.size) (by simp; exact this.2))
  · have h1 := h.gr.size
    by_cases e : k = j
    · simp only [if_pos e]; exact h1
    · simp only [if_neg e]; exact h.lo k (by omega)
  · by_cases e1 : a = j
    · by_cases e2 : b = j
      · omega
      · simp only [if_pos e1, if_neg e2] at e
        have := (ap b (by omega)).1
        omega
    · by_cases e2 : b = j
      · simp only [if_neg e1, if_pos e2] at e
        have := (ap a (by omega)).1
        omega
      · simp only [if_neg e1, if_neg e2] at e
        exact h.ne a b (by omega) (by omega) e
/-- All eight. -/
theorem Ib.done {w0 w : World} {x : Nat} {ch : Nat → Nat} (h : Ib w0 w x ch 8) : IA w (fun k => w0.heap.size ≤ k ∧ k < w.heap.size) x M.i0 :=
  ⟨ch, World.rowIs.congr h.row (fun a ha => by unfold pn; rw [if_pos (by omega)]), fun k hk => h.tk k hk, fun k hk => ⟨h.lo k hk, (h.tk k hk).lt⟩, h.ne, ⟨h.lx, World.rowIs.lt h.row⟩⟩

set_option maxHeartbeats 2000000 in
theorem new_is (w : World) : Calls Try.prog 7 #[] w fun e w' => ∃ x, e = .returned (.pointer (some ⟨x, 0, none⟩)) ∧ w.grownBy w' none ∧ IA w' (fun k => w.heap.size ≤ k ∧ k < w'.heap.size) x M.i0 := by
  have hm := run_makeTok
  go_enter Try.func7, Try.ntmps7
  go_wp2_with fail
  obtain ⟨V, eV, B0⟩ := irqNew w
  rw [eV]
  replace B0 := hideIt B0
  clear eV
  obtain ⟨x, hx⟩ : ∃ x, w.heap.size = x := ⟨_, rfl⟩
  rw [hx] at B0
  rw [hx]
  clear hx
  go_loopg [5] 8 (fun gk s wr => ∃ j : Nat, j + gk = 8 ∧ s = .int .i64 j ∧ ∃ ch, Hid (Ib w wr x ch j))
  case atStart => exact ⟨0, rfl, rfl, _, B0⟩
  case round =>
    obtain ⟨j, hj, rfl, ch, B⟩ := hrel
    clear B0
    by_cases hlt : j < 8
    · obtain ⟨t1, W, ch', eW, B'⟩ := B.out.line hlt
      obtain ⟨⟨v0, c0⟩, ⟨v1, c1⟩, ⟨v2, c2⟩, f0, f1, f2⟩ := t1
      replace B' := hideIt B'
      go_upto_region 5 with fail
      go_region
      go_wp2
      go_roundg (gk - 1)
      case rel => exact ⟨j + 1, by omega, by go_num, ch', hideIt B'.out.drew⟩
      case measure => omega
    · obtain rfl : j = 8 := by omega
      go_wp2
      go_ret
      exact ⟨x, rfl, B.out.gr, B.out.done⟩
end Go.Proofs.Ytekohlbafhlldaa
