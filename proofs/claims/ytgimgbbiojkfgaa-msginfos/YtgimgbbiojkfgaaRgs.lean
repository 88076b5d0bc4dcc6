/-
  THE CONTRACT of the law's Regs: eight registers of a list.
-/
import Derived.Test.YtgimgbbiojkfgaaCry
import Derived.Deep.LoopGhost
namespace Go.Proofs.Ytgimgbbiojkfgaa
set_option maxRecDepth 10000
open Go.RowKit
set_option linter.unusedVariables false

/-- The first n of a list's words. -/
def rg (V : Nat → Nat) (n : Nat) : Nat → Nat := fun i => if i < n then V i else 0
theorem rg_step (V : Nat → Nat) (j : Nat) : ∀ i, upd (rg V j) j (V j) i = rg V (j + 1) i := by
  intro i
  unfold upd rg
  by_cases h : i = j
  · subst h; simp
  · by_cases k : i < j
    · rw [if_neg h, if_pos k, if_pos (by omega)]
    · rw [if_neg h, if_neg k, if_neg (by omega)]
theorem rg_lt {V : Nat → Nat} {n : Nat} (h : ∀ i, i < n → V i < 18446744073709551616) (i : Nat) : rg V n i < 18446744073709551616 := by
  unfold rg; split
  · exact h i (by assumption)
  · omega

set_option maxHeartbeats 1000000 in
theorem regs_is (V : Nat → Nat) (x : Option Addr) (len cap : Nat) (w : World) (L : Wl w x len V) :
    Calls Try.prog 13 #[.slice x len cap] w fun r w' => r = .returned (rv (rg V len)) ∧ w.grownBy w' none := by
  replace L := hideIt L
  go_enter Try.func13, Try.ntmps13
  go_upto_region 2 with fail
  obtain ⟨W1, e1, A, g1, s1⟩ := arrZero w 36
  rw [e1]
  clear e1
  obtain ⟨W2, e2, B, g2, s2⟩ := arrZero W1 36
  rw [e2]
  clear e2
  rw [s1] at B
  replace A := A.kept g2
  have G := gbTrans g1 g2
  clear g1 g2 s1 s2
  replace A := hideIt A
  replace B : Hid (RA W2 (w.heap.size + 1) 36 (rg V 0)) := hideIt (B.congr (fun i _ => by unfold rg; rw [if_neg (by omega)]))
  go_wp2
  go_loopg [4] 8 (fun gk i wr => ∃ j : Nat, j + gk = 8 ∧ j ≤ len ∧ i = .int .i64 j ∧ w.grownBy wr none ∧ Hid (RA wr (w.heap.size + 1) 36 (rg V j)) ∧ Hid (RA wr w.heap.size 36 nil8))
  case atStart => exact ⟨0, rfl, Nat.zero_le _, rfl, G, B, A⟩
  case round =>
    clear A B G
    obtain ⟨j, hj, jl, rfl, G, B, A⟩ := hrel
    have j8 : j ≤ 8 := by omega
    by_cases c1 : j < len
    · by_cases c2 : j < 8
      · obtain ⟨y, rfl, hy, _⟩ := (L.out.kept G) j c1
        have b1 := B.out.cell c2
        have bf := B.out.fr j
        obtain ⟨W3, e3, B3, g3⟩ : ∃ W, wr.setCell ⟨w.heap.size + 1, j, none⟩ (.int .u64 (V j : Int)) = W ∧ Hid (RA W (w.heap.size + 1) 36 (rg V (j + 1))) ∧ wr.grownBy W (some (w.heap.size + 1)) :=
          ⟨_, rfl, hideIt ((B.out.set j (V j)).congr (fun i _ => rg_step V j i)), gbSetCell _ _ _ _⟩
        have A3 := hideIt (A.out.keep g3 (by simp))
        have G3 := gbNew (gbTrans (gbAny G _) g3) (Nat.le_succ _)
        clear A B g3
        go_wp2
        go_roundg (gk - 1)
        case rel => exact ⟨j + 1, by omega, by omega, by go_num, G3, B3, A3⟩
        case measure => omega
      · have B := B.out.congr (g := rg V len) (fun i hi => by unfold rg; by_cases h : i < len <;> by_cases k : i < j <;> simp only [h, k, if_true, if_false] <;> omega)
        obtain ⟨a0, a1, a2, a3, a4, a5, a6, a7⟩ := B.eight
        obtain ⟨b0, b1, b2, b3, b4, b5, b6, b7⟩ := A.out.eight
        have bf := A.out.fr
        clear B A
        go_wp2
        exact bodyPost_ret (v := rv (rg V len)) (by simp [results, Try.results13, go_sem, b0, b1, b2, b3, b4, b5, b6, b7]) rfl ⟨rfl, by repeat (first | with_reducible exact G | refine gbSetNew ?_ _ _ _ (by omega))⟩
    · have B := B.out.congr (g := rg V len) (fun i hi => by unfold rg; by_cases h : i < len <;> by_cases k : i < j <;> simp only [h, k, if_true, if_false] <;> omega)
      obtain ⟨a0, a1, a2, a3, a4, a5, a6, a7⟩ := B.eight
      obtain ⟨b0, b1, b2, b3, b4, b5, b6, b7⟩ := A.out.eight
      have bf := A.out.fr
      clear B A
      go_wp2
      exact bodyPost_ret (v := rv (rg V len)) (by simp [results, Try.results13, go_sem, b0, b1, b2, b3, b4, b5, b6, b7]) rfl ⟨rfl, by repeat (first | with_reducible exact G | refine gbSetNew ?_ _ _ _ (by omega))⟩
end Go.Proofs.Ytgimgbbiojkfgaa
