/-
  A TLB BESIDE A MEMORY, ALL OF IT NEW; the law's own first question.
-/
import Derived.Test.YtmmjmloaefcmmaaTta
namespace Go.Proofs.Ytmmjmloaefcmmaa
set_option maxRecDepth 10000
open Go.RowKit
set_option linter.unusedVariables false

/-- A Tlb and a memory, all new since w0. -/
structure Tw (w0 w : World) (O : Nat → Prop) (t : Nat) (L : List K) (p b n : Nat) (F : Nat → Nat) : Prop where
  tb : Tp w0 w O t L
  mm : Mm w p b n F
  hp : ¬ O p
  hb : ¬ O b
  p0 : w0.heap.size ≤ p
  b0 : w0.heap.size ≤ b
section
variable {w0 w w' : World} {O : Nat → Prop} {t p b n : Nat} {L L' : List K} {F F' : Nat → Nat}
theorem Tw.kept (h : Tw w0 w O t L p b n F) (g : w.grownBy w' none) : Tw w0 w' O t L p b n F := ⟨h.tb.kept g, h.mm.kept g, h.hp, h.hb, h.p0, h.b0⟩
theorem Tw.call (h : Tw w0 w O t L p b n F) (T : Tp w0 w' (wide O w w') t L') (k : Fr O w w') : Tw w0 w' (wide O w w') t L' p b n F :=
  ⟨T, h.mm.fr k h.hp h.hb, wideNo h.hp h.mm.plt, wideNo h.hb h.mm.blt, h.p0, h.b0⟩
theorem Tw.put (h : Tw w0 w O t L p b n F) (m : Mm w' p b n F') (g : w.grownBy w' (some b)) : Tw w0 w' O t L p b n F' := ⟨h.tb.keep g h.hb h.b0, m, h.hp, h.hb, h.p0, h.b0⟩
end

namespace W
/-- What is kept behind the first fills. -/
def L : Nat → List K
  | 0 => []
  | i + 1 => M.kput (L i) 1 (i : Int) ⟨true, false, 16⟩
abbrev F0 : Nat → Nat := fun i => if i = 16 then 33 else if i = 0 then 17 else 0
abbrev F3 : Nat → Nat := fun i => if i = 16 then 0 else F0 i
abbrev L1 : List K := [⟨2, 0, ⟨true, false, 32⟩⟩]
theorem f (i : Nat) (h : i < 9) : M.kfe 1 (i : Int) ⟨true, false, 16⟩ = 0 := M.kfe_mk (by decide) (by simp [M.np]; omega) rfl (by decide)
theorem g0 : M.kg (L 9) 1 0 = (E.zero, false) := by kernel_rfl
theorem g1 : M.kg (L 9) 1 1 = (⟨true, false, 16⟩, true) := by kernel_rfl
theorem len : (L 9).length = 8 := by kernel_rfl
theorem gone : M.kx (L 9) 1 = [] := by kernel_rfl
theorem t1 : M.kt 64 F0 [] 2 0 5 false = (37, 0, L1) := by kernel_rfl
theorem t2 : M.kt 64 F0 L1 2 0 5 true = (0, 5, L1) := by kernel_rfl
theorem t3 : M.kt 64 F3 L1 2 0 6 false = (38, 0, L1) := by kernel_rfl
theorem a1 : M.ka 64 F3 L1 2 0 = false := by kernel_rfl
end W

set_option maxHeartbeats 4000000 in
theorem works_is (w : World) : Calls Try.prog 29 #[] w fun e w' => e = .returned (.bool true) ∧ w.grownBy w' none := by
  go_enter Try.func29, Try.ntmps29
  go_wp2_with fail
  refine (tnew_is w w (gbRefl _ _)).mono ?_
  rintro e w1 ⟨t, O, rfl, T1, g1, l1⟩
  have T1 := hideIt T1
  go_wp2_with fail
  refine (Y2.new_yes _ 64 (by omega) (by omega)).mono ?_
  rintro e w2 ⟨p, b, rfl, hm2, g2, hp, hb⟩
  have H2 : Hid (Tw w w2 O t (W.L 0) p b 64 (fun _ => 0)) := hideIt ⟨T1.out.kept g2, ⟨hm2, fun _ => by omega⟩, fun e => by have := (T1.out.lo _ e).2; omega, fun e => by have := (T1.out.lo _ e).2; omega, by have := g1.size; omega, by have := g1.size; omega⟩
  clear T1 hm2 g2 hp hb g1 l1
  go_wp2_with fail
  go_loopg [4] 9 (fun gk i wr => ∃ (j : Nat) (O : Nat → Prop), j + gk = 9 ∧ i = .int .i64 j ∧ Hid (Tw w wr O t (W.L j) p b 64 (fun _ => 0)))
  case atStart => exact ⟨0, O, rfl, rfl, H2⟩
  case round =>
    obtain ⟨j, O, hj, rfl, H⟩ := hrel
    clear H2
    by_cases hlt : j < 9
    · go_wp2_with fail
      refine (fill_is H.out.tb 1 j true false 16 0 (W.f j hlt)).mono ?_
      rintro e w3 ⟨rfl, T3, F3⟩
      have e3 : M.kf (W.L j) 1 (j : Int) ⟨true, false, 16⟩ = W.L (j + 1) := by unfold M.kf; rw [if_pos (W.f j hlt)]; rfl
      rw [e3] at T3
      have H3 := hideIt (H.out.call T3 F3)
      clear T3 F3 e3
      go_wp2
      go_roundg (gk - 1)
      case rel => exact ⟨j + 1, _, by omega, by go_num, H3⟩
      case measure => omega
    · obtain rfl : j = 9 := by omega
      go_wp2_with fail
      refine (get_is H.out.tb 1 0 _ _ W.g0).mono ?_
      rintro e w3 ⟨rfl, g3⟩
      have H3 := hideIt (H.out.kept g3)
      clear H g3
      go_upto_region 11 with fail
      obtain ⟨W4, hW4, _, h4⟩ := boxNew w3 E.zero 44
      simp only at hW4
      rw [hW4]
      clear hW4
      have H4 := hideIt (H3.out.kept h4)
      clear H3 h4
      go_wp2_with fail
      refine (get_is H4.out.tb 1 1 _ _ W.g1).mono ?_
      rintro e w5 ⟨rfl, g5⟩
      have H5 := hideIt (H4.out.kept g5)
      clear H4 g5
      go_upto_region 12 with fail
      obtain ⟨W6, hW6, _, h6⟩ := boxNew w5 ⟨true, false, 16⟩ 44
      simp only at hW6
      rw [hW6]
      clear hW6
      have H6 := hideIt (H5.out.kept h6)
      clear H5 h6
      go_wp2_with fail
      refine (tlen_is H6.out.tb W.len).mono ?_
      rintro e w7 ⟨rfl, rfl⟩
      go_wp2_with fail
      refine (flush_is H6.out.tb 1).mono ?_
      rintro e w8 ⟨rfl, T8, F8⟩
      rw [W.gone] at T8
      have H8 := hideIt (H6.out.call T8 F8)
      clear H6 T8 F8
      go_wp2_with fail
      refine (H8.out.mm.put 0 17 (by omega) (by omega)).mono ?_
      rintro e w9 ⟨rfl, m9, g9⟩
      have H9 := hideIt (H8.out.put m9 g9)
      clear H8 m9 g9
      go_wp2_with fail
      refine (H9.out.mm.put 16 33 (by omega) (by omega)).mono ?_
      rintro e w10 ⟨rfl, m10, g10⟩
      have H10 : Hid (Tw w w10 _ t [] p b 64 W.F0) := hideIt (H9.out.put m10 g10)
      clear H9 m10 g10
      go_wp2_with fail
      refine (tto_is H10.out.tb H10.out.mm 2 0 5 false 37 0 W.t1).mono ?_
      rintro e w11 ⟨rfl, T11, F11⟩
      have H11 := hideIt (H10.out.call T11 F11)
      clear H10 T11 F11
      go_wp2_with fail
      refine (tto_is H11.out.tb H11.out.mm 2 0 5 true 0 5 W.t2).mono ?_
      rintro e w12 ⟨rfl, T12, F12⟩
      have H12 := hideIt (H11.out.call T12 F12)
      clear H11 T12 F12
      go_wp2_with fail
      refine (H12.out.mm.put 16 0 (by omega) (by omega)).mono ?_
      rintro e w13 ⟨rfl, m13, g13⟩
      have H13 : Hid (Tw w w13 _ t W.L1 p b 64 W.F3) := hideIt (H12.out.put m13 g13)
      clear H12 m13 g13
      go_wp2_with fail
      refine (tto_is H13.out.tb H13.out.mm 2 0 6 false 38 0 W.t3).mono ?_
      rintro e w14 ⟨rfl, T14, F14⟩
      have H14 := hideIt (H13.out.call T14 F14)
      clear H13 T14 F14
      go_wp2_with fail
      refine (agrees_is H14.out.tb H14.out.mm 2 0 false W.a1).mono ?_
      rintro e w15 ⟨rfl, g15⟩
      have H15 := hideIt (H14.out.kept g15)
      clear H14 g15
      go_wp2_with fail
      refine (tlen_is (n := 1) H15.out.tb rfl).mono ?_
      rintro e w16 ⟨rfl, rfl⟩
      go_wp2
      go_ret
      exact ⟨rfl, H15.out.tb.gr⟩
end Go.Proofs.Ytmmjmloaefcmmaa
