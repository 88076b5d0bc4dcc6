/-
  THE CONTRACT of List.
-/
import Derived.Test.YtfdnangceomeiaaLst
import Derived.Deep.LoopGhost
namespace Go.Proofs.Ytfdnangceomeiaa
set_option maxRecDepth 10000
open Go.RowKit
set_option linter.unusedVariables false

set_option maxHeartbeats 1000000 in
theorem list_no (w : World) (p b n : Nat) (F : Nat → Nat) (dir : Int) (hm : Mm w p b n F) (h : M.al n dir = false) :
    Calls Try.prog 11 #[.pointer (some ⟨p, 0, none⟩), .int .i64 dir] w fun e w' => e = .returned (.tuple #[.slice none 0 0, .int .i64 9]) ∧ w.grownBy w' none := by
  have HT := fun w' (g : w.grownBy w' none) => hm.isthere g dir false h
  clear hm h
  go_enter Try.func11, Try.ntmps11
  go_wp2_with fail
  refine (HT _ (gbRefl _ _)).mono ?_
  rintro e w1 ⟨rfl, rfl⟩
  go_wp2
  go_ret2
  exact ⟨rfl, gbRefl _ _⟩
set_option maxHeartbeats 2000000 in
set_option maxRecDepth 100000 in
theorem list_yes (w : World) (p b n : Nat) (F : Nat → Nat) (dir : Int) (hm : Mm w p b n F) (h : M.al n dir = true) :
    Calls Try.prog 11 #[.pointer (some ⟨p, 0, none⟩), .int .i64 dir] w fun e w' => ∃ v, e = .returned (.tuple #[v, .int .i64 0]) ∧ L3 52 w' w.heap.size v (M.ln n F dir 256) ∧ w.grownBy w' none := by
  have HT := fun w' (g : w.grownBy w' none) => hm.isthere g dir true h
  have HM := hideIt hm
  clear hm h
  go_enter Try.func11, Try.ntmps11
  go_wp2_with fail
  refine (HT _ (gbRefl _ _)).mono ?_
  rintro e w1 ⟨rfl, rfl⟩
  clear HT
  go_wp2_with fail
  go_loopg [6, 14] 256 (fun g v i wr => ∃ (j : Nat), j + g = 256 ∧ i = .int .i64 j ∧ Hid (L3 52 wr w1.heap.size v (M.ln n F dir j)) ∧ w1.grownBy wr none)
  case atStart => exact ⟨0, rfl, rfl, hideIt (L3.nil _ _ _), gbRefl _ _⟩
  case round =>
    obtain ⟨j, hj, rfl, HL, gw⟩ := hrel
    by_cases hlt : j < 256
    · obtain ⟨⟨⟨u, o, B⟩, f⟩, hp⟩ : ∃ y, M.pe n F dir ((16 * j : Nat) : Int) = y := ⟨_, rfl⟩
      obtain ⟨J, hJ⟩ : ∃ J : Nat, 16 * j = J := ⟨_, rfl⟩
      have hJ' : (j : Int) * 16 = (J : Int) := by omega
      have lJ : J ≤ 4096 := by omega
      replace hj := hideIt hj
      have hp0 := hideIt hp
      rw [hJ] at hp
      have HP := fun w' (g : w1.grownBy w' none) => page_is w' p b n F dir J _ _ (HM.out.kept g) hp
      clear hp hJ
      have hlen := hideIt (M.ln_len n F dir j)
      go_wp2_with fail
      refine (HP _ gw).mono ?_
      rintro e w2 ⟨rfl, g2⟩
      clear HP
      go_upto_region 8 with fail
      obtain ⟨W3, hW3, Y, h3⟩ := boxNew w2 ⟨u, o, B⟩ 69
      simp only at hW3
      rw [hW3]
      clear hW3 hJ'
      have G3 := gbTrans (gbTrans gw g2) h3
      have HL3 := hideIt ((HL.out.kept g2).kept h3)
      obtain ⟨z0, z1, z2, zt, zf⟩ := Y
      simp only at z0 z1 z2
      clear HL g2 h3
      by_cases d : f = 0
      · subst d
        have hr := row3 W3 ⟨j, B, o⟩ 52
        have ga := gbAlloc W3 (.cells (threeCells ⟨j, B, o⟩) 52) none
        simp only [threeCells] at hr ga
        have HR := hideIt hr
        have GA := hideIt ga
        clear hr ga
        have hsz := G3.size
        have hown := HL3.out.lt
        have HE := hideIt (M.ln_yes hp0.out)
        have HB : Hid (w1.heap.size ≤ (W3.alloc (.cells #[.int .i64 (j : Int), .int .i64 B, .bool o] 52)).heap.size) := hideIt (by have := GA.out.size; omega)
        have HN : Hid ((M.ln n F dir j).length + 1 ≤ 1000000) := hideIt (by have := hlen.out; omega)
        go_wp2_with (at_builtin; refine wpList_append_p rfl (.tmp 27) (.tmp 34) rfl w1.heap.size _ (M.ln n F dir j) rfl (HL3.out.kept GA.out) ⟨W3.heap.size, 0, none⟩ 1 1 [⟨j, B, o⟩] rfl rfl HR.out HN.out HB.out ?_; intro v4 w4 h4 g4; have h4 := hideIt h4)
        go_roundg (gk - 1)
        case rel => exact ⟨j + 1, by have := hj.out; omega, by go_num, hideIt (by rw [HE.out]; exact h4.out), gbNews (gbTrans (gbAny (gbTrans G3 GA.out) _) g4) (fun k e => (hown k e).1)⟩
        case measure => have := hj.out; omega
      · have d1 : (f == 0) = false := by simp [d]
        have HE := hideIt (M.ln_no hp0.out d)
        clear d hp0
        go_wp2
        go_roundg (gk - 1)
        case rel => exact ⟨j + 1, by have := hj.out; omega, by go_num, hideIt (by rw [HE.out]; exact HL3.out), G3⟩
        case measure => have := hj.out; omega
    · obtain rfl : j = 256 := by omega
      clear hj
      go_wp2
      go_ret2
      exact ⟨_, rfl, HL.out, gw⟩
theorem list_is (w : World) (p b n : Nat) (F : Nat → Nat) (dir f : Int) (L : List K3) (hm : Mm w p b n F) (h : M.ls n F dir = (L, f)) :
    Calls Try.prog 11 #[.pointer (some ⟨p, 0, none⟩), .int .i64 dir] w fun e w' => ∃ v, e = .returned (.tuple #[v, .int .i64 f]) ∧ L3 52 w' w.heap.size v L ∧ w.grownBy w' none := by
  unfold M.ls at h
  by_cases c : M.al n dir = false
  · rw [if_pos c] at h
    simp only [Prod.mk.injEq] at h
    obtain ⟨rfl, rfl⟩ := h
    exact (list_no w p b n F dir hm c).mono fun _ _ ⟨e, g⟩ => ⟨_, e, L3.nil _ _ _, g⟩
  · rw [if_neg c] at h
    simp only [Prod.mk.injEq] at h
    obtain ⟨rfl, rfl⟩ := h
    exact list_yes w p b n F dir hm (by simpa using c)
end Go.Proofs.Ytfdnangceomeiaa
