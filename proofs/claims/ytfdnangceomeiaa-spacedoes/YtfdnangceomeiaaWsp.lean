/-
  THE LAW'S OWN FIRST QUESTION; what is listed held against what is listed.
-/
import Derived.Test.YtfdnangceomeiaaLis
namespace Go.Proofs.Ytfdnangceomeiaa
set_option maxRecDepth 10000
open Go.RowKit
set_option linter.unusedVariables false

set_option maxHeartbeats 2000000 in
set_option maxRecDepth 100000 in
theorem same_is (w : World) (B1 B2 : Nat) (v1 v2 : Value) (L : List K3) (h1 : L3 52 w B1 v1 L) (h2 : L3 76 w B2 v2 L) (hL : L.length ≤ 256) :
    Calls Try.prog 13 #[v1, v2] w fun e w' => e = .returned (.bool true) ∧ w.grownBy w' none := by
  obtain ⟨l, hl⟩ : ∃ l, L.length = l := ⟨_, rfl⟩
  obtain ⟨x1, c1, rfl⟩ := h1.slice hl
  obtain ⟨x2, c2, rfl⟩ := h2.slice hl
  rw [hl] at hL
  have H1 := hideIt h1
  have H2 := hideIt h2
  replace hl := hideIt hl
  clear h1 h2
  go_enter Try.func13, Try.ntmps13
  go_wp2_with fail
  go_loopg [5] l (fun g i wr => ∃ (j : Nat), j + g = l ∧ i = .int .i64 j ∧ w.grownBy wr none)
  case atStart => exact ⟨0, by omega, rfl, gbRefl _ _⟩
  case round =>
    obtain ⟨j, hj, rfl, gw⟩ := hrel
    by_cases hlt : j < l
    · obtain ⟨k, hk⟩ : ∃ k, L[j]? = some k := ⟨L[j]'(by have := hl.out; omega), List.getElem?_eq_getElem _⟩
      obtain ⟨g1, d1, e1, _, _⟩ := H1.out.has hl.out hlt
      obtain ⟨g2, d2, e2, _, _⟩ := H2.out.has hl.out hlt
      cases e1
      cases e2
      obtain ⟨a0, a1, a2⟩ := (H1.out.el hl.out j k hk).kept gw
      obtain ⟨b0, b1, b2⟩ := (H2.out.el hl.out j k hk).kept gw
      clear hk
      go_wp2
      go_quiet (fail)
      go_wp2
      go_roundg (gk - 1)
      case rel => exact ⟨j + 1, by omega, by go_num, gbTrans gw (gbDrewN _ _ _)⟩
      case measure => omega
    · go_wp2
      go_ret
      exact ⟨rfl, gw⟩

/-- A list of one element that is built. -/
theorem L3.one (w : World) (k : K3) (tk : TypeId) : L3 tk (w.alloc (.cells (threeCells k) tk)) w.heap.size (.slice (some ⟨w.heap.size, 0, none⟩) 1 1) [k] := by
  refine ⟨rfl, .inr ⟨w.heap.size, 1, threeCells k, rfl, Nat.le_refl _, ?_, Nat.le_refl _, by decide, rfl, rfl⟩⟩
  exact Deep.blk_alloc_new w _
namespace W
abbrev F0 : Nat → Nat := fun _ => 0
abbrev F1 : Nat → Nat := M.st F0 0 17
abbrev F2 : Nat → Nat := M.st F1 18 51
abbrev F3 : Nat → Nat := M.st F2 18 0
theorem t1 : M.chg F0 (M.dp 64 0 0 (M.al 64 16)) (M.lay ⟨true, false, 16⟩) = (0, F1) := by kernel_rfl
theorem t2 : M.chg F1 (M.tp 64 F1 0 32 (M.al 64 48)) (M.lay ⟨true, true, 48⟩) = (0, F2) := by kernel_rfl
theorem t3 : M.chg F2 (M.tp 64 F2 0 32 (M.al 64 48)) (M.lay ⟨true, true, 48⟩) = (4, F2) := by kernel_rfl
theorem t4 : M.chg F2 (M.tp 64 F2 0 256 (M.al 64 48)) (M.lay ⟨true, true, 48⟩) = (12, F2) := by kernel_rfl
theorem t5 : M.chg F2 (M.tp 64 F2 0 32 true) M.out = (0, F3) := by kernel_rfl
theorem t6 : M.chg F3 (M.tp 64 F3 0 32 true) M.out = (3, F3) := by kernel_rfl
theorem ls : M.ls 64 F2 0 = ([⟨2, 48, true⟩], 0) := by kernel_rfl
end W
/-- A memory, new since w0. -/
structure Nw (w0 w : World) (p b n : Nat) (F : Nat → Nat) : Prop where
  m : Mm w p b n F
  g : w0.grownBy w none
  b0 : w0.heap.size ≤ b
theorem Nw.kept {w0 w w' : World} {p b n : Nat} {F : Nat → Nat} (h : Nw w0 w p b n F) (g : w.grownBy w' none) : Nw w0 w' p b n F := ⟨h.m.kept g, gbTrans h.g g, h.b0⟩
theorem Nw.turn {w0 w w' : World} {p b n : Nat} {F G : Nat → Nat} (h : Nw w0 w p b n F) (m : Mm w' p b n G) (g : w.grownBy w' (some b)) : Nw w0 w' p b n G := ⟨m, gbNew (gbTrans (gbAny h.g _) g) h.b0, h.b0⟩
theorem new_nw (w : World) (n : Nat) (h0 : 64 ≤ n) (h1 : n ≤ 65536) :
    Calls Try.prog 17 #[.int .i64 n] w fun e w' => ∃ p b, e = .returned (.tuple #[.pointer (some ⟨p, 0, none⟩), .int .i64 0]) ∧ Nw w w' p b n W.F0 :=
  (Y2.new_yes w n h0 h1).mono fun _ _ ⟨p, b, e, m, g, _, hb⟩ => ⟨p, b, e, ⟨m, fun _ => by show 0 < _; omega⟩, g, hb⟩

set_option maxHeartbeats 4000000 in
set_option maxRecDepth 100000 in
theorem works_is (w : World) : Calls Try.prog 16 #[] w fun e w' => e = .returned (.bool true) ∧ w.grownBy w' none := by
  go_enter Try.func16, Try.ntmps16
  go_wp2_with fail
  refine (new_nw _ 64 (by omega) (by omega)).mono ?_
  rintro e w1 ⟨p, b, rfl, H1⟩
  replace H1 := hideIt H1
  go_wp2_with fail
  refine (table_is _ p b 64 _ _ 0 0 0 16 H1.out.m W.t1).mono ?_
  rintro e w2 ⟨rfl, m2, g2⟩
  have H2 := hideIt (H1.out.turn m2 g2)
  clear H1 m2 g2
  go_wp2_with fail
  refine (map_is _ p b 64 _ _ 0 32 0 48 true H2.out.m W.t2).mono ?_
  rintro e w3 ⟨rfl, m3, g3⟩
  have H3 := hideIt (H2.out.turn m3 g3)
  clear H2 m3 g3
  go_wp2_with fail
  refine (H3.out.m.get (gbRefl _ _) 18 (by omega)).mono ?_
  rintro e w4 ⟨rfl, g4⟩
  have H4 := hideIt (H3.out.kept g4)
  clear H3 g4
  go_wp2_with fail
  refine (list_is _ p b 64 _ 0 0 _ H4.out.m W.ls).mono ?_
  rintro e w5 ⟨v, rfl, l5, g5⟩
  have hv : ∀ k, v.ownBlock = some k → k ≠ b := fun k hk e => by
    have h1 := (l5.lt k hk).1
    have h2 := H4.out.m.blt
    omega
  have H5 := hideIt (And.intro (H4.out.kept g5) l5)
  replace hv := hideIt hv
  clear H4 l5 g5
  go_wp2_with fail
  refine (map_is _ p b 64 _ _ 0 32 4 48 true H5.out.1.m W.t3).mono ?_
  rintro e w6 ⟨rfl, m6, g6⟩
  have H6 := hideIt (And.intro (H5.out.1.turn m6 g6) (H5.out.2.keep g6 hv.out))
  clear H5 m6 g6
  go_wp2_with fail
  refine (map_is _ p b 64 _ _ 0 256 12 48 true H6.out.1.m W.t4).mono ?_
  rintro e w7 ⟨rfl, m7, g7⟩
  have H7 := hideIt (And.intro (H6.out.1.turn m7 g7) (H6.out.2.keep g7 hv.out))
  clear H6 m7 g7 hv
  have hr := row3 w7 ⟨2, 48, true⟩ 76
  have ga := gbAlloc w7 (.cells (threeCells ⟨2, 48, true⟩) 76) none
  have l8 : L3 76 (w7.alloc (.cells (threeCells ⟨2, 48, true⟩) 76)) w7.heap.size (.slice (some ⟨w7.heap.size, 0, none⟩) 1 1) [⟨2, 48, true⟩] := L3.one w7 _ _
  simp only [threeCells] at hr ga l8
  have H8 := hideIt (And.intro (H7.out.1.kept ga) (And.intro (H7.out.2.kept ga) l8))
  clear hr ga l8 H7
  go_wp2_with fail
  refine (same_is _ _ _ _ _ _ H8.out.2.1 H8.out.2.2 (by simp)).mono ?_
  rintro e w9 ⟨rfl, g9⟩
  have H9 := hideIt (H8.out.1.kept g9)
  clear H8 g9
  go_wp2_with fail
  refine (unmap_is _ p b 64 _ _ 0 32 0 H9.out.m W.t5).mono ?_
  rintro e w10 ⟨rfl, m10, g10⟩
  have H10 := hideIt (H9.out.turn m10 g10)
  clear H9 m10 g10
  go_wp2_with fail
  refine (unmap_is _ p b 64 _ _ 0 32 3 H10.out.m W.t6).mono ?_
  rintro e w11 ⟨rfl, m11, g11⟩
  have H11 := hideIt (H10.out.turn m11 g11)
  clear H10 m11 g11
  go_wp2
  go_ret
  exact ⟨rfl, H11.out.g⟩
end Go.Proofs.Ytfdnangceomeiaa
