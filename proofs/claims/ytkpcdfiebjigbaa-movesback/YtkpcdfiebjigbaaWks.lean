/-
  THE CONTRACT of donjonlaw10's works: true, whatever the world (written by mkworks10.py).
-/
import Derived.Test.YtkpcdfiebjigbaaTools
namespace Go.Proofs.Ytkpcdfiebjigbaa
set_option maxRecDepth 10000
open Go.RowKit
set_option linter.unusedVariables false

abbrev Sx (w : World) (p t Z : Nat) (c : C) : Prop := Ptr w p 1 t ∧ Six w Z c
theorem Sx.kept {w w' : World} {p t Z : Nat} {c : C} (h : Sx w p t Z c) (g : w.grownBy w' none) : Sx w' p t Z c := by
  obtain ⟨h1, z0, z1, z2, z3, z4, z5⟩ := h
  exact ⟨g.cell h1 (by simp), g.cell z0 (by simp), g.cell z1 (by simp), g.cell z2 (by simp), g.cell z3 (by simp), g.cell z4 (by simp), g.cell z5 (by simp)⟩
theorem lit12 (w : World) : Lst (w.alloc (.cells #[.int .i64 0, .int .i64 1, .int .i64 0, .int .i64 2] 29)) 0 (.slice (some ⟨w.heap.size, 0, none⟩) 2 2) [(0, 1), (0, 2)] :=
  World.ownsRow_lit (base := 0) (e := 29) (size := 2) w #[.int .i64 0, .int .i64 1, .int .i64 0, .int .i64 2] 2 (Nat.zero_le _) (by unfold maxLen; omega) rfl

set_option maxHeartbeats 8000000 in
theorem works_is (w : World) : Calls Try.prog 7 #[] w fun e w' => e = .returned (.bool true) ∧ w.grownBy w' none := by
  go_enter Try.func7, Try.ntmps7
  go_wp2_with fail
  refine (newCaps (gbRefl w none)).mono ?_
  rintro _ a0 ⟨p, s, t, rfl, A, _⟩
  have H0 := hideIt A
  clear A
  go_wp2_with fail
  refine (H0.out.nodeA 0 3 0 (i64s _ (by decide) (by decide)) (by decide) Wk.e1).mono ?_
  rintro _ a1 ⟨rfl, A, _⟩
  have H1 : Hid (Cs w a1 _ p s t 1 Wk.S1 .nil) := A
  clear A H0
  go_wp2_with fail
  refine (slot_is 0 _).mono ?_
  rintro _ a2 ⟨rfl, g⟩
  have H2 := hideIt (H1.out.kept g)
  clear H1 g
  go_wp2_with fail
  refine (H2.out.plant Wk.I1 0 0 4 4 7 0 0 0 0 (i64s _ (by decide) (by decide)) (i64s _ (by decide) (by decide)) (by decide) (by decide) Wk.l1 Wk.e2).mono ?_
  rintro _ a3 ⟨rfl, A, F⟩
  have H3 : Hid (Cs w a3 _ p s t 1 Wk.S2 Wk.f2) := A
  clear H2 A F
  go_wp2_with fail
  refine (slot_is 0 _).mono ?_
  rintro _ a4 ⟨rfl, g⟩
  have H4 := hideIt (H3.out.kept g)
  clear H3 g
  go_wp2_with fail
  refine (slot_is 1 _).mono ?_
  rintro _ a5 ⟨rfl, g⟩
  have H5 := hideIt (H4.out.kept g)
  clear H4 g
  go_wp2_with fail
  refine (H5.out.mint Wk.I2 0 0 0 1 1 7 0 0 0 (i64s _ (by decide) (by decide)) (i64s _ (by decide) (by decide)) (i64s _ (by decide) (by decide)) (i64s _ (by decide) (by decide)) (by decide) (by decide) Wk.l2 Wk.e3).mono ?_
  rintro _ a6 ⟨rfl, A, F⟩
  have H6 : Hid (Cs w a6 _ p s t 1 Wk.S3 Wk.f3) := A
  clear H5 A F
  go_wp2_with fail
  refine (slot_is 1 _).mono ?_
  rintro _ a7 ⟨rfl, g⟩
  have H7 := hideIt (H6.out.kept g)
  clear H6 g
  go_wp2_with fail
  refine (slot_is 2 _).mono ?_
  rintro _ a8 ⟨rfl, g⟩
  have H8 := hideIt (H7.out.kept g)
  clear H7 g
  go_wp2_with fail
  refine (H8.out.copy Wk.I3 0 1 0 2 7 0 (i64s _ (by decide) (by decide)) (i64s _ (by decide) (by decide)) (i64s _ (by decide) (by decide)) (i64s _ (by decide) (by decide)) Wk.l3 Wk.e4).mono ?_
  rintro _ a9 ⟨rfl, A, F⟩
  have H9 : Hid (Cs w a9 _ p s t 1 Wk.S4 Wk.f4) := A
  clear H8 A F
  go_upto_region 7 with fail
  have T0 : Ptr a9.drew p 1 t := (H9.out.kept (gbDrewN a9 1 none)).c1
  go_region_held3 (fun w' => Ptr w' p 1 t)
    (first | with_reducible exact T0 | with_reducible exact T2 | with_reducible exact T1 | fail)
    ((first | (go_at_call 18; refine ((H9.out.kept G5).kin 0 0 (i64s _ (by decide) (by decide)) (i64s _ (by decide) (by decide)) Wk.l4).mono ?_; rintro _ b0 ⟨vk, rfl, lk, g6⟩; have G6 := gbTrans G5 g6; have LK0 := hideIt (LB.new (H9.out.kept G5) lk); have T2 : Ptr b0 p 1 t := (H9.out.kept G6).c1; clear lk g6) | (go_at_call 20; refine (slot_is 0 _).mono ?_; rintro _ b0a ⟨rfl, g5⟩; have G5 : a9.grownBy b0a none := gbTrans (gbDrewN a9 1 none) g5; have T1 : Ptr b0a p 1 t := (H9.out.kept G5).c1; clear g5) | fail))
  rename_i hold
  clear hold T0 T1 T2 G5
  have H10 := hideIt (H9.out.kept G6)
  have L10 := LK0
  rw [Wk.k4] at L10
  clear H9 LK0 G6
  go_wp2_with fail
  refine (slot_is 0 _).mono ?_
  rintro _ a11 ⟨rfl, g⟩
  have H11 := hideIt (H10.out.kept g)
  have L11 := hideIt (L10.out.kept g)
  clear H10 L10 g
  go_wp2_with fail
  refine (slot_is 3 _).mono ?_
  rintro _ a12 ⟨rfl, g⟩
  have H12 := hideIt (H11.out.kept g)
  have L12 := hideIt (L11.out.kept g)
  clear H11 L11 g
  go_wp2_with fail
  refine (H12.out.moveA Wk.I4 0 0 0 3 0 (i64s _ (by decide) (by decide)) (i64s _ (by decide) (by decide)) (i64s _ (by decide) (by decide)) (i64s _ (by decide) (by decide)) Wk.l4 Wk.e5).mono ?_
  rintro _ a13 ⟨rfl, A, F⟩
  have H13 : Hid (Cs w a13 _ p s t 1 Wk.S5 Wk.f5) := A
  have L13 := hideIt (L12.out.call F)
  clear L12
  clear H12 A F
  go_upto_region 9 with fail
  go_cut [7, 8] (fun sz se wc => ∃ Z : Nat, sz = .pointer (some ⟨Z, 0, none⟩) ∧ se = .int .i64 0 ∧ Hid (Box wc Z ⟨4, 4, 1, 7, 0, 0⟩) ∧ Hid (a13.heap.size ≤ Z) ∧ Hid (a13.grownBy wc none))
  case first =>
    have T0b : Ptr a13 p 0 s := H13.out.c0
    have T0 : Ptr a13.drew p 0 s := T0b.kept (gbDrewN a13 1 none)
    go_region_held3 (fun w' => Ptr w' p 0 s)
      (first | with_reducible exact T0 | (focus (refine Ptr.kept T0b ?_; (repeat (first | with_reducible exact G6 | with_reducible exact G5 | with_reducible exact gbRefl a13 none | with_reducible refine gbDrew ?_ | with_reducible refine gbAllocN ?_ _ | with_reducible refine gbSetNew ?_ _ _ _ (by with_reducible first | exact Nat.le_refl _ | exact G5.size | exact G6.size))); done)) | fail)
      ((first | (go_at_call 17; refine ((H13.out.kept (by repeat (first | with_reducible exact G5 | with_reducible refine gbDrew ?_ | with_reducible refine gbAllocN ?_ _))).get 0 2 _ _ _ _ _ _ _ (i64s _ (by decide) (by decide)) Wk.x5 Wk.y5).mono ?_; rintro _ u6 ⟨rfl, g6⟩; have hc6 := gcell g6; have hf6 := gfroz g6; (try (have ZB : Box u6 u5.heap.size C.zero := (by with_reducible exact (Box.made u5 C.zero).kept g6); obtain ⟨zz0, zz1, zz2, zz3, zz4, zz5, _, zf⟩ := ZB; have ff0 := zf 0; have ff1 := zf 1; have ff2 := zf 2; have ff3 := zf 3; have ff4 := zf 4; have ff5 := zf 5)); (try (have ZB : Box u6 a13.heap.size C.zero := (by with_reducible exact (((Box.made a13 C.zero).kept (gbDrew (gbRefl _ none))).kept g5).kept g6); obtain ⟨zz0, zz1, zz2, zz3, zz4, zz5, _, zf⟩ := ZB; have ff0 := zf 0; have ff1 := zf 1; have ff2 := zf 2; have ff3 := zf 3; have ff4 := zf 4; have ff5 := zf 5)); have G6 : a13.grownBy u6 none := (by first | exact gbTrans G5 g6 | exact gbTrans (gbAllocN G5 _) g6)) | (go_at_call 20; refine (slot_is 2 _).mono ?_; rintro _ u5 ⟨rfl, g5⟩; have hc5 := gcell g5; have hf5 := gfroz g5; have G5 : a13.grownBy u5 none := (by first | exact gbTrans (gbDrewN a13 1 none) g5 | exact gbTrans (gbDrew (gbAllocN (gbRefl a13 none) _)) g5)) | fail))
    all_goals (
      rename_i hold
      clear hold T0
      first
      | (obtain ⟨W6, hW6, Z6, g7⟩ := boxNew u6 ⟨4, 4, 1, 7, 0, 0⟩
         simp only at hW6
         rw [hW6]
         go_wp2
         go_meet
         exact ⟨_, rfl, rfl, Z6, G6.size, gbTrans G6 g7⟩)
      | (have Z0 : Box u6 u5.heap.size C.zero := (Box.made u5 C.zero).kept g6
         obtain ⟨W6, hW6, Z6, g7⟩ := Z0.put ⟨4, 4, 1, 7, 0, 0⟩
         simp only at hW6
         rw [hW6]
         go_wp2
         go_meet
         exact ⟨_, rfl, rfl, Z6, G5.size, gbNew (gbTrans (gbAny G6 _) g7) G5.size⟩)
      | (have Z0 : Box u6 a13.heap.size C.zero := (((Box.made a13 C.zero).kept (gbDrew (gbRefl _ none))).kept g5).kept g6
         obtain ⟨W6, hW6, Z6, g7⟩ := Z0.put ⟨4, 4, 1, 7, 0, 0⟩
         simp only at hW6
         rw [hW6]
         go_wp2
         go_meet
         exact ⟨_, rfl, rfl, Z6, Nat.le_refl _, gbNew (gbTrans (gbAny G6 _) g7) (Nat.le_refl _)⟩))
  case rest =>
    obtain ⟨Z9, rfl, rfl, HZ9, hZ9, G9⟩ := hcut
    have HN := hideIt (H13.out.kept (gbTrans G9.out (gbDrewN wc 1 none)))
    have LK := hideIt (L13.out.kept (gbTrans G9.out (gbDrewN wc 1 none)))
    have BX : Hid (BB (wc.drewN 1) _ Z9 ⟨4, 4, 1, 7, 0, 0⟩) := ⟨HZ9.out.kept (gbDrewN wc 1 none), fun e => absurd (H13.out.lo Z9 e).2 (Nat.not_lt.2 hZ9.out)⟩
    clear H13 L13 HZ9 hZ9 G9
    go_upto_region 10 with fail
    dsimp only [List.append]
    have T : Sx wc.drew p t Z9 ⟨4, 4, 1, 7, 0, 0⟩ := ⟨HN.out.c1, BX.out.bx.tup⟩
    go_region_held3 (fun w' => Sx w' p t Z9 ⟨4, 4, 1, 7, 0, 0⟩)
      (first | with_reducible exact T | (focus (refine Sx.kept T ?_; (repeat (first | with_reducible refine gbAllocN ?_ _ | with_reducible exact gbRefl _ _)); done)) | fail)
      ((first
        | (go_at_call 20; refine (slot_is _ _).mono ?_; rintro _ y ⟨rfl, g⟩; replace HN := hideIt (HN.out.kept g); replace LK := hideIt (LK.out.kept g); replace BX := hideIt (BX.out.kept g); replace T : Sx y p t Z9 ⟨4, 4, 1, 7, 0, 0⟩ := ⟨HN.out.c1, BX.out.bx.tup⟩; clear g)
        | (go_at_call 21; refine (T9.same_is LK2.out.ls LK.out.ls (by decide)).mono ?_; rintro _ y ⟨rfl, g⟩; replace HN := hideIt (HN.out.kept g); replace LK := hideIt (LK.out.kept g); replace BX := hideIt (BX.out.kept g); replace T : Sx y p t Z9 ⟨4, 4, 1, 7, 0, 0⟩ := ⟨HN.out.c1, BX.out.bx.tup⟩; clear g LK2)
        | (go_at_call 21; refine (T9.same_is (LK.out.ls.kept (gbAlloc _ _ none)) (lit12 _) (by decide)).mono ?_; rintro _ y ⟨rfl, g⟩; replace g := gbTrans (gbAlloc _ _ none) g; replace HN := hideIt (HN.out.kept g); replace LK := hideIt (LK.out.kept g); replace BX := hideIt (BX.out.kept g); replace T : Sx y p t Z9 ⟨4, 4, 1, 7, 0, 0⟩ := ⟨HN.out.c1, BX.out.bx.tup⟩; clear g)
        | (go_at_call 18; refine (HN.out.kin 0 3 (i64s _ (by decide) (by decide)) (i64s _ (by decide) (by decide)) Wk.l5).mono ?_; rintro _ y ⟨vk2, rfl, lk, g⟩; have LK2 := hideIt (LB.new HN.out lk); rw [Wk.k5] at LK2; replace HN := hideIt (HN.out.kept g); replace LK := hideIt (LK.out.kept g); replace BX := hideIt (BX.out.kept g); replace T : Sx y p t Z9 ⟨4, 4, 1, 7, 0, 0⟩ := ⟨HN.out.c1, BX.out.bx.tup⟩; clear g lk)
        | (go_at_call 11; with_reducible refine (HN.out.copy Wk.I5 0 0 0 4 7 3 (i64s _ (by decide) (by decide)) (i64s _ (by decide) (by decide)) (i64s _ (by decide) (by decide)) (i64s _ (by decide) (by decide)) Wk.l5 Wk.e6).mono ?_; rintro _ y ⟨rfl, A, F⟩; rw [Wk.n6.1, Wk.n6.2] at A; replace LK := hideIt (LK.out.call F); replace BX := hideIt (BX.out.call F); replace HN := hideIt A; replace T : Sx y p t Z9 ⟨4, 4, 1, 7, 0, 0⟩ := ⟨HN.out.c1, BX.out.bx.tup⟩; clear A F)
        | (go_at_call 11; with_reducible refine (HN.out.copy Wk.I5 0 1 0 2 7 4 (i64s _ (by decide) (by decide)) (i64s _ (by decide) (by decide)) (i64s _ (by decide) (by decide)) (i64s _ (by decide) (by decide)) Wk.l5 Wk.e7).mono ?_; rintro _ y ⟨rfl, A, F⟩; rw [Wk.n7.1, Wk.n7.2] at A; replace LK := hideIt (LK.out.call F); replace BX := hideIt (BX.out.call F); replace HN := hideIt A; replace T : Sx y p t Z9 ⟨4, 4, 1, 7, 0, 0⟩ := ⟨HN.out.c1, BX.out.bx.tup⟩; clear A F)
        | (go_at_call 14; refine (HN.out.rotate Wk.I5 0 1 0 1 0 2 10 (i64s _ (by decide) (by decide)) (i64s _ (by decide) (by decide)) (i64s _ (by decide) (by decide)) (i64s _ (by decide) (by decide)) (i64s _ (by decide) (by decide)) (i64s _ (by decide) (by decide)) Wk.l5 Wk.e8).mono ?_; rintro _ y ⟨rfl, A, F⟩; replace BX := hideIt (BX.out.call F); have HZ := hideIt A.gr; replace T : Sx y p t Z9 ⟨4, 4, 1, 7, 0, 0⟩ := ⟨A.c1, BX.out.bx.tup⟩; clear A F)
        | fail))
    go_wp2
    go_ret
    exact ⟨rfl, HZ.out⟩
end Go.Proofs.Ytkpcdfiebjigbaa
