/-
  THE CONTRACT of donjonlaw11's works: true, whatever the world (written by mkworks.py).
-/
import Derived.Test.YtpfjcfgbecoccaaWqs
namespace Go.Proofs.Ytpfjcfgbecoccaa
set_option maxRecDepth 10000
open Go.RowKit
set_option linter.unusedVariables false

theorem lit1 (w : World) (c : C) : TL (w.alloc (.cells (sixCells c) 36)) 0 (.slice (some ⟨w.heap.size, 0, none⟩) 1 1) [c] :=
  World.ownsRow_lit (base := 0) (e := 36) (size := 6) w (sixCells c) 1 (Nat.zero_le _) (by unfold maxLen; omega) rfl

set_option maxHeartbeats 8000000 in
theorem works_is (w : World) : Calls Try.prog 8 #[] w fun e w' => e = .returned (.bool true) ∧ w.grownBy w' none := by
  go_enter Try.func8, Try.ntmps8
  go_wp2_with fail
  refine (newCaps (gbRefl w none)).mono ?_
  rintro _ a0 ⟨p, s, t, rfl, A, _⟩
  have H0 := hideIt A
  clear A
  go_wp2_with fail
  refine (H0.out.nodeA 0 3 0 (i64s _ (by decide) (by decide)) (by decide) Wk.e1).mono ?_
  rintro _ a1 ⟨rfl, A, _⟩
  have H1 : Hid (Cs w a1 _ p s t 1 Wk.S1 .nil) := A
  clear A H0
  go_upto_region 5 with fail
  obtain ⟨a2, ha2, B0, g2⟩ := boxNew a1 Wq.c0
  have ha2' : a1.alloc (.cells #[.int .i64 6, .int .i64 9, .int .i64 3, .int .u64 0, .int .u64 0, .int .i64 0] 36) = a2 := ha2
  rw [ha2']
  clear ha2 ha2'
  have H2 := hideIt (H1.out.kept g2)
  have B2 : Hid (BB a2 _ a1.heap.size Wq.c0) := ⟨B0, fun e => absurd (H1.out.lo _ e).2 (Nat.lt_irrefl _)⟩
  obtain ⟨Z, hZ⟩ : ∃ Z, a1.heap.size = Z := ⟨_, rfl⟩
  rw [hZ] at B2 ⊢
  clear hZ B0 g2 H1
  have HN := hideIt (H2.out.kept (gbDrewN a2 1 none))
  have BX := hideIt (B2.out.kept (gbDrewN a2 1 none))
  have T0 : Six a2.drew Z Wq.c0 := BX.out.bx.tup
  go_region_held3 (fun w' => Six w' Z Wq.c0)
    (first | with_reducible exact T0 | with_reducible exact T1 | with_reducible exact T2 | fail)
    ((first | (go_at_call 20; refine (HN.out.plant Wk.I1 0 0 6 9 3 0 0 0 0 (i64s _ (by decide) (by decide)) (i64s _ (by decide) (by decide)) (by decide) (by decide) Wk.l1 Wq.e2).mono ?_; rintro _ a3 ⟨rfl, A, F⟩; have BX3 := hideIt (BX.out.call F); have T2 : Six a3 Z Wq.c0 := BX3.out.bx.tup; have H3 : Hid (Cs w a3 _ p s t 1 Wq.S2 Wq.f2) := A) | (go_at_call 22; refine (slot_is 0 _).mono ?_; rintro _ y ⟨rfl, g⟩; replace HN := hideIt (HN.out.kept g); replace BX := hideIt (BX.out.kept g); have T1 : Six y Z Wq.c0 := BX.out.bx.tup; clear g) | fail))
  rename_i hold
  clear hold T0 T1 T2 A F HN BX H2 B2
  go_wp2_with fail
  refine (slot_is 0 _).mono ?_
  rintro _ a4 ⟨rfl, g⟩
  have H4 := hideIt (H3.out.kept g)
  have BX4 := hideIt (BX3.out.kept g)
  clear H3 g BX3
  go_wp2_with fail
  refine (slot_is 1 _).mono ?_
  rintro _ a5 ⟨rfl, g⟩
  have H5 := hideIt (H4.out.kept g)
  have BX5 := hideIt (BX4.out.kept g)
  clear H4 g BX4
  go_wp2_with fail
  refine (H5.out.copy Wq.I2 0 0 0 1 3 0 (i64s _ (by decide) (by decide)) (i64s _ (by decide) (by decide)) (i64s _ (by decide) (by decide)) (i64s _ (by decide) (by decide)) Wq.l2 Wq.e3).mono ?_
  rintro _ a6 ⟨rfl, A, F⟩
  have H6 : Hid (Cs w a6 _ p s t 1 Wq.S3 Wq.f3) := A
  have BX6 := hideIt (BX5.out.call F)
  clear H5 A F BX5
  go_wp2_with fail
  refine (slot_is 1 _).mono ?_
  rintro _ a7 ⟨rfl, g⟩
  have H7 := hideIt (H6.out.kept g)
  have BX7 := hideIt (BX6.out.kept g)
  clear H6 g BX6
  go_wp2_with fail
  refine (slot_is 2 _).mono ?_
  rintro _ a8 ⟨rfl, g⟩
  have H8 := hideIt (H7.out.kept g)
  have BX8 := hideIt (BX7.out.kept g)
  clear H7 g BX7
  go_wp2_with fail
  refine (H8.out.copy Wq.I3 0 1 0 2 1 0 (i64s _ (by decide) (by decide)) (i64s _ (by decide) (by decide)) (i64s _ (by decide) (by decide)) (i64s _ (by decide) (by decide)) Wq.l3 Wq.e4).mono ?_
  rintro _ a9 ⟨rfl, A, F⟩
  have H9 : Hid (Cs w a9 _ p s t 1 Wq.S4 Wq.f4) := A
  have BX9 := hideIt (BX8.out.call F)
  clear H8 A F BX8
  go_wp2_with fail
  refine (slot_is 0 _).mono ?_
  rintro _ a10 ⟨rfl, g⟩
  have H10 := hideIt (H9.out.kept g)
  have BX10 := hideIt (BX9.out.kept g)
  clear H9 g BX9
  go_wp2_with fail
  refine (H10.out.final 0 0 false (i64s _ (by decide) (by decide)) Wq.n4 _ (gbRefl _ none)).mono ?_
  rintro _ a11 ⟨rfl, g⟩
  have H11 := hideIt (H10.out.kept g)
  have BX11 := hideIt (BX10.out.kept g)
  clear H10 g BX10
  go_wp2_with fail
  refine (slot_is 0 _).mono ?_
  rintro _ a12 ⟨rfl, g⟩
  have H12 := hideIt (H11.out.kept g)
  have BX12 := hideIt (BX11.out.kept g)
  clear H11 g BX11
  have ok5 := hideIt (M.revR_kp Wq.I4 H12.out.gs H12.out.gt (0, 0) 1)
  change Hid (M.Kp _ Wq.X5) at ok5
  go_wp2_with fail
  refine (H12.out.revoke_yes Wq.I4 0 0 1 (i64s _ (by decide) (by decide)) (i64s _ (by decide) (by decide)) Wq.l4 Wq.r5 true Wq.X5 Wq.h5).mono ?_
  rintro _ a13 ⟨t5, O13, rfl, A, hs, F, tl, hn⟩
  have H13 : Hid (Cs w a13 O13 p s t 1 Wq.X5.S Wq.X5.f) := A
  have HT13 : Hid (CB a13 O13 t5 Wq.X5.T) := ⟨tl.base (fun _ _ => Nat.zero_le _), hn⟩
  have BX13 := hideIt (BX12.out.call' F hs)
  clear H12 A F hs tl hn BX12
  go_wp2_with fail
  refine (slot_is 0 _).mono ?_
  rintro _ a14 ⟨rfl, g⟩
  have H14 := hideIt (H13.out.kept g)
  have BX14 := hideIt (BX13.out.kept g)
  clear H13 g BX13
  have ok6 := hideIt (M.revR_kp ok5.out.ok.i H14.out.gs H14.out.gt (0, 0) 1)
  change Hid (M.Kp _ Wq.X6) at ok6
  go_wp2_with fail
  refine (H14.out.revoke_yes ok5.out.ok.i 0 0 1 (i64s _ (by decide) (by decide)) (i64s _ (by decide) (by decide)) Wq.l5 Wq.r6 false Wq.X6 Wq.h6).mono ?_
  rintro _ a15 ⟨t6, O15, rfl, A, hs, F, tl, hn⟩
  have H15 : Hid (Cs w a15 O15 p s t 1 Wq.X6.S Wq.X6.f) := A
  have HT15 : Hid (CB a15 O15 t6 Wq.X6.T) := ⟨tl.base (fun _ _ => Nat.zero_le _), hn⟩
  have BX15 := hideIt (BX14.out.call' F hs)
  clear H14 A F hs tl hn BX14
  go_wp2_with fail
  refine (slot_is 0 _).mono ?_
  rintro _ a16 ⟨rfl, g⟩
  have H16 := hideIt (H15.out.kept g)
  have BX16 := hideIt (BX15.out.kept g)
  clear H15 g BX15
  go_wp2_with fail
  refine (H16.out.final 0 0 true (i64s _ (by decide) (by decide)) Wq.n6 _ (gbRefl _ none)).mono ?_
  rintro _ a17 ⟨rfl, g⟩
  have H17 := hideIt (H16.out.kept g)
  have BX17 := hideIt (BX16.out.kept g)
  clear H16 g BX16
  go_wp2_with fail
  refine (slot_is 0 _).mono ?_
  rintro _ a18 ⟨rfl, g⟩
  have H18 := hideIt (H17.out.kept g)
  have BX18 := hideIt (BX17.out.kept g)
  clear H17 g BX17
  go_wp2_with fail
  refine (H18.out.delete_yes ok6.out.ok.i 0 0 9 (i64s _ (by decide) (by decide)) (i64s _ (by decide) (by decide)) Wq.l6 Wq.r7 false Wq.X7 Wq.h7).mono ?_
  rintro _ a19 ⟨t7, O19, rfl, A, hs, F, tl, hn⟩
  have H19 : Hid (Cs w a19 O19 p s t 1 Wq.X7.S Wq.X7.f) := A
  have HT19 : Hid (CB a19 O19 t7 Wq.X7.T) := ⟨tl.base (fun _ _ => Nat.zero_le _), hn⟩
  have BX19 := hideIt (BX18.out.call' F hs)
  clear H18 A F hs tl hn BX18
  have z0 := BX19.out.bx.at0
  have z1 := BX19.out.bx.at1
  have z2 := BX19.out.bx.at2
  have z3 := BX19.out.bx.at3
  have z4 := BX19.out.bx.at4
  have z5 := BX19.out.bx.at5
  simp only [Wq.c0] at z0 z1 z2 z3 z4 z5
  have gA := gbAlloc a19 (.cells (sixCells Wq.c0) 36) none
  go_wp2_with fail
  have hT := HT19.out.tl.kept gA
  rw [Wq.t7] at hT
  refine (samec_is hT (lit1 a19 Wq.c0) (by decide)).mono ?_
  rintro _ b1 ⟨rfl, g⟩
  have HB := hideIt (H19.out.kept (gbTrans gA g))
  clear hT g gA z0 z1 z2 z3 z4 z5 H19
  have c0 := HB.out.c0
  go_wp2_with fail
  refine (HB.out.full).mono ?_
  rintro _ b2 ⟨vf, rfl, lf, g⟩
  have HC := hideIt (HB.out.kept g)
  rw [Wq.u7] at lf
  obtain ⟨xo, cap, rfl⟩ : ∃ xo cap, vf = .slice xo 0 cap := by
    rcases lf.form with ⟨rfl, _⟩ | ⟨g, cap, rfl, _⟩
    · exact ⟨_, _, rfl⟩
    · exact ⟨_, _, rfl⟩
  go_wp2
  go_ret
  exact ⟨rfl, HC.out.gr⟩
end Go.Proofs.Ytpfjcfgbecoccaa
