/- MovesBack holds for every input: works, and then, with two capabilities that can be planted, what is moved, and moved back, is as it was with its kin, and so it is rotated among three slots. No condition. -/
import Derived.Test.YtkpcdfiebjigbaaWks
import Derived.Test.YtkpcdfiebjigbaaBack
import Derived.Deep.Cut
import Derived.Deep.CutRange
import Derived.Deep.DeepCutAuto
import Derived.Deep.CutBlock
import Derived.Deep.RegionHeld3
import Derived.Test.YtkpcdfiebjigbaaArgs
import Derived.ProofKit
import Derived.OpenShut
import Derived.ShutString
import Derived.ChangeOld
import Derived.Below
import Derived.Deep.Slices
namespace Go.Proofs.Ytkpcdfiebjigbaa.movesBack
open Go.ChangeShapes Go.WideShapes Go.ChangeAt Go.RowKit
set_option linter.unusedVariables false

theorem own : ownKnob Try.prog.godebug = none := by kernel_rfl
theorem laidOut : laidOutB Try.prog = true := by kernel_rfl

theorem twoCaps (w : World) (c d : C) : ∃ W, (w.alloc (.cells #[.int .i64 c.k, .int .i64 c.o, .int .i64 c.r, .int .u64 c.b, .int .u64 c.g, .int .i64 c.n] 32)).alloc (.cells #[.int .i64 d.k, .int .i64 d.o, .int .i64 d.r, .int .u64 d.b, .int .u64 d.g, .int .i64 d.n] 32) = W ∧ Box W w.heap.size c ∧ Box W (w.heap.size + 1) d ∧ w.grownBy W none := by
  obtain ⟨W, hW, X, g⟩ := boxNew (w.alloc (.cells #[.int .i64 c.k, .int .i64 c.o, .int .i64 c.r, .int .u64 c.b, .int .u64 c.g, .int .i64 c.n] 32)) d
  rw [Deep.nblk_alloc] at X
  exact ⟨W, hW, (Box.made w c).kept g, X, gbTrans (gbAlloc _ _ _) g⟩
abbrev R2 (w : World) (X Y : Nat) (c d : C) : Prop := Six w X c ∧ Six w Y d
theorem Six.kept {w w' : World} {x : Nat} {c : C} (h : Six w x c) (g : w.grownBy w' none) : Six w' x c := by
  obtain ⟨z0, z1, z2, z3, z4, z5⟩ := h
  exact ⟨g.cell z0 (by simp), g.cell z1 (by simp), g.cell z2 (by simp), g.cell z3 (by simp), g.cell z4 (by simp), g.cell z5 (by simp)⟩
abbrev R3 (w : World) (p t X Y : Nat) (c d : C) : Prop := Ptr w p 1 t ∧ Six w X c ∧ Six w Y d
theorem R3.kept {w w' : World} {p t X Y : Nat} {c d : C} (h : R3 w p t X Y c d) (g : w.grownBy w' none) : R3 w' p t X Y c d := ⟨g.cell h.1 (by simp), Six.kept h.2.1 g, Six.kept h.2.2 g⟩
abbrev R5 (w : World) (p t X Y Z V : Nat) (c d e f : C) : Prop := Ptr w p 1 t ∧ Six w X c ∧ Six w Y d ∧ Six w Z e ∧ Six w V f
theorem R5.kept {w w' : World} {p t X Y Z V : Nat} {c d e f : C} (h : R5 w p t X Y Z V c d e f) (g : w.grownBy w' none) : R5 w' p t X Y Z V c d e f := ⟨g.cell h.1 (by simp), Six.kept h.2.1 g, Six.kept h.2.2.1 g, Six.kept h.2.2.2.1 g, Six.kept h.2.2.2.2 g⟩
abbrev R6 (w : World) (p t X Y Z V U : Nat) (c d e f h : C) : Prop := Ptr w p 1 t ∧ Six w X c ∧ Six w Y d ∧ Six w Z e ∧ Six w V f ∧ Six w U h
theorem R6.kept {w w' : World} {p t X Y Z V U : Nat} {c d e f h : C} (k : R6 w p t X Y Z V U c d e f h) (g : w.grownBy w' none) : R6 w' p t X Y Z V U c d e f h := ⟨g.cell k.1 (by simp), Six.kept k.2.1 g, Six.kept k.2.2.1 g, Six.kept k.2.2.2.1 g, Six.kept k.2.2.2.2.1 g, Six.kept k.2.2.2.2.2 g⟩
theorem lbKeep {wc wd : World} {Oc : Nat → Prop} {v : Value} {L : List (Int × Int)} {y : Nat} (h : LB wc Oc v L) (g : wc.grownBy wd (some y)) (hy : ∀ k, v.ownBlock = some k → k ≠ y) : LB wd Oc v L :=
  ⟨h.ls.fr (Fr.at (O := fun i => i = y) g rfl) (fun k hk e => hy k hk e), h.no⟩
theorem Ptr.keep {w w' : World} {p j q y : Nat} (h : Ptr w p j q) (g : w.grownBy w' (some y)) (hp : p ≠ y) : Ptr w' p j q := g.cell h (by simpa using hp)

set_option maxRecDepth 10000 in
set_option maxHeartbeats 8000000 in
theorem walk (K0 O0 R0 B0 G0 N0 : Int) (io0 : I64 O0) (ub0 : 0 ≤ B0) (ug0 : 0 ≤ G0) (K1 O1 R1 B1 G1 N1 : Int) (io1 : I64 O1) (ub1 : 0 ≤ B1) (ug1 : 0 ≤ G1) (a2 : Int) (w : World) :
    Calls Try.prog 4 #[cv ⟨K0, O0, R0, B0, G0, N0⟩, cv ⟨K1, O1, R1, B1, G1, N1⟩, .int .i64 a2] w fun e w' => e = .returned (.bool true) ∧ Below w.heap.size w w' := by
  have qn := run_neq_cap
  have qe := run_eql_cap
  have qg := eqGuardCap
  go_enter Try.func4, Try.ntmps4
  go_upto_region 1 with fail
  obtain ⟨W0, hW0, X0, X1, g0⟩ := twoCaps w ⟨K0, O0, R0, B0, G0, N0⟩ ⟨K1, O1, R1, B1, G1, N1⟩
  simp only at hW0
  rw [hW0]
  clear hW0
  go_wp2_with fail
  refine (works_is _).mono ?_
  rintro _ w1 ⟨rfl, g1⟩
  go_wp2_with fail
  refine (newCaps (gbTrans g0 g1)).mono ?_
  rintro _ w2 ⟨p, s, t, rfl, A, g2⟩
  have H2 := hideIt A
  have HX2 : Hid (BB w2 (fun i => w1.heap.size ≤ i ∧ i < w2.heap.size) w.heap.size ⟨K0, O0, R0, B0, G0, N0⟩) := ⟨X0.kept (gbTrans g1 g2), fun e => absurd e.1 (Nat.not_le.2 (Nat.lt_of_lt_of_le X0.lt g1.size))⟩
  have HY2 : Hid (BB w2 (fun i => w1.heap.size ≤ i ∧ i < w2.heap.size) (w.heap.size + 1) ⟨K1, O1, R1, B1, G1, N1⟩) := ⟨X1.kept (gbTrans g1 g2), fun e => absurd e.1 (Nat.not_le.2 (Nat.lt_of_lt_of_le X1.lt g1.size))⟩
  clear A g0 g1 g2 X0 X1
  go_wp2_with fail
  refine (H2.out.nodeA 0 3 0 (i64s _ (by decide) (by decide)) (by decide) Wk.e1).mono ?_
  rintro _ w3 ⟨rfl, A, F⟩
  have H3 : Hid (Cs w w3 _ p s t 1 Wk.S1 .nil) := A
  have HX3 := hideIt (HX2.out.call F)
  have HY3 := hideIt (HY2.out.call F)
  clear A F H2 HX2 HY2
  obtain ⟨e1, he1⟩ : ∃ e, M.plaE Wk.S1 (0, 0) ⟨K0, O0, R0, B0, G0, N0⟩ = e := ⟨_, rfl⟩
  obtain ⟨e2, he2⟩ : ∃ e, M.plaE (M.plaS Wk.S1 (0, 0) ⟨K0, O0, R0, B0, G0, N0⟩) (0, 1) ⟨K1, O1, R1, B1, G1, N1⟩ = e := ⟨_, rfl⟩
  have I2 : Hid (M.Inv (M.plaS Wk.S1 (0, 0) ⟨K0, O0, R0, B0, G0, N0⟩) (M.plaF Wk.S1 .nil (0, 0) ⟨K0, O0, R0, B0, G0, N0⟩)) := Wk.I1.pla (0, 0) ub0 ug0
  have I3 : Hid (M.Inv (M.plaS (M.plaS Wk.S1 (0, 0) ⟨K0, O0, R0, B0, G0, N0⟩) (0, 1) ⟨K1, O1, R1, B1, G1, N1⟩) (M.plaF (M.plaS Wk.S1 (0, 0) ⟨K0, O0, R0, B0, G0, N0⟩) (M.plaF Wk.S1 .nil (0, 0) ⟨K0, O0, R0, B0, G0, N0⟩) (0, 1) ⟨K1, O1, R1, B1, G1, N1⟩)) := I2.out.pla (0, 1) ub1 ug1
  have l2 : Hid ((M.plaF Wk.S1 .nil (0, 0) ⟨K0, O0, R0, B0, G0, N0⟩).len ≤ 1000) := Nat.le_trans (M.len_pla Wk.S1 .nil (0, 0) _) (by decide)
  have l3 : Hid ((M.plaF (M.plaS Wk.S1 (0, 0) ⟨K0, O0, R0, B0, G0, N0⟩) (M.plaF Wk.S1 .nil (0, 0) ⟨K0, O0, R0, B0, G0, N0⟩) (0, 1) ⟨K1, O1, R1, B1, G1, N1⟩).len ≤ 1000) := Nat.le_trans (M.len_pla _ _ (0, 1) _) (Nat.le_trans (Nat.succ_le_succ (M.len_pla Wk.S1 .nil (0, 0) _)) (by decide))
  have HE1 := hideIt he1
  have HE2 := hideIt he2
  clear he1 he2
  go_upto_region 5 with fail
  have HN := hideIt (H3.out.kept (gbDrewN w3 1 none))
  have HX := hideIt (HX3.out.kept (gbDrewN w3 1 none))
  have HY := hideIt (HY3.out.kept (gbDrewN w3 1 none))
  have T : R2 w3.drew w.heap.size (w.heap.size + 1) ⟨K0, O0, R0, B0, G0, N0⟩ ⟨K1, O1, R1, B1, G1, N1⟩ := ⟨HX.out.bx.tup, HY.out.bx.tup⟩
  obtain ⟨v1, hv1⟩ : ∃ v, (e1 != 0) = v := ⟨_, rfl⟩
  obtain ⟨v2, hv2⟩ : ∃ v, (e2 != 0) = v := ⟨_, rfl⟩
  cases v1
  · have z1 : e1 = 0 := by simpa using hv1
    subst z1
    go_region_held3 (fun w' => R2 w' w.heap.size (w.heap.size + 1) ⟨K0, O0, R0, B0, G0, N0⟩ ⟨K1, O1, R1, B1, G1, N1⟩)
      (first | with_reducible exact T | fail)
      ((first | (go_at_call 20; refine (slot_is _ _).mono ?_; rintro _ y ⟨rfl, g⟩; replace HN := hideIt (HN.out.kept g); replace HX := hideIt (HX.out.kept g); replace HY := hideIt (HY.out.kept g); replace T : R2 y w.heap.size (w.heap.size + 1) ⟨K0, O0, R0, B0, G0, N0⟩ ⟨K1, O1, R1, B1, G1, N1⟩ := ⟨HX.out.bx.tup, HY.out.bx.tup⟩; clear g) | (go_at_call 10; with_reducible refine (HN.out.plant Wk.I1 0 0 K0 O0 R0 B0 G0 N0 _ (i64s _ (by decide) (by decide)) (i64s _ (by decide) (by decide)) ub0 ug0 Wk.l1 HE1.out).mono ?_; rintro _ y ⟨rfl, A, F⟩; replace HX := hideIt (HX.out.call F); replace HY := hideIt (HY.out.call F); replace HN := hideIt A; replace T : R2 y w.heap.size (w.heap.size + 1) ⟨K0, O0, R0, B0, G0, N0⟩ ⟨K1, O1, R1, B1, G1, N1⟩ := ⟨HX.out.bx.tup, HY.out.bx.tup⟩; clear A F) | (go_at_call 10; with_reducible refine (HN.out.plant I2.out 0 1 K1 O1 R1 B1 G1 N1 _ (i64s _ (by decide) (by decide)) (i64s _ (by decide) (by decide)) ub1 ug1 l2.out HE2.out).mono ?_; rintro _ y ⟨rfl, A, F⟩; replace HX := hideIt (HX.out.call F); replace HY := hideIt (HY.out.call F); replace HN := hideIt A; replace T : R2 y w.heap.size (w.heap.size + 1) ⟨K0, O0, R0, B0, G0, N0⟩ ⟨K1, O1, R1, B1, G1, N1⟩ := ⟨HX.out.bx.tup, HY.out.bx.tup⟩; clear A F) | fail))
    rename_i hold
    clear hold T
    cases v2
    · have z2 : e2 = 0 := by simpa using hv2
      subst z2
      have hgs3 := hideIt HN.out.gs
      obtain ⟨BK, hxk, hyk, HT⟩ := M.bk_start a2 HE1.out HE2.out I3.out
      obtain ⟨S3, hS3⟩ : ∃ S, M.plaS (M.plaS Wk.S1 (0, 0) ⟨K0, O0, R0, B0, G0, N0⟩) (0, 1) ⟨K1, O1, R1, B1, G1, N1⟩ = S := ⟨_, rfl⟩
      obtain ⟨f3, hf3⟩ : ∃ f, M.plaF (M.plaS Wk.S1 (0, 0) ⟨K0, O0, R0, B0, G0, N0⟩) (M.plaF Wk.S1 .nil (0, 0) ⟨K0, O0, R0, B0, G0, N0⟩) (0, 1) ⟨K1, O1, R1, B1, G1, N1⟩ = f := ⟨_, rfl⟩
      rw [hS3] at HN I3 BK HT
      rw [hf3] at HN I3 l3 HT
      clear hS3 hf3 HE1 HE2 I2 l2 hv1 hv2 hgs3
      have HBK := hideIt BK
      have HTT := hideIt HT
      clear BK HT
      go_wp2_with fail
      refine (slot_is 0 _).mono ?_
      rintro _ m1 ⟨rfl, g⟩
      replace HN := hideIt (HN.out.kept g)
      replace HX := hideIt (HX.out.kept g)
      replace HY := hideIt (HY.out.kept g)
      clear g
      go_wp2_with fail
      refine (slot_is 2 _).mono ?_
      rintro _ m2 ⟨rfl, g⟩
      replace HN := hideIt (HN.out.kept g)
      replace HX := hideIt (HX.out.kept g)
      replace HY := hideIt (HY.out.kept g)
      clear g
      go_wp2_with fail
      refine (HN.out.copy I3.out 0 0 0 2 a2 _ (i64s _ (by decide) (by decide)) (i64s _ (by decide) (by decide)) (i64s _ (by decide) (by decide)) (i64s _ (by decide) (by decide)) l3.out rfl).mono ?_
      rintro _ m3 ⟨rfl, A, F⟩
      replace HX := hideIt (HX.out.call F)
      replace HY := hideIt (HY.out.call F)
      replace HN := hideIt A
      clear A F
      have I4 := hideIt (I3.out.cop (0, 0) (0, 2) a2)
      obtain ⟨S4, hS4⟩ : ∃ S, M.copS S3 (0, 0) (0, 2) a2 = S := ⟨_, rfl⟩
      obtain ⟨f4, hf4⟩ : ∃ f, M.copF S3 f3 (0, 0) (0, 2) a2 = f := ⟨_, rfl⟩
      rw [hS4] at HN I4 HBK
      rw [hf4] at HN I4 HTT
      clear hS4 hf4 I3 l3
      have HKS := hideIt (M.kins HTT.out)
      go_upto_region 8 with fail
      have T0 : Ptr m3.drew p 1 t := (HN.out.kept (gbDrewN m3 1 none)).c1
      go_region_held3 (fun w' => Ptr w' p 1 t)
        (first | with_reducible exact T0 | with_reducible exact T2 | with_reducible exact T1 | fail)
        ((first | (go_at_call 18; refine ((HN.out.kept G5).kin 0 0 (i64s _ (by decide) (by decide)) (i64s _ (by decide) (by decide)) HKS.out.2.2.2.2.1).mono ?_; rintro _ mk ⟨vk, rfl, lk, g6⟩; have G6 := gbTrans G5 g6; have LK := hideIt (LB.new (HN.out.kept G5) lk); have T2 : Ptr mk p 1 t := (HN.out.kept G6).c1; clear lk g6) | (go_at_call 20; refine (slot_is 0 _).mono ?_; rintro _ mka ⟨rfl, g5⟩; have G5 : m3.grownBy mka none := gbTrans (gbDrewN m3 1 none) g5; have T1 : Ptr mka p 1 t := (HN.out.kept G5).c1; clear g5) | fail))
      rename_i hold
      clear hold T0 T1 T2 G5
      replace HN := hideIt (HN.out.kept G6)
      replace HX := hideIt (HX.out.kept G6)
      replace HY := hideIt (HY.out.kept G6)
      clear G6
      go_wp2_with fail
      refine (slot_is 0 _).mono ?_
      rintro _ m4 ⟨rfl, g⟩
      replace HN := hideIt (HN.out.kept g)
      replace HX := hideIt (HX.out.kept g)
      replace HY := hideIt (HY.out.kept g)
      replace LK := hideIt (LK.out.kept g)
      clear g
      go_wp2_with fail
      refine (slot_is 5 _).mono ?_
      rintro _ m5 ⟨rfl, g⟩
      replace HN := hideIt (HN.out.kept g)
      replace HX := hideIt (HX.out.kept g)
      replace HY := hideIt (HY.out.kept g)
      replace LK := hideIt (LK.out.kept g)
      clear g
      go_wp2_with fail
      refine (HN.out.moveA I4.out 0 0 0 5 0 (i64s _ (by decide) (by decide)) (i64s _ (by decide) (by decide)) (i64s _ (by decide) (by decide)) (i64s _ (by decide) (by decide)) HKS.out.2.2.2.2.1 (HBK.out.end_ hxk)).mono ?_
      rintro _ m6 ⟨rfl, A, F⟩
      replace HX := hideIt (HX.out.call F)
      replace HY := hideIt (HY.out.call F)
      replace LK := hideIt (LK.out.call F)
      replace HN := hideIt A
      clear A F
      have I5 := hideIt (I4.out.mov (0, 0) (0, 5))
      have hf5 : M.movF S4 f4 (0, 0) (0, 5) = M.g5 f4 := by unfold M.movF; rw [if_pos (HBK.out.end_ hxk)]; rfl
      rw [hf5] at HN I5
      clear hf5
      go_wp2_with fail
      refine (slot_is 5 _).mono ?_
      rintro _ m7 ⟨rfl, g⟩
      replace HN := hideIt (HN.out.kept g)
      replace HX := hideIt (HX.out.kept g)
      replace HY := hideIt (HY.out.kept g)
      replace LK := hideIt (LK.out.kept g)
      clear g
      go_wp2_with fail
      refine (slot_is 0 _).mono ?_
      rintro _ m8 ⟨rfl, g⟩
      replace HN := hideIt (HN.out.kept g)
      replace HX := hideIt (HX.out.kept g)
      replace HY := hideIt (HY.out.kept g)
      replace LK := hideIt (LK.out.kept g)
      clear g
      go_wp2_with fail
      refine (HN.out.moveA I5.out 0 5 0 0 0 (i64s _ (by decide) (by decide)) (i64s _ (by decide) (by decide)) (i64s _ (by decide) (by decide)) (i64s _ (by decide) (by decide)) HKS.out.2.2.2.2.2.1 (HBK.out.end6 hxk)).mono ?_
      rintro _ m9 ⟨rfl, A, F⟩
      replace HX := hideIt (HX.out.call F)
      replace HY := hideIt (HY.out.call F)
      replace LK := hideIt (LK.out.call F)
      replace HN := hideIt A
      clear A F
      have I6 := hideIt (I5.out.mov (0, 5) (0, 0))
      have hf6 : M.movF (M.movS S4 (0, 0) (0, 5)) (M.g5 f4) (0, 5) (0, 0) = M.g6 f4 := by unfold M.movF; rw [if_pos (HBK.out.end6 hxk)]; rfl
      have BK6 := hideIt (HBK.out.back hxk)
      rw [hf6] at HN I6
      obtain ⟨S6, hS6⟩ : ∃ S, M.movS (M.movS S4 (0, 0) (0, 5)) (0, 5) (0, 0) = S := ⟨_, rfl⟩
      rw [hS6] at HN I6 BK6
      clear hf6 hS6 I5 I4 HBK
      have x6 : Hid (M.getC S6 0 0 = ⟨K0, O0, R0, B0, G0, N0⟩) := BK6.out.x
      have y6 : Hid (M.getE S6 0 0 = 0) := M.getE_ok (BK6.out.th 0 (by decide) (by decide))
      go_upto_region 11 with fail
      go_cut [9, 10] from 57 to 65 (fun sz se wc => ∃ Z : Nat, sz = .pointer (some ⟨Z, 0, none⟩) ∧ se = .int .i64 0 ∧ Hid (Box wc Z ⟨K0, O0, R0, B0, G0, N0⟩) ∧ Hid (m9.heap.size ≤ Z) ∧ Hid (m9.grownBy wc none))
      case first =>
        have T0b : Ptr m9 p 0 s := HN.out.c0
        have T0 : Ptr m9.drew p 0 s := T0b.kept (gbDrewN m9 1 none)
        go_region_held3 (fun w' => Ptr w' p 0 s)
          (first | with_reducible exact T0 | (focus (refine Ptr.kept T0b ?_; (repeat (first | with_reducible exact G6 | with_reducible exact G5 | with_reducible exact gbRefl m9 none | with_reducible refine gbDrew ?_ | with_reducible refine gbAllocN ?_ _ | with_reducible refine gbSetNew ?_ _ _ _ (by with_reducible first | exact Nat.le_refl _ | exact G5.size | exact G6.size))); done)) | fail)
          ((first | (go_at_call 17; refine ((HN.out.kept (by repeat (first | with_reducible exact G5 | with_reducible refine gbDrew ?_ | with_reducible refine gbAllocN ?_ _))).get 0 0 _ _ _ _ _ _ _ (i64s _ (by decide) (by decide)) x6.out y6.out).mono ?_; rintro _ u6 ⟨rfl, g6⟩; have hc6 := gcell g6; have hf6 := gfroz g6; (try (have ZB : Box u6 u5.heap.size C.zero := (by with_reducible exact (Box.made u5 C.zero).kept g6); obtain ⟨zz0, zz1, zz2, zz3, zz4, zz5, _, zf⟩ := ZB; have ff0 := zf 0; have ff1 := zf 1; have ff2 := zf 2; have ff3 := zf 3; have ff4 := zf 4; have ff5 := zf 5)); (try (have ZB : Box u6 m9.heap.size C.zero := (by with_reducible exact (((Box.made m9 C.zero).kept (gbDrew (gbRefl _ none))).kept g5).kept g6); obtain ⟨zz0, zz1, zz2, zz3, zz4, zz5, _, zf⟩ := ZB; have ff0 := zf 0; have ff1 := zf 1; have ff2 := zf 2; have ff3 := zf 3; have ff4 := zf 4; have ff5 := zf 5)); have G6 : m9.grownBy u6 none := (by first | exact gbTrans G5 g6 | exact gbTrans (gbAllocN G5 _) g6)) | (go_at_call 20; refine (slot_is 0 _).mono ?_; rintro _ u5 ⟨rfl, g5⟩; have hc5 := gcell g5; have hf5 := gfroz g5; have G5 : m9.grownBy u5 none := (by first | exact gbTrans (gbDrewN m9 1 none) g5 | exact gbTrans (gbDrew (gbAllocN (gbRefl m9 none) _)) g5)) | fail))
        all_goals (
          rename_i hold
          clear hold T0
          first
          | (obtain ⟨W6, hW6, Z6, g7⟩ := boxNew u6 ⟨K0, O0, R0, B0, G0, N0⟩
             simp only at hW6
             rw [hW6]
             go_wp2
             go_meet
             exact ⟨_, rfl, rfl, Z6, G6.size, gbTrans G6 g7⟩)
          | (have Z0 : Box u6 u5.heap.size C.zero := (Box.made u5 C.zero).kept g6
             obtain ⟨W6, hW6, Z6, g7⟩ := Z0.put ⟨K0, O0, R0, B0, G0, N0⟩
             simp only at hW6
             rw [hW6]
             go_wp2
             go_meet
             exact ⟨_, rfl, rfl, Z6, G5.size, gbNew (gbTrans (gbAny G6 _) g7) G5.size⟩)
          | (have Z0 : Box u6 m9.heap.size C.zero := (((Box.made m9 C.zero).kept (gbDrew (gbRefl _ none))).kept g5).kept g6
             obtain ⟨W6, hW6, Z6, g7⟩ := Z0.put ⟨K0, O0, R0, B0, G0, N0⟩
             simp only at hW6
             rw [hW6]
             go_wp2
             go_meet
             exact ⟨_, rfl, rfl, Z6, Nat.le_refl _, gbNew (gbTrans (gbAny G6 _) g7) (Nat.le_refl _)⟩))
      case rest =>
      obtain ⟨Z9, rfl, rfl, HZ9, hZ9, G9⟩ := hcut
      obtain ⟨wA, hwA⟩ : ∃ wA, wA = wc := ⟨_, rfl⟩
      subst hwA
      have HZZ : Hid (BB wA _ Z9 ⟨K0, O0, R0, B0, G0, N0⟩) := ⟨HZ9.out, fun e => absurd (HN.out.lo _ e).2 (Nat.not_lt.2 hZ9.out)⟩
      replace HN := hideIt (HN.out.kept G9.out)
      replace HX := hideIt (HX.out.kept G9.out)
      replace HY := hideIt (HY.out.kept G9.out)
      replace LK := hideIt (LK.out.kept G9.out)
      clear HZ9 hZ9 G9 x6 y6
      go_upto_region 12 with fail
      have qx := M.eq_refl ⟨K0, O0, R0, B0, G0, N0⟩
      have qy := M.eq_refl ⟨K1, O1, R1, B1, G1, N1⟩
      replace HN := hideIt (HN.out.kept (gbDrewN wA 1 none))
      replace HX := hideIt (HX.out.kept (gbDrewN wA 1 none))
      replace HY := hideIt (HY.out.kept (gbDrewN wA 1 none))
      replace LK := hideIt (LK.out.kept (gbDrewN wA 1 none))
      replace HZZ := hideIt (HZZ.out.kept (gbDrewN wA 1 none))
      have T : R3 wA.drew p t Z9 w.heap.size ⟨K0, O0, R0, B0, G0, N0⟩ ⟨K0, O0, R0, B0, G0, N0⟩ := ⟨HN.out.c1, HZZ.out.bx.tup, HX.out.bx.tup⟩
      go_region_held3 (fun w' => R3 w' p t Z9 w.heap.size ⟨K0, O0, R0, B0, G0, N0⟩ ⟨K0, O0, R0, B0, G0, N0⟩)
        (first | with_reducible exact T | fail)
        ((first
          | (go_at_call 20; refine (slot_is _ _).mono ?_; rintro _ y ⟨rfl, g⟩; replace HN := hideIt (HN.out.kept g); replace HX := hideIt (HX.out.kept g); replace HY := hideIt (HY.out.kept g); replace LK := hideIt (LK.out.kept g); replace HZZ := hideIt (HZZ.out.kept g); replace T := R3.kept T g; clear g)
          | (go_at_call 18; refine (HN.out.kin 0 0 (i64s _ (by decide) (by decide)) (i64s _ (by decide) (by decide)) HKS.out.2.2.2.2.2.2.1).mono ?_; rintro _ y ⟨vk2, rfl, lk, g⟩; have LK2 := hideIt (LB.new HN.out lk); rw [HKS.out.1] at LK2; replace HN := hideIt (HN.out.kept g); replace HX := hideIt (HX.out.kept g); replace HY := hideIt (HY.out.kept g); replace LK := hideIt (LK.out.kept g); replace HZZ := hideIt (HZZ.out.kept g); replace T := R3.kept T g; clear g lk)
          | (go_at_call 21; refine (T9.same_is LK2.out.ls LK.out.ls HKS.out.2.2.2.1).mono ?_; rintro _ y ⟨rfl, g⟩; replace HN := hideIt (HN.out.kept g); replace HX := hideIt (HX.out.kept g); replace HY := hideIt (HY.out.kept g); replace LK := hideIt (LK.out.kept g); replace HZZ := hideIt (HZZ.out.kept g); replace T := R3.kept T g; clear g LK2)
          | fail))
      rename_i hold
      clear hold T
      clear HZZ
      go_wp2_with fail
      refine (slot_is 0 _).mono ?_
      rintro _ m10 ⟨rfl, g⟩
      replace HN := hideIt (HN.out.kept g)
      replace HX := hideIt (HX.out.kept g)
      replace HY := hideIt (HY.out.kept g)
      replace LK := hideIt (LK.out.kept g)
      clear g
      go_wp2_with fail
      refine (slot_is 1 _).mono ?_
      rintro _ m11 ⟨rfl, g⟩
      replace HN := hideIt (HN.out.kept g)
      replace HX := hideIt (HX.out.kept g)
      replace HY := hideIt (HY.out.kept g)
      replace LK := hideIt (LK.out.kept g)
      clear g
      go_wp2_with fail
      refine (slot_is 0 _).mono ?_
      rintro _ m12 ⟨rfl, g⟩
      replace HN := hideIt (HN.out.kept g)
      replace HX := hideIt (HX.out.kept g)
      replace HY := hideIt (HY.out.kept g)
      replace LK := hideIt (LK.out.kept g)
      clear g
      have hg6 := hideIt HN.out.gs
      go_wp2_with fail
      refine (HN.out.rotate I6.out 0 0 0 1 0 0 0 (i64s _ (by decide) (by decide)) (i64s _ (by decide) (by decide)) (i64s _ (by decide) (by decide)) (i64s _ (by decide) (by decide)) (i64s _ (by decide) (by decide)) (i64s _ (by decide) (by decide)) HKS.out.2.2.2.2.2.2.1 (BK6.out.rot1 hxk hyk)).mono ?_
      rintro _ m13 ⟨rfl, A, F⟩
      replace HX := hideIt (HX.out.call F)
      replace HY := hideIt (HY.out.call F)
      replace LK := hideIt (LK.out.call F)
      replace HN := hideIt A
      clear A F
      have hgs6 : Hid (Good S6) := hg6
      have I7 := hideIt (I6.out.rot hgs6.out (0, 0) (0, 1) (0, 0))
      have hf7 : M.rotF S6 (M.g6 f4) (0, 0) (0, 1) (0, 0) = M.g7 f4 := by unfold M.rotF; rw [if_pos (BK6.out.rot1 hxk hyk)]; rfl
      have BK7 := hideIt (BK6.out.turned I6.out hgs6.out hxk hyk)
      rw [hf7] at HN I7
      obtain ⟨S7, hS7⟩ : ∃ S, M.rotS S6 (0, 0) (0, 1) (0, 0) = S := ⟨_, rfl⟩
      rw [hS7] at HN I7 BK7
      clear hf7 hS7 I6 BK6 hgs6 hg6
      have x7 : Hid (M.getC S7 0 0 = ⟨K1, O1, R1, B1, G1, N1⟩) := BK7.out.x
      have y7 : Hid (M.getE S7 0 0 = 0) := M.getE_ok (BK7.out.th 0 (by decide) (by decide))
      have x8 : Hid (M.getC S7 0 1 = ⟨K0, O0, R0, B0, G0, N0⟩) := BK7.out.y
      have y8 : Hid (M.getE S7 0 1 = 0) := M.getE_ok (BK7.out.th 1 (by decide) (by decide))
      have hYlt := hideIt HY.out.bx.lt
      have hLlt := hideIt LK.out.ls.lt
      go_upto_region 16 with fail
      go_cut [11, 12] from 86 to 94 (fun sz se wc => ∃ Z : Nat, sz = .pointer (some ⟨Z, 0, none⟩) ∧ se = .int .i64 0 ∧ Hid (Box wc Z ⟨K1, O1, R1, B1, G1, N1⟩) ∧ Hid (m13.heap.size ≤ Z) ∧ Hid (m13.grownBy wc none))
      case first =>
        have T0b : Ptr m13 p 0 s := HN.out.c0
        have T0 : Ptr m13.drew p 0 s := T0b.kept (gbDrewN m13 1 none)
        go_region_held3 (fun w' => Ptr w' p 0 s)
          (first | with_reducible exact T0 | (focus (refine Ptr.kept T0b ?_; (repeat (first | with_reducible exact G6 | with_reducible exact G5 | with_reducible exact gbRefl m13 none | with_reducible refine gbDrew ?_ | with_reducible refine gbAllocN ?_ _ | with_reducible refine gbSetNew ?_ _ _ _ (by with_reducible first | exact Nat.le_refl _ | exact G5.size | exact G6.size))); done)) | fail)
          ((first | (go_at_call 17; refine ((HN.out.kept (by repeat (first | with_reducible exact G5 | with_reducible refine gbDrew ?_ | with_reducible refine gbAllocN ?_ _))).get 0 0 _ _ _ _ _ _ _ (i64s _ (by decide) (by decide)) x7.out y7.out).mono ?_; rintro _ u6 ⟨rfl, g6⟩; have hc6 := gcell g6; have hf6 := gfroz g6; (try (have ZB : Box u6 u5.heap.size C.zero := (by with_reducible exact (Box.made u5 C.zero).kept g6); obtain ⟨zz0, zz1, zz2, zz3, zz4, zz5, _, zf⟩ := ZB; have ff0 := zf 0; have ff1 := zf 1; have ff2 := zf 2; have ff3 := zf 3; have ff4 := zf 4; have ff5 := zf 5)); (try (have ZB : Box u6 m13.heap.size C.zero := (by with_reducible exact (((Box.made m13 C.zero).kept (gbDrew (gbRefl _ none))).kept g5).kept g6); obtain ⟨zz0, zz1, zz2, zz3, zz4, zz5, _, zf⟩ := ZB; have ff0 := zf 0; have ff1 := zf 1; have ff2 := zf 2; have ff3 := zf 3; have ff4 := zf 4; have ff5 := zf 5)); have G6 : m13.grownBy u6 none := (by first | exact gbTrans G5 g6 | exact gbTrans (gbAllocN G5 _) g6)) | (go_at_call 20; refine (slot_is 0 _).mono ?_; rintro _ u5 ⟨rfl, g5⟩; have hc5 := gcell g5; have hf5 := gfroz g5; have G5 : m13.grownBy u5 none := (by first | exact gbTrans (gbDrewN m13 1 none) g5 | exact gbTrans (gbDrew (gbAllocN (gbRefl m13 none) _)) g5)) | fail))
        all_goals (
          rename_i hold
          clear hold T0
          first
          | (obtain ⟨W6, hW6, Z6, g7⟩ := boxNew u6 ⟨K1, O1, R1, B1, G1, N1⟩
             simp only at hW6
             rw [hW6]
             go_wp2
             go_meet
             exact ⟨_, rfl, rfl, Z6, G6.size, gbTrans G6 g7⟩)
          | (have Z0 : Box u6 u5.heap.size C.zero := (Box.made u5 C.zero).kept g6
             obtain ⟨W6, hW6, Z6, g7⟩ := Z0.put ⟨K1, O1, R1, B1, G1, N1⟩
             simp only at hW6
             rw [hW6]
             go_wp2
             go_meet
             exact ⟨_, rfl, rfl, Z6, G5.size, gbNew (gbTrans (gbAny G6 _) g7) G5.size⟩)
          | (have Z0 : Box u6 m13.heap.size C.zero := (((Box.made m13 C.zero).kept (gbDrew (gbRefl _ none))).kept g5).kept g6
             obtain ⟨W6, hW6, Z6, g7⟩ := Z0.put ⟨K1, O1, R1, B1, G1, N1⟩
             simp only at hW6
             rw [hW6]
             go_wp2
             go_meet
             exact ⟨_, rfl, rfl, Z6, Nat.le_refl _, gbNew (gbTrans (gbAny G6 _) g7) (Nat.le_refl _)⟩))
      case rest =>
      obtain ⟨Z11, rfl, rfl, HZ11, hZ11, G11⟩ := hcut
      obtain ⟨wB, hwB⟩ : ∃ wB, wB = wc := ⟨_, rfl⟩
      subst hwB
      have HP : Hid (BB wB _ Z11 ⟨K1, O1, R1, B1, G1, N1⟩) := ⟨HZ11.out, fun e => absurd (HN.out.lo _ e).2 (Nat.not_lt.2 hZ11.out)⟩
      replace HN := hideIt (HN.out.kept G11.out)
      replace HX := hideIt (HX.out.kept G11.out)
      replace HY := hideIt (HY.out.kept G11.out)
      replace LK := hideIt (LK.out.kept G11.out)
      have hLK_HP : Hid (∀ g, vk.ownBlock = some g → g ≠ Z11) := fun g hg => Nat.ne_of_lt (Nat.lt_of_lt_of_le (hLlt.out g hg).2 hZ11.out)
      have hP2 : Hid (w.heap.size + 1 < Z11) := Nat.lt_of_lt_of_le hYlt.out hZ11.out
      have hP1 : Hid (w.heap.size < Z11) := Nat.lt_of_succ_lt hP2.out
      have hP0 : Hid (w.heap.size ≤ Z11) := Nat.le_of_lt hP1.out
      clear HZ11 hZ11 G11 x7 y7 hYlt hLlt
      have hYlt := hideIt HY.out.bx.lt
      have hPlt := hideIt HP.out.bx.lt
      have hLlt := hideIt LK.out.ls.lt
      go_upto_region 17 with fail
      go_cut [13, 14] from 95 to 103 (fun sz se wc => ∃ Z : Nat, sz = .pointer (some ⟨Z, 0, none⟩) ∧ se = .int .i64 0 ∧ Hid (Box wc Z ⟨K0, O0, R0, B0, G0, N0⟩) ∧ Hid (wB.heap.size ≤ Z) ∧ Hid (wB.grownBy wc none))
      case first =>
        have T0b : Ptr wB p 0 s := HN.out.c0
        have T0 : Ptr wB.drew p 0 s := T0b.kept (gbDrewN wB 1 none)
        go_region_held3 (fun w' => Ptr w' p 0 s)
          (first | with_reducible exact T0 | (focus (refine Ptr.kept T0b ?_; (repeat (first | with_reducible exact G6 | with_reducible exact G5 | with_reducible exact gbRefl wB none | with_reducible refine gbDrew ?_ | with_reducible refine gbAllocN ?_ _ | with_reducible refine gbSetNew ?_ _ _ _ (by with_reducible first | exact Nat.le_refl _ | exact G5.size | exact G6.size))); done)) | fail)
          ((first | (go_at_call 17; refine ((HN.out.kept (by repeat (first | with_reducible exact G5 | with_reducible refine gbDrew ?_ | with_reducible refine gbAllocN ?_ _))).get 0 1 _ _ _ _ _ _ _ (i64s _ (by decide) (by decide)) x8.out y8.out).mono ?_; rintro _ u6 ⟨rfl, g6⟩; have hc6 := gcell g6; have hf6 := gfroz g6; (try (have ZB : Box u6 u5.heap.size C.zero := (by with_reducible exact (Box.made u5 C.zero).kept g6); obtain ⟨zz0, zz1, zz2, zz3, zz4, zz5, _, zf⟩ := ZB; have ff0 := zf 0; have ff1 := zf 1; have ff2 := zf 2; have ff3 := zf 3; have ff4 := zf 4; have ff5 := zf 5)); (try (have ZB : Box u6 wB.heap.size C.zero := (by with_reducible exact (((Box.made wB C.zero).kept (gbDrew (gbRefl _ none))).kept g5).kept g6); obtain ⟨zz0, zz1, zz2, zz3, zz4, zz5, _, zf⟩ := ZB; have ff0 := zf 0; have ff1 := zf 1; have ff2 := zf 2; have ff3 := zf 3; have ff4 := zf 4; have ff5 := zf 5)); have G6 : wB.grownBy u6 none := (by first | exact gbTrans G5 g6 | exact gbTrans (gbAllocN G5 _) g6)) | (go_at_call 20; refine (slot_is 1 _).mono ?_; rintro _ u5 ⟨rfl, g5⟩; have hc5 := gcell g5; have hf5 := gfroz g5; have G5 : wB.grownBy u5 none := (by first | exact gbTrans (gbDrewN wB 1 none) g5 | exact gbTrans (gbDrew (gbAllocN (gbRefl wB none) _)) g5)) | fail))
        all_goals (
          rename_i hold
          clear hold T0
          first
          | (obtain ⟨W6, hW6, Z6, g7⟩ := boxNew u6 ⟨K0, O0, R0, B0, G0, N0⟩
             simp only at hW6
             rw [hW6]
             go_wp2
             go_meet
             exact ⟨_, rfl, rfl, Z6, G6.size, gbTrans G6 g7⟩)
          | (have Z0 : Box u6 u5.heap.size C.zero := (Box.made u5 C.zero).kept g6
             obtain ⟨W6, hW6, Z6, g7⟩ := Z0.put ⟨K0, O0, R0, B0, G0, N0⟩
             simp only at hW6
             rw [hW6]
             go_wp2
             go_meet
             exact ⟨_, rfl, rfl, Z6, G5.size, gbNew (gbTrans (gbAny G6 _) g7) G5.size⟩)
          | (have Z0 : Box u6 wB.heap.size C.zero := (((Box.made wB C.zero).kept (gbDrew (gbRefl _ none))).kept g5).kept g6
             obtain ⟨W6, hW6, Z6, g7⟩ := Z0.put ⟨K0, O0, R0, B0, G0, N0⟩
             simp only at hW6
             rw [hW6]
             go_wp2
             go_meet
             exact ⟨_, rfl, rfl, Z6, Nat.le_refl _, gbNew (gbTrans (gbAny G6 _) g7) (Nat.le_refl _)⟩))
      case rest =>
      obtain ⟨Z13, rfl, rfl, HZ13, hZ13, G13⟩ := hcut
      obtain ⟨wC, hwC⟩ : ∃ wC, wC = wc := ⟨_, rfl⟩
      subst hwC
      have HQ : Hid (BB wC _ Z13 ⟨K0, O0, R0, B0, G0, N0⟩) := ⟨HZ13.out, fun e => absurd (HN.out.lo _ e).2 (Nat.not_lt.2 hZ13.out)⟩
      replace HN := hideIt (HN.out.kept G13.out)
      replace HX := hideIt (HX.out.kept G13.out)
      replace HY := hideIt (HY.out.kept G13.out)
      replace LK := hideIt (LK.out.kept G13.out)
      replace HP := hideIt (HP.out.kept G13.out)
      have hLK_HQ : Hid (∀ g, vk.ownBlock = some g → g ≠ Z13) := fun g hg => Nat.ne_of_lt (Nat.lt_of_lt_of_le (hLlt.out g hg).2 hZ13.out)
      have hQ2 : Hid (w.heap.size + 1 < Z13) := Nat.lt_of_lt_of_le hYlt.out hZ13.out
      have hQ1 : Hid (w.heap.size < Z13) := Nat.lt_of_succ_lt hQ2.out
      have hQ0 : Hid (w.heap.size ≤ Z13) := Nat.le_of_lt hQ1.out
      have hPQ : Hid (Z11 < Z13) := Nat.lt_of_lt_of_le hPlt.out hZ13.out
      clear HZ13 hZ13 G13 x8 y8 hYlt hPlt hLlt
      go_upto_region 18 with fail
      replace HN := hideIt (HN.out.kept (gbDrewN wC 1 none))
      replace HX := hideIt (HX.out.kept (gbDrewN wC 1 none))
      replace HY := hideIt (HY.out.kept (gbDrewN wC 1 none))
      replace LK := hideIt (LK.out.kept (gbDrewN wC 1 none))
      replace HP := hideIt (HP.out.kept (gbDrewN wC 1 none))
      replace HQ := hideIt (HQ.out.kept (gbDrewN wC 1 none))
      have T : R5 wC.drew p t Z11 (w.heap.size + 1) Z13 w.heap.size ⟨K1, O1, R1, B1, G1, N1⟩ ⟨K1, O1, R1, B1, G1, N1⟩ ⟨K0, O0, R0, B0, G0, N0⟩ ⟨K0, O0, R0, B0, G0, N0⟩ := ⟨HN.out.c1, HP.out.bx.tup, HY.out.bx.tup, HQ.out.bx.tup, HX.out.bx.tup⟩
      go_region_held3 (fun w' => R5 w' p t Z11 (w.heap.size + 1) Z13 w.heap.size ⟨K1, O1, R1, B1, G1, N1⟩ ⟨K1, O1, R1, B1, G1, N1⟩ ⟨K0, O0, R0, B0, G0, N0⟩ ⟨K0, O0, R0, B0, G0, N0⟩)
        (first | with_reducible exact T | fail)
        ((first
          | (go_at_call 20; refine (slot_is _ _).mono ?_; rintro _ y ⟨rfl, g⟩; replace HN := hideIt (HN.out.kept g); replace HX := hideIt (HX.out.kept g); replace HY := hideIt (HY.out.kept g); replace LK := hideIt (LK.out.kept g); replace HP := hideIt (HP.out.kept g); replace HQ := hideIt (HQ.out.kept g); replace T := R5.kept T g; clear g)
          | (go_at_call 18; refine (HN.out.kin 0 1 (i64s _ (by decide) (by decide)) (i64s _ (by decide) (by decide)) HKS.out.2.2.2.2.2.2.2.1).mono ?_; rintro _ y ⟨vk2, rfl, lk, g⟩; have LK2 := hideIt (LB.new HN.out lk); rw [HKS.out.2.1] at LK2; replace HN := hideIt (HN.out.kept g); replace HX := hideIt (HX.out.kept g); replace HY := hideIt (HY.out.kept g); replace LK := hideIt (LK.out.kept g); replace HP := hideIt (HP.out.kept g); replace HQ := hideIt (HQ.out.kept g); replace T := R5.kept T g; clear g lk)
          | (go_at_call 21; refine (T9.same_is LK2.out.ls LK.out.ls HKS.out.2.2.2.1).mono ?_; rintro _ y ⟨rfl, g⟩; replace HN := hideIt (HN.out.kept g); replace HX := hideIt (HX.out.kept g); replace HY := hideIt (HY.out.kept g); replace LK := hideIt (LK.out.kept g); replace HP := hideIt (HP.out.kept g); replace HQ := hideIt (HQ.out.kept g); replace T := R5.kept T g; clear g LK2)
          | fail))
      rename_i hold
      clear hold T
      go_wp2_with fail
      refine (slot_is 6 _).mono ?_
      rintro _ m14 ⟨rfl, g⟩
      replace HN := hideIt (HN.out.kept g)
      replace HX := hideIt (HX.out.kept g)
      replace HY := hideIt (HY.out.kept g)
      replace LK := hideIt (LK.out.kept g)
      replace HP := hideIt (HP.out.kept g)
      replace HQ := hideIt (HQ.out.kept g)
      clear g
      go_wp2_with fail
      refine (slot_is 0 _).mono ?_
      rintro _ m15 ⟨rfl, g⟩
      replace HN := hideIt (HN.out.kept g)
      replace HX := hideIt (HX.out.kept g)
      replace HY := hideIt (HY.out.kept g)
      replace LK := hideIt (LK.out.kept g)
      replace HP := hideIt (HP.out.kept g)
      replace HQ := hideIt (HQ.out.kept g)
      clear g
      go_wp2_with fail
      refine (slot_is 1 _).mono ?_
      rintro _ m16 ⟨rfl, g⟩
      replace HN := hideIt (HN.out.kept g)
      replace HX := hideIt (HX.out.kept g)
      replace HY := hideIt (HY.out.kept g)
      replace LK := hideIt (LK.out.kept g)
      replace HP := hideIt (HP.out.kept g)
      replace HQ := hideIt (HQ.out.kept g)
      clear g
      have hg7 := hideIt HN.out.gs
      go_wp2_with fail
      refine (HN.out.rotate I7.out 0 6 0 0 0 1 0 (i64s _ (by decide) (by decide)) (i64s _ (by decide) (by decide)) (i64s _ (by decide) (by decide)) (i64s _ (by decide) (by decide)) (i64s _ (by decide) (by decide)) (i64s _ (by decide) (by decide)) HKS.out.2.2.2.2.2.2.2.1 (BK7.out.rot2 hyk hxk)).mono ?_
      rintro _ m17 ⟨rfl, A, F⟩
      replace HX := hideIt (HX.out.call F)
      replace HY := hideIt (HY.out.call F)
      replace LK := hideIt (LK.out.call F)
      replace HP := hideIt (HP.out.call F)
      replace HQ := hideIt (HQ.out.call F)
      replace HN := hideIt A
      clear A F
      have hf8 : M.rotF S7 (M.g7 f4) (0, 6) (0, 0) (0, 1) = M.g8 f4 := by unfold M.rotF; rw [if_pos (BK7.out.rot2 hyk hxk)]; rfl
      have BK8 := hideIt (BK7.out.last I7.out hg7.out hyk hxk)
      rw [hf8] at HN
      obtain ⟨S8, hS8⟩ : ∃ S, M.rotS S7 (0, 6) (0, 0) (0, 1) = S := ⟨_, rfl⟩
      rw [hS8] at HN BK8
      clear hf8 hS8 I7 BK7 hg7
      have x6 : Hid (M.getC S8 0 6 = ⟨K1, O1, R1, B1, G1, N1⟩) := BK8.out.2.1
      have y6 : Hid (M.getE S8 0 6 = 0) := M.getE_ok (BK8.out.1 6 (by decide) (by decide))
      have x0 : Hid (M.getC S8 0 0 = ⟨K0, O0, R0, B0, G0, N0⟩) := BK8.out.2.2.1
      have y0 : Hid (M.getE S8 0 0 = 0) := M.getE_ok (BK8.out.1 0 (by decide) (by decide))
      have x1 : Hid (M.getC S8 0 1 = ⟨0, 0, 0, 0, 0, 0⟩) := BK8.out.2.2.2
      have y1 : Hid (M.getE S8 0 1 = 0) := M.getE_ok (BK8.out.1 1 (by decide) (by decide))
      have hlo2 : Hid (w.heap.size ≤ w.heap.size) := Nat.le_refl _
      have hZlo_HP : Hid (w.heap.size ≤ Z11) := hP0
      have hZlo_HQ : Hid (w.heap.size ≤ Z13) := hQ0
      have hne_HX_HP : Hid (w.heap.size ≠ Z11) := Nat.ne_of_lt hP1.out
      have hne_HY_HP : Hid (w.heap.size + 1 ≠ Z11) := Nat.ne_of_lt hP2.out
      have hne_HQ_HP : Hid (Z13 ≠ Z11) := Nat.ne_of_gt hPQ.out
      have hne_HX_HQ : Hid (w.heap.size ≠ Z13) := Nat.ne_of_lt hQ1.out
      have hne_HY_HQ : Hid (w.heap.size + 1 ≠ Z13) := Nat.ne_of_lt hQ2.out
      have hne_HP_HQ : Hid (Z11 ≠ Z13) := Nat.ne_of_lt hPQ.out
      go_upto_region 22 with fail
      have hpZ : p ≠ Z11 := fun e => HP.out.no (e ▸ HN.out.op)
      have T0 : Ptr m17.drew p 0 s := (HN.out.kept (gbDrewN m17 1 none)).c0
      go_region_held3 (fun w' => Ptr w' p 0 s)
        (first | with_reducible exact T0 | with_reducible exact T2 | with_reducible exact T1 | (focus (refine Ptr.keep (y := Z11) T2 ?_ hpZ; (repeat (first | with_reducible refine gbSet1 ?_ _ _ | with_reducible exact gbRefl _ _)); done)) | fail)
        ((first | (go_at_call 17; refine ((HN.out.kept G5).get 0 6 _ _ _ _ _ _ _ (i64s _ (by decide) (by decide)) x6.out y6.out).mono ?_; rintro _ wE ⟨rfl, g6⟩; have G6 : m17.grownBy wE none := gbTrans G5 g6; have T2 : Ptr wE p 0 s := (HN.out.kept G6).c0; have ZB := hideIt (HP.out.kept G6); have zz0 := ZB.out.bx.at0; have zz1 := ZB.out.bx.at1; have zz2 := ZB.out.bx.at2; have zz3 := ZB.out.bx.at3; have zz4 := ZB.out.bx.at4; have zz5 := ZB.out.bx.at5; have ff0 := ZB.out.bx.fr 0; have ff1 := ZB.out.bx.fr 1; have ff2 := ZB.out.bx.fr 2; have ff3 := ZB.out.bx.fr 3; have ff4 := ZB.out.bx.fr 4; have ff5 := ZB.out.bx.fr 5) | (go_at_call 20; refine (slot_is 6 _).mono ?_; rintro _ u5 ⟨rfl, g5⟩; have G5 : m17.grownBy u5 none := gbTrans (gbDrewN m17 1 none) g5; have T1 : Ptr u5 p 0 s := (HN.out.kept G5).c0; clear g5) | fail))
      rename_i hold
      clear hold T0 T1 T2
      obtain ⟨wEW, hW6, Z6, g7⟩ := ZB.out.bx.put ⟨K1, O1, R1, B1, G1, N1⟩
      simp only at hW6
      rw [hW6]
      clear hW6 zz0 zz1 zz2 zz3 zz4 zz5 ff0 ff1 ff2 ff3 ff4 ff5
      replace HN := hideIt ((HN.out.kept G6).keep g7 HP.out.no hZlo_HP.out)
      replace HX := hideIt ((HX.out.kept G6).keep g7 hne_HX_HP.out)
      replace HY := hideIt ((HY.out.kept G6).keep g7 hne_HY_HP.out)
      replace HQ := hideIt ((HQ.out.kept G6).keep g7 hne_HQ_HP.out)
      replace LK := hideIt (lbKeep (LK.out.kept G6) g7 hLK_HP.out)
      replace HP : Hid (BB wEW _ Z11 ⟨K1, O1, R1, B1, G1, N1⟩) := ⟨Z6, HP.out.no⟩
      clear G5 G6 g6 g7 Z6 ZB
      go_upto_region 23 with fail
      have hpZ : p ≠ Z13 := fun e => HQ.out.no (e ▸ HN.out.op)
      have T0 : Ptr wEW.drew p 0 s := (HN.out.kept (gbDrewN wEW 1 none)).c0
      go_region_held3 (fun w' => Ptr w' p 0 s)
        (first | with_reducible exact T0 | with_reducible exact T2 | with_reducible exact T1 | (focus (refine Ptr.keep (y := Z13) T2 ?_ hpZ; (repeat (first | with_reducible refine gbSet1 ?_ _ _ | with_reducible exact gbRefl _ _)); done)) | fail)
        ((first | (go_at_call 17; refine ((HN.out.kept G5).get 0 0 _ _ _ _ _ _ _ (i64s _ (by decide) (by decide)) x0.out y0.out).mono ?_; rintro _ wF ⟨rfl, g6⟩; have G6 : wEW.grownBy wF none := gbTrans G5 g6; have T2 : Ptr wF p 0 s := (HN.out.kept G6).c0; have ZB := hideIt (HQ.out.kept G6); have zz0 := ZB.out.bx.at0; have zz1 := ZB.out.bx.at1; have zz2 := ZB.out.bx.at2; have zz3 := ZB.out.bx.at3; have zz4 := ZB.out.bx.at4; have zz5 := ZB.out.bx.at5; have ff0 := ZB.out.bx.fr 0; have ff1 := ZB.out.bx.fr 1; have ff2 := ZB.out.bx.fr 2; have ff3 := ZB.out.bx.fr 3; have ff4 := ZB.out.bx.fr 4; have ff5 := ZB.out.bx.fr 5) | (go_at_call 20; refine (slot_is 0 _).mono ?_; rintro _ u5 ⟨rfl, g5⟩; have G5 : wEW.grownBy u5 none := gbTrans (gbDrewN wEW 1 none) g5; have T1 : Ptr u5 p 0 s := (HN.out.kept G5).c0; clear g5) | fail))
      rename_i hold
      clear hold T0 T1 T2
      obtain ⟨wFW, hW6, Z6, g7⟩ := ZB.out.bx.put ⟨K0, O0, R0, B0, G0, N0⟩
      simp only at hW6
      rw [hW6]
      clear hW6 zz0 zz1 zz2 zz3 zz4 zz5 ff0 ff1 ff2 ff3 ff4 ff5
      replace HN := hideIt ((HN.out.kept G6).keep g7 HQ.out.no hZlo_HQ.out)
      replace HX := hideIt ((HX.out.kept G6).keep g7 hne_HX_HQ.out)
      replace HY := hideIt ((HY.out.kept G6).keep g7 hne_HY_HQ.out)
      replace HP := hideIt ((HP.out.kept G6).keep g7 hne_HP_HQ.out)
      replace LK := hideIt (lbKeep (LK.out.kept G6) g7 hLK_HQ.out)
      replace HQ : Hid (BB wFW _ Z13 ⟨K0, O0, R0, B0, G0, N0⟩) := ⟨Z6, HQ.out.no⟩
      clear G5 G6 g6 g7 Z6 ZB
      go_upto_region 24 with fail
      go_cut [15, 16] from 147 to 155 (fun sz se wc => ∃ Z : Nat, sz = .pointer (some ⟨Z, 0, none⟩) ∧ se = .int .i64 0 ∧ Hid (Box wc Z ⟨0, 0, 0, 0, 0, 0⟩) ∧ Hid (wFW.heap.size ≤ Z) ∧ Hid (wFW.grownBy wc none))
      case first =>
        have T0b : Ptr wFW p 0 s := HN.out.c0
        have T0 : Ptr wFW.drew p 0 s := T0b.kept (gbDrewN wFW 1 none)
        go_region_held3 (fun w' => Ptr w' p 0 s)
          (first | with_reducible exact T0 | (focus (refine Ptr.kept T0b ?_; (repeat (first | with_reducible exact G6 | with_reducible exact G5 | with_reducible exact gbRefl wFW none | with_reducible refine gbDrew ?_ | with_reducible refine gbAllocN ?_ _ | with_reducible refine gbSetNew ?_ _ _ _ (by with_reducible first | exact Nat.le_refl _ | exact G5.size | exact G6.size))); done)) | fail)
          ((first | (go_at_call 17; refine ((HN.out.kept (by repeat (first | with_reducible exact G5 | with_reducible refine gbDrew ?_ | with_reducible refine gbAllocN ?_ _))).get 0 1 _ _ _ _ _ _ _ (i64s _ (by decide) (by decide)) x1.out y1.out).mono ?_; rintro _ u6 ⟨rfl, g6⟩; have hc6 := gcell g6; have hf6 := gfroz g6; (try (have ZB : Box u6 u5.heap.size C.zero := (by with_reducible exact (Box.made u5 C.zero).kept g6); obtain ⟨zz0, zz1, zz2, zz3, zz4, zz5, _, zf⟩ := ZB; have ff0 := zf 0; have ff1 := zf 1; have ff2 := zf 2; have ff3 := zf 3; have ff4 := zf 4; have ff5 := zf 5)); (try (have ZB : Box u6 wFW.heap.size C.zero := (by with_reducible exact (((Box.made wFW C.zero).kept (gbDrew (gbRefl _ none))).kept g5).kept g6); obtain ⟨zz0, zz1, zz2, zz3, zz4, zz5, _, zf⟩ := ZB; have ff0 := zf 0; have ff1 := zf 1; have ff2 := zf 2; have ff3 := zf 3; have ff4 := zf 4; have ff5 := zf 5)); have G6 : wFW.grownBy u6 none := (by first | exact gbTrans G5 g6 | exact gbTrans (gbAllocN G5 _) g6)) | (go_at_call 20; refine (slot_is 1 _).mono ?_; rintro _ u5 ⟨rfl, g5⟩; have hc5 := gcell g5; have hf5 := gfroz g5; have G5 : wFW.grownBy u5 none := (by first | exact gbTrans (gbDrewN wFW 1 none) g5 | exact gbTrans (gbDrew (gbAllocN (gbRefl wFW none) _)) g5)) | fail))
        all_goals (
          rename_i hold
          clear hold T0
          first
          | (obtain ⟨W6, hW6, Z6, g7⟩ := boxNew u6 ⟨0, 0, 0, 0, 0, 0⟩
             simp only at hW6
             rw [hW6]
             go_wp2
             go_meet
             exact ⟨_, rfl, rfl, Z6, G6.size, gbTrans G6 g7⟩)
          | (have Z0 : Box u6 u5.heap.size C.zero := (Box.made u5 C.zero).kept g6
             obtain ⟨W6, hW6, Z6, g7⟩ := Z0.put ⟨0, 0, 0, 0, 0, 0⟩
             simp only at hW6
             rw [hW6]
             go_wp2
             go_meet
             exact ⟨_, rfl, rfl, Z6, G5.size, gbNew (gbTrans (gbAny G6 _) g7) G5.size⟩)
          | (have Z0 : Box u6 wFW.heap.size C.zero := (((Box.made wFW C.zero).kept (gbDrew (gbRefl _ none))).kept g5).kept g6
             obtain ⟨W6, hW6, Z6, g7⟩ := Z0.put ⟨0, 0, 0, 0, 0, 0⟩
             simp only at hW6
             rw [hW6]
             go_wp2
             go_meet
             exact ⟨_, rfl, rfl, Z6, Nat.le_refl _, gbNew (gbTrans (gbAny G6 _) g7) (Nat.le_refl _)⟩))
      case rest =>
      obtain ⟨Z15, rfl, rfl, HZ15, hZ15, G15⟩ := hcut
      obtain ⟨wG, hwG⟩ : ∃ wG, wG = wc := ⟨_, rfl⟩
      subst hwG
      have HR : Hid (BB wG _ Z15 ⟨0, 0, 0, 0, 0, 0⟩) := ⟨HZ15.out, fun e => absurd (HN.out.lo _ e).2 (Nat.not_lt.2 hZ15.out)⟩
      replace HN := hideIt (HN.out.kept G15.out)
      replace HX := hideIt (HX.out.kept G15.out)
      replace HY := hideIt (HY.out.kept G15.out)
      replace LK := hideIt (LK.out.kept G15.out)
      replace HP := hideIt (HP.out.kept G15.out)
      replace HQ := hideIt (HQ.out.kept G15.out)
      clear HZ15 hZ15 G15
      go_upto_region 25 with fail
      have qz := M.eq_refl ⟨0, 0, 0, 0, 0, 0⟩
      replace HN := hideIt (HN.out.kept (gbDrewN wG 1 none))
      replace HX := hideIt (HX.out.kept (gbDrewN wG 1 none))
      replace HY := hideIt (HY.out.kept (gbDrewN wG 1 none))
      replace LK := hideIt (LK.out.kept (gbDrewN wG 1 none))
      replace HP := hideIt (HP.out.kept (gbDrewN wG 1 none))
      replace HQ := hideIt (HQ.out.kept (gbDrewN wG 1 none))
      replace HR := hideIt (HR.out.kept (gbDrewN wG 1 none))
      have T : R6 wG.drew p t Z11 (w.heap.size + 1) Z13 w.heap.size Z15 ⟨K1, O1, R1, B1, G1, N1⟩ ⟨K1, O1, R1, B1, G1, N1⟩ ⟨K0, O0, R0, B0, G0, N0⟩ ⟨K0, O0, R0, B0, G0, N0⟩ ⟨0, 0, 0, 0, 0, 0⟩ := ⟨HN.out.c1, HP.out.bx.tup, HY.out.bx.tup, HQ.out.bx.tup, HX.out.bx.tup, HR.out.bx.tup⟩
      go_region_held3 (fun w' => R6 w' p t Z11 (w.heap.size + 1) Z13 w.heap.size Z15 ⟨K1, O1, R1, B1, G1, N1⟩ ⟨K1, O1, R1, B1, G1, N1⟩ ⟨K0, O0, R0, B0, G0, N0⟩ ⟨K0, O0, R0, B0, G0, N0⟩ ⟨0, 0, 0, 0, 0, 0⟩)
        (first | with_reducible exact T | fail)
        ((first
          | (go_at_call 20; refine (slot_is _ _).mono ?_; rintro _ y ⟨rfl, g⟩; replace HN := hideIt (HN.out.kept g); replace HX := hideIt (HX.out.kept g); replace HY := hideIt (HY.out.kept g); replace LK := hideIt (LK.out.kept g); replace HP := hideIt (HP.out.kept g); replace HQ := hideIt (HQ.out.kept g); replace HR := hideIt (HR.out.kept g); replace T := R6.kept T g; clear g)
          | (go_at_call 18; refine (HN.out.kin 0 0 (i64s _ (by decide) (by decide)) (i64s _ (by decide) (by decide)) HKS.out.2.2.2.2.2.2.2.2).mono ?_; rintro _ y ⟨vk2, rfl, lk, g⟩; have LK2 := hideIt (LB.new HN.out lk); rw [HKS.out.2.2.1] at LK2; replace HN := hideIt (HN.out.kept g); replace HX := hideIt (HX.out.kept g); replace HY := hideIt (HY.out.kept g); replace LK := hideIt (LK.out.kept g); replace HP := hideIt (HP.out.kept g); replace HQ := hideIt (HQ.out.kept g); replace HR := hideIt (HR.out.kept g); replace T := R6.kept T g; clear g lk)
          | (go_at_call 21; refine (T9.same_is LK2.out.ls LK.out.ls HKS.out.2.2.2.1).mono ?_; rintro _ y ⟨rfl, g⟩; replace HN := hideIt (HN.out.kept g); replace HX := hideIt (HX.out.kept g); replace HY := hideIt (HY.out.kept g); replace LK := hideIt (LK.out.kept g); replace HP := hideIt (HP.out.kept g); replace HQ := hideIt (HQ.out.kept g); replace HR := hideIt (HR.out.kept g); replace T := R6.kept T g; clear g LK2)
          | fail))
      rename_i hold
      clear hold T
      go_wp2
      go_ret
      exact ⟨rfl, gbEnd HN.out.gr⟩
    · go_wp2
      go_ret
      exact ⟨rfl, gbEnd HN.out.gr⟩
  ·
    obtain ⟨x0, x1, x2, x3, x4, x5⟩ := HX3.out.bx.all
    simp only at x0 x1 x2 x3 x4 x5
    clear T HN HX HY
    have HP : ∀ y : Gr w3, Calls Try.prog 10 #[.pointer (some ⟨p, 0, none⟩), sv 0 0, cv ⟨K0, O0, R0, B0, G0, N0⟩] y.w fun x w' => x = .returned (.int .i64 e1) ∧ y.w.grownBy w' none := fun y => (H3.out.kept y.g).plantR 0 0 K0 O0 R0 B0 G0 N0 e1 (i64s _ (by decide) (by decide)) ub0 ug0 HE1.out hv1
    have HSl : ∀ y : Gr w3, Calls Try.prog 20 #[.int .i64 0] y.w fun x w' => x = .returned (sv 0 0) ∧ y.w.grownBy w' none := fun y => slot_is 0 y.w
    refine wp_region_grown (by kernel_rfl) (by kernel_rfl) fun _ => ?_
    repeat (go_big_quiet_step ((first | (go_at_call 20; with_reducible exact callsGr (HSl _)) | (go_at_call 10; with_reducible exact callsGr (HP _)))))
    refine wpQuiet_nil ?_
    rintro w4 ⟨⟨_, g4⟩, rfl⟩
    clear x0 x1 x2 x3 x4 x5
    go_wp2
    go_ret
    exact ⟨rfl, gbEnd (gbTrans H3.out.gr g4)⟩

set_option maxRecDepth 100000 in
theorem lifted (os : Os) (started : os.Started) (H : Type) (enc : TypeId × Value → H) :
    ReturnsInHanded {} Try.checked os 4 .any (Rows.movesBackSpec.pre6 enc Try.prog Try.f4 Rows.movesBackRow.domain false) (Rows.movesBackSpec.post enc Try.prog Try.f4 false true false false) := by
  refine returnsInHanded_of_change (C := Try.checked) own started (by kernel_rfl) Try.func4
    (ChangeSpec.witness6 (enc := enc) (C := Try.checked) false ⟨#[], #[.agg #[.int .i64 0, .int .i64 0, .int .i64 0, .int .u64 0, .int .u64 0, .int .i64 0], .agg #[.int .i64 0, .int .i64 0, .int .i64 0, .int .u64 0, .int .u64 0, .int .i64 0], .int .i64 0], []⟩ 8 (by kernel_rfl) (by kernel_rfl) (by kernel_rfl) (by kernel_rfl)) ?_
  intro W base args ds gs before hval0 hW hcnd _
  have hval : ∀ (j : Nat) t v, Try.f4.params[j]? = some t → args[j]? = some v → Value.okWide Try.prog W .any base t v := hval0
  have hW' := hW
  obtain ⟨p, q, hA0, hV, rfl, hfz, hnd⟩ := hW
  have hA : DataW.TrodAll enc Try.prog W 0 (fun _ => true) true Try.f4.params.toList args.toList ds p := hA0
  rw [Try.params4] at hA hval
  obtain ⟨v0, vs0, d0, ds0, p0, q0, hargs, rfl, rfl, h0, r0⟩ := trodAll_cons hA
  obtain ⟨v1, vs1, d1, ds1, p1, q1, rfl, rfl, rfl, h1, r1⟩ := trodAll_cons r0
  obtain ⟨v2, vs2, d2, ds2, p2, q2, rfl, rfl, rfl, h2, r2⟩ := trodAll_cons r1
  obtain ⟨rfl, rfl, rfl⟩ := trodAll_nil r2
  obtain rfl : args = #[v0, v1, v2] := by cases args; simp_all
  obtain ⟨rfl, rfl⟩ := trodVars_none hV
  obtain ⟨K0, O0, R0, B0, G0, N0, rfl, io0, ub0, ug0⟩ := capArg (hval 0 32 v0 rfl rfl) h0
  have k0 := h0
  have lt0 : ∀ x ∈ p0, x.block < W.heap.size := by obtain ⟨m, hm⟩ := k0; exact DataW.trod_lt m _ _ _ hm
  obtain ⟨K1, O1, R1, B1, G1, N1, rfl, io1, ub1, ug1⟩ := capArg (hval 1 32 v1 rfl rfl) h1
  have k1 := h1
  have lt1 : ∀ x ∈ p1, x.block < W.heap.size := by obtain ⟨m, hm⟩ := k1; exact DataW.trod_lt m _ _ _ hm
  obtain ⟨a2, rfl, rfl, rfl, w2⟩ := open_int Try.underlying3 (hval 2 3 v2 rfl rfl) h2
  clear hA0 hval0
  refine (walk K0 O0 R0 B0 G0 N0 io0 ub0 ug0 K1 O1 R1 B1 G1 N1 io1 ub1 ug1 a2 W).mono fun e W' ⟨he, bel⟩ => ?_
  subst he
  exact ⟨_, rfl, _, _, _, [], _, [], hW', trodAll_mk1 (shut_bool Try.underlying4 _), (trodAll_cons_mk (Below.trod laidOut (by kernel_rfl) (of_decide_eq_true (by kernel_rfl)) k0 bel lt0) (trodAll_cons_mk (Below.trod laidOut (by kernel_rfl) (of_decide_eq_true (by kernel_rfl)) k1 bel lt1) (trodAll_cons_mk (shut_int Try.underlying3 w2) trodAll_mk0))), rfl, bel.frame _, fun h => by cases h⟩

theorem over : Rows.movesBackRow.holds Try.pinned (OpenSpec.ofChange Rows.movesBackSpec) :=
  OpenClaim.holds_of_wide 4 Try.f4 rfl rfl rfl rfl rfl rfl rfl ⟨rfl, rfl, rfl, rfl, rfl⟩ rfl rfl rfl rfl rfl (by kernel_rfl) Try.func4 (by kernel_rfl)
    (of_decide_eq_true (by kernel_rfl)) (by unfold Func.isWrapper; first | (rw [if_pos (by decide +kernel)]; kernel_rfl) | (rw [if_neg (by decide +kernel)]; exact ⟨rfl, rfl⟩))
    (fun os started H enc _ => lifted os started H enc)

theorem proved : Rows.MovesBackSaid := over
end Go.Proofs.Ytkpcdfiebjigbaa.movesBack
namespace Go.Proofs.Ytkpcdfiebjigbaa
theorem movesBack_holds : Rows.MovesBackSaid := movesBack.proved
#print axioms movesBack_holds
end Go.Proofs.Ytkpcdfiebjigbaa
