/-
  BOTH TREES SIDE BY SIDE; the contracts of donjonlaw09's same and act.
-/
import Derived.Test.YtboojbnnjbmnoaaRtell
import Derived.Test.YtboojbnnjbmnoaaWrk
import Derived.Test.YtboojbnnjbmnoaaGrow
import Derived.Deep.RegionHeld3
namespace Go.Proofs.Ytboojbnnjbmnoaa
open Go.RowKit
set_option linter.unusedVariables false

/-- Both trees: what the one is, and the other one. -/
structure Both (w0 w : World) (P R : Nat → Prop) (p q : Nat) (f h : Fo) : Prop where
  sp : TAt w p P f
  rp : RAt w q R h
  dis : ∀ i, P i → ¬ R i
  lp : ∀ i, P i → w0.heap.size ≤ i ∧ i < w.heap.size
  lr : ∀ i, R i → w0.heap.size ≤ i ∧ i < w.heap.size
  gr : w0.grownBy w none
  gs : Good f
  gt : Good h
theorem Both.kept {w0 w w' : World} {P R : Nat → Prop} {p q : Nat} {f h : Fo} (b : Both w0 w P R p q f h) (g : w.grownBy w' none) : Both w0 w' P R p q f h :=
  ⟨b.sp.kept g, b.rp.kept g, b.dis, fun i hi => ⟨(b.lp i hi).1, Nat.lt_of_lt_of_le (b.lp i hi).2 g.size⟩, fun i hi => ⟨(b.lr i hi).1, Nat.lt_of_lt_of_le (b.lr i hi).2 g.size⟩, gbTrans b.gr g, b.gs, b.gt⟩
theorem Both.prog {w0 w w' : World} {P R : Nat → Prop} {p q : Nat} {f f' h : Fo} (b : Both w0 w P R p q f h) (F : Fr P w w') (A : TAt w' p (wide P w w') f') (g2 : Good f') : Both w0 w' (wide P w w') R p q f' h := by
  have hz := b.gr.size
  have hf := F.size
  refine ⟨A, b.rp.fr F (fun i hi e => b.dis i e hi), ?_, ?_, fun i hi => ⟨(b.lr i hi).1, Nat.lt_of_lt_of_le (b.lr i hi).2 F.size⟩, ((Fr.grown (O := P) b.gr).trans F).new (fun i hi e => absurd (b.lp i e).1 (by omega)), g2, b.gt⟩
  · intro i hi hr
    rcases hi with e | e
    · exact b.dis i e hr
    · have := (b.lr i hr).2; omega
  · intro i hi
    rcases hi with e | e
    · have := b.lp i e; omega
    · omega
theorem Both.doc {w0 w w' : World} {P R : Nat → Prop} {p q : Nat} {f h h' : Fo} (b : Both w0 w P R p q f h) (F : Fr R w w') (A : RAt w' q (wide R w w') h') (g2 : Good h') : Both w0 w' P (wide R w w') p q f h' := by
  have hz := b.gr.size
  have hf := F.size
  refine ⟨b.sp.fr F (fun i hi e => b.dis i hi e), A, ?_, fun i hi => ⟨(b.lp i hi).1, Nat.lt_of_lt_of_le (b.lp i hi).2 F.size⟩, ?_, ((Fr.grown (O := R) b.gr).trans F).new (fun i hi e => absurd (b.lr i e).1 (by omega)), b.gs, g2⟩
  · intro i hi hr
    rcases hr with e | e
    · exact b.dis i hi e
    · have := (b.lp i hi).2; omega
  · intro i hi
    rcases hi with e | e
    · have := b.lr i e; omega
    · omega

/-! ### same -/
set_option maxRecDepth 10000 in
set_option maxHeartbeats 4000000 in
theorem same9_is {w0 w : World} {P R : Nat → Prop} {p q : Nat} {f : Fo} (B : Hid (Both w0 w P R p q f f)) (hm : Hid (f.len ≤ 60)) (a b : Int) (ia : I64 a) (ib : I64 b) :
    Calls Try.prog 9 #[.pointer (some ⟨p, 0, none⟩), .pointer (some ⟨q, 0, none⟩), sv a b] w fun e w' => e = .returned (.bool true) ∧ w.grownBy w' none := by
  have qe := eqGuardSlots
  have qq := run_eql_slots
  obtain ⟨on, hon⟩ : ∃ on, oN (f.parent (a, b)) = on := ⟨_, rfl⟩
  obtain ⟨oa, hoa⟩ : ∃ oa, oA (f.parent (a, b)) = oa := ⟨_, rfl⟩
  obtain ⟨ob, hob⟩ : ∃ ob, oB (f.parent (a, b)) = ob := ⟨_, rfl⟩
  obtain ⟨hb, hhb⟩ : ∃ hb, f.has (a, b) = hb := ⟨_, rfl⟩
  obtain ⟨L1, hL1⟩ : ∃ L, f.children (a, b) = L := ⟨_, rfl⟩
  obtain ⟨L2, hL2⟩ : ∃ L, f.kin (a, b) = L := ⟨_, rfl⟩
  obtain ⟨n, hn⟩ : ∃ n, f.len = n := ⟨_, rfl⟩
  have hb1 : L1.length ≤ 60 := by have := len_children (f := f) (a, b); rw [hL1] at this; have := hm.out; omega
  have hb2 : L2.length ≤ 60 := by have := Fo.kin_len (f := f) (a, b); rw [hL2] at this; have := hm.out; omega
  have Hon := hideIt hon
  have Hoa := hideIt hoa
  have Hob := hideIt hob
  have Hhb := hideIt hhb
  have HL1 := hideIt hL1
  have HL2 := hideIt hL2
  have Hn := hideIt hn
  have Hb1 := hideIt hb1
  have Hb2 := hideIt hb2
  have hm2 : Hid (f.len ≤ 1000) := hideIt (by have := hm.out; omega)
  obtain ⟨vr, HRA, hrq, hrg⟩ := B.out.rp
  obtain ⟨xr, cr, hvr⟩ := HRA.row.any (show (f.flat 0).length = n by rw [Fo.flat_len]; exact hn)
  subst hvr
  have HC := hideIt HRA.cell
  have hsq := M.seq_refl on oa
  clear hon hoa hob hhb hL1 hL2 hn hb1 hb2 HRA hrg
  go_enter Try.func9, Try.ntmps9
  go_upto_region 1 with fail
  obtain ⟨W, hW, X, g0⟩ := sboxNew w a b
  rw [hW]
  clear hW
  have x0 := X.at0
  have x1 := X.at1
  go_wp2_with fail
  refine (parent_is (B.out.sp.kept g0) a b ia ib on oa ob Hon.out Hoa.out Hob.out).mono ?_
  rintro _ w1 ⟨rfl, g1⟩
  clear x0 x1
  go_upto_region 2 with fail
  obtain ⟨W2, hW2, Y, g2⟩ := sboxNew w1 on oa
  rw [hW2]
  clear hW2
  obtain ⟨y1, hy1⟩ : ∃ y1, y1 = w1.heap.size := ⟨_, rfl⟩
  rw [← hy1] at Y ⊢
  have G2 := gbTrans g0 (gbTrans g1 g2)
  have X2 := X.kept (gbTrans g1 g2)
  have x0 := X2.at0
  have x1 := X2.at1
  clear hy1
  go_wp2_with fail
  refine (rparent_is (B.out.rp.kept G2) B.out.gt hm.out a b on oa ob Hon.out Hoa.out Hob.out).mono ?_
  rintro _ w3 ⟨rfl, g3⟩
  clear x0 x1
  go_upto_region 3 with fail
  obtain ⟨W4, hW4, Z, g4⟩ := sboxNew w3 on oa
  rw [hW4]
  clear hW4
  obtain ⟨z1, hz1⟩ : ∃ z1, z1 = w3.heap.size := ⟨_, rfl⟩
  rw [← hz1] at Z ⊢
  have G4 := gbTrans G2 (gbTrans g3 g4)
  have X4 := X2.kept (gbTrans g3 g4)
  have Y4 := Y.kept (gbTrans g3 g4)
  have HT : ∀ W', W4.grownBy W' none → (W'.cell? ⟨w.heap.size, 0, none⟩ = some (.int .i64 a) ∧ W'.cell? ⟨w.heap.size, 1, none⟩ = some (.int .i64 b) ∧ W'.cell? ⟨y1, 0, none⟩ = some (.int .i64 on) ∧ W'.cell? ⟨y1, 1, none⟩ = some (.int .i64 oa) ∧ W'.cell? ⟨z1, 0, none⟩ = some (.int .i64 on) ∧ W'.cell? ⟨z1, 1, none⟩ = some (.int .i64 oa) ∧ W'.cell? ⟨q, 0, none⟩ = some (.slice xr n cr)) := fun W' g' => ⟨(X4.kept g').at0, (X4.kept g').at1, (Y4.kept g').at0, (Y4.kept g').at1, (Z.kept g').at0, (Z.kept g').at1, (gbTrans G4 g').cell HC.out (by simp)⟩
  have gd := gbDrew (gbRefl W4 none)
  have T0 := HT W4.drew gd
  have HB4 := hideIt (B.out.kept G4)
  clear hz1
  go_region_held3 (fun W' => W'.cell? ⟨w.heap.size, 0, none⟩ = some (.int .i64 a) ∧ W'.cell? ⟨w.heap.size, 1, none⟩ = some (.int .i64 b) ∧ W'.cell? ⟨y1, 0, none⟩ = some (.int .i64 on) ∧ W'.cell? ⟨y1, 1, none⟩ = some (.int .i64 oa) ∧ W'.cell? ⟨z1, 0, none⟩ = some (.int .i64 on) ∧ W'.cell? ⟨z1, 1, none⟩ = some (.int .i64 oa) ∧ W'.cell? ⟨q, 0, none⟩ = some (.slice xr n cr))
    (first | with_reducible exact T13 | with_reducible exact T12 | with_reducible exact T11 | with_reducible exact T10 | with_reducible exact T9 | with_reducible exact T8 | with_reducible exact T7 | with_reducible exact T6 | with_reducible exact T5 | with_reducible exact T0 | fail)
    ((first | (go_at_call 19; refine (has_is (HB4.out.kept gd).sp a b ia ib hb Hhb.out).mono ?_; rintro _ w5 ⟨rfl, g5⟩; have G5 := gbTrans gd g5; have T5 := HT w5 G5) | (go_at_call 27; refine (rhas_is (HB4.out.kept G5).rp HB4.out.gt hm.out a b hb Hhb.out).mono ?_; rintro _ w6 ⟨rfl, g6⟩; have G6 := gbTrans G5 g6; have T6 := HT w6 G6) | (go_at_call 17; refine (children_is (HB4.out.kept G6).sp a b ia ib L1 HL1.out (by have := Hb1.out; omega)).mono ?_; rintro _ w7 ⟨v7, rfl, l7, g7⟩; have G7 := gbTrans G6 g7; have T7 := HT w7 G7; have l7 := hideIt l7) | (go_at_call 28; refine (rchildren_is (HB4.out.kept G7).rp HB4.out.gt hm.out a b L1 HL1.out).mono ?_; rintro _ w8 ⟨v8, rfl, l8, g8⟩; have G8 := gbTrans G7 g8; have T8 := HT w8 G8; have l8 := hideIt l8; have g8' := g8) | (go_at_call 20; refine (same_is (l10.out.kept g11') l11.out (by have := Hb2.out; omega)).mono ?_; rintro _ w12 ⟨rfl, g12⟩; have G12 := gbTrans G11 g12; have T12 := HT w12 G12) | (go_at_call 20; refine (same_is (l7.out.kept g8') l8.out (by have := Hb1.out; omega)).mono ?_; rintro _ w9 ⟨rfl, g9⟩; have G9 := gbTrans G8 g9; have T9 := HT w9 G9) | (go_at_call 14; refine (kin_is (HB4.out.kept G9).sp HB4.out.gs a b ia ib hm2.out L2 HL2.out).mono ?_; rintro _ w10 ⟨v10, rfl, l10, g10⟩; have G10 := gbTrans G9 g10; have T10 := HT w10 G10; have l10 := hideIt l10) | (go_at_call 29; refine (rkin_is (HB4.out.kept G10).rp HB4.out.gt hm.out a b L2 HL2.out).mono ?_; rintro _ w11 ⟨v11, rfl, l11, g11⟩; have G11 := gbTrans G10 g11; have T11 := HT w11 G11; have l11 := hideIt l11; have g11' := g11) | (go_at_call 13; refine (len_is (HB4.out.kept G12).sp n Hn.out).mono ?_; rintro _ w13 ⟨rfl, hw13⟩; have T13 := HT w13 (by rw [hw13]; exact G12); have G13 : W4.grownBy w13 none := (by rw [hw13]; exact G12); clear hw13) | fail))
  rename_i hold
  clear hold T0 T5 T6 T7 T8 T9 T10 T11 T12 T13 HT
  have HF := hideIt (gbTrans G4 G13)
  go_wp2
  go_ret
  exact ⟨rfl, HF.out⟩

/-! ### act -/
theorem len_root (f : Fo) (s : Int × Int) : (f.rootF s).len ≤ f.len + 1 := by
  unfold Fo.rootF Fo.len
  split
  · omega
  · rw [Fo.pre_app, Fo.pre_one]; simp
theorem len_child {f : Fo} (G : Good f) (o s : Int × Int) : (f.childF o s).len ≤ f.len + 1 := by
  unfold Fo.childF Fo.len
  cases ho : f.has o with
  | false => simp
  | true =>
    cases hs : f.has s with
    | true => simp
    | false =>
      simp only [if_true, Bool.false_eq_true, if_false]
      rw [Fo.len_add G.nd (Fo.has_iff.1 ho)]
      exact Nat.le_refl _
theorem len_dropF {f : Fo} (G : Good f) (s : Int × Int) : (f.dropF s).len ≤ f.len + 1 := by
  unfold Fo.dropF Fo.len
  cases hs : f.has s with
  | false => simp
  | true => simp only [if_true]; have := Fo.len_drop G.nd (Fo.has_iff.1 hs); omega
theorem len_moveF (f : Fo) (s t : Int × Int) : (f.moveF s t).len ≤ f.len + 1 := by
  unfold Fo.moveF Fo.len
  split
  · split
    · omega
    · rw [Fo.len_mv]; omega
  · omega

/-- What an act leaves. -/
def Acted (w0 w' : World) (p q n : Nat) : Prop := ∃ P R f, Both w0 w' P R p q f f ∧ f.len ≤ n

set_option maxRecDepth 10000 in
set_option maxHeartbeats 2000000 in
theorem act0 {w0 w : World} {P R : Nat → Prop} {p q : Nat} {f : Fo} (B : Hid (Both w0 w P R p q f f)) (hm : Hid (f.len ≤ 60)) (a b c d : Int) (ia : I64 a) (ib : I64 b) (ic : I64 c) (id : I64 d) :
    Calls Try.prog 8 #[.pointer (some ⟨p, 0, none⟩), .pointer (some ⟨q, 0, none⟩), .agg #[.int .i64 0, .int .i64 a, .int .i64 b, .int .i64 c, .int .i64 d]] w fun x w' => x = .returned (.bool true) ∧ Acted w0 w' p q (f.len + 1) := by
  obtain ⟨e, he⟩ : ∃ e, f.rootE (a, b) = e := ⟨_, rfl⟩
  have he := hideIt he
  have hm2 : Hid (f.len ≤ 1000) := hideIt (by have := hm.out; omega)
  go_enter Try.func8, Try.ntmps8
  go_upto_region 1 with fail
  obtain ⟨W, hW, BX, g0⟩ := oboxNew w 0 a b c d
  rw [hW]
  clear hW
  have b0 := BX.at0
  have hxP : ¬ P w.heap.size := fun h => absurd (B.out.lp _ h).2 (Nat.lt_irrefl _)
  have hxR : ¬ R w.heap.size := fun h => absurd (B.out.lr _ h).2 (Nat.lt_irrefl _)
  have gd := gbDrew (gbRefl W none)
  have BX0 := BX.kept gd
  have T0 : (W.drew.cell? ⟨w.heap.size, 1, none⟩ = some (.int .i64 a) ∧ W.drew.cell? ⟨w.heap.size, 2, none⟩ = some (.int .i64 b) ∧ W.drew.cell? ⟨w.heap.size, 3, none⟩ = some (.int .i64 c) ∧ W.drew.cell? ⟨w.heap.size, 4, none⟩ = some (.int .i64 d)) := ⟨BX0.at1, BX0.at2, BX0.at3, BX0.at4⟩
  have HBx := hideIt (B.out.kept (gbTrans g0 gd))
  go_wp2
  go_region_held3 (fun W' => W'.cell? ⟨w.heap.size, 1, none⟩ = some (.int .i64 a) ∧ W'.cell? ⟨w.heap.size, 2, none⟩ = some (.int .i64 b) ∧ W'.cell? ⟨w.heap.size, 3, none⟩ = some (.int .i64 c) ∧ W'.cell? ⟨w.heap.size, 4, none⟩ = some (.int .i64 d))
    (first | with_reducible exact T6 | with_reducible exact T5 | with_reducible exact T0 | fail)
    ((first | (go_at_call 11; refine (root_is (HBx.out).sp a b e ia ib hm2.out he.out).mono ?_; rintro _ w5 ⟨rfl, A5, F5⟩; have HB5 := hideIt (HBx.out.prog F5 A5 (B.out.gs.root ia ib)); have BX5 := BX0.fr F5 hxP; have T5 : (w5.cell? ⟨w.heap.size, 1, none⟩ = some (.int .i64 a) ∧ w5.cell? ⟨w.heap.size, 2, none⟩ = some (.int .i64 b) ∧ w5.cell? ⟨w.heap.size, 3, none⟩ = some (.int .i64 c) ∧ w5.cell? ⟨w.heap.size, 4, none⟩ = some (.int .i64 d)) := ⟨BX5.at1, BX5.at2, BX5.at3, BX5.at4⟩; clear A5 F5) | (go_at_call 22; refine (rroot_is HB5.out.rp HB5.out.gt hm.out a b e he.out).mono ?_; rintro _ w6 ⟨rfl, A6, F6⟩; have HB6 := hideIt (HB5.out.doc F6 A6 (B.out.gs.root ia ib)); have BX6 := BX5.fr F6 hxR; have T6 : (w6.cell? ⟨w.heap.size, 1, none⟩ = some (.int .i64 a) ∧ w6.cell? ⟨w.heap.size, 2, none⟩ = some (.int .i64 b) ∧ w6.cell? ⟨w.heap.size, 3, none⟩ = some (.int .i64 c) ∧ w6.cell? ⟨w.heap.size, 4, none⟩ = some (.int .i64 d)) := ⟨BX6.at1, BX6.at2, BX6.at3, BX6.at4⟩; clear A6 F6) | fail))
  rename_i hold
  clear hold T0 T5 T6
  have HF : Hid (Acted w0 w6 p q (f.len + 1)) := hideIt ⟨_, _, _, HB6.out, len_root f (a, b)⟩
  go_wp2
  go_ret
  exact ⟨rfl, HF.out⟩

set_option maxRecDepth 10000 in
set_option maxHeartbeats 2000000 in
theorem act1 {w0 w : World} {P R : Nat → Prop} {p q : Nat} {f : Fo} (B : Hid (Both w0 w P R p q f f)) (hm : Hid (f.len ≤ 60)) (a b c d : Int) (ia : I64 a) (ib : I64 b) (ic : I64 c) (id : I64 d) :
    Calls Try.prog 8 #[.pointer (some ⟨p, 0, none⟩), .pointer (some ⟨q, 0, none⟩), .agg #[.int .i64 1, .int .i64 a, .int .i64 b, .int .i64 c, .int .i64 d]] w fun x w' => x = .returned (.bool true) ∧ Acted w0 w' p q (f.len + 1) := by
  obtain ⟨e, he⟩ : ∃ e, f.childE (a, b) (c, d) = e := ⟨_, rfl⟩
  have he := hideIt he
  have hm2 : Hid (f.len ≤ 1000) := hideIt (by have := hm.out; omega)
  go_enter Try.func8, Try.ntmps8
  go_upto_region 1 with fail
  obtain ⟨W, hW, BX, g0⟩ := oboxNew w 1 a b c d
  rw [hW]
  clear hW
  have b0 := BX.at0
  have hxP : ¬ P w.heap.size := fun h => absurd (B.out.lp _ h).2 (Nat.lt_irrefl _)
  have hxR : ¬ R w.heap.size := fun h => absurd (B.out.lr _ h).2 (Nat.lt_irrefl _)
  have gd := gbDrew (gbRefl W none)
  have BX0 := BX.kept gd
  have T0 : (W.drew.cell? ⟨w.heap.size, 1, none⟩ = some (.int .i64 a) ∧ W.drew.cell? ⟨w.heap.size, 2, none⟩ = some (.int .i64 b) ∧ W.drew.cell? ⟨w.heap.size, 3, none⟩ = some (.int .i64 c) ∧ W.drew.cell? ⟨w.heap.size, 4, none⟩ = some (.int .i64 d)) := ⟨BX0.at1, BX0.at2, BX0.at3, BX0.at4⟩
  have HBx := hideIt (B.out.kept (gbTrans g0 gd))
  go_wp2
  go_region_held3 (fun W' => W'.cell? ⟨w.heap.size, 1, none⟩ = some (.int .i64 a) ∧ W'.cell? ⟨w.heap.size, 2, none⟩ = some (.int .i64 b) ∧ W'.cell? ⟨w.heap.size, 3, none⟩ = some (.int .i64 c) ∧ W'.cell? ⟨w.heap.size, 4, none⟩ = some (.int .i64 d))
    (first | with_reducible exact T6 | with_reducible exact T5 | with_reducible exact T0 | fail)
    ((first | (go_at_call 12; refine (child_is (HBx.out).sp B.out.gs a b c d e ia ib ic id hm2.out he.out).mono ?_; rintro _ w5 ⟨rfl, A5, F5⟩; have HB5 := hideIt (HBx.out.prog F5 A5 (B.out.gs.child ic id)); have BX5 := BX0.fr F5 hxP; have T5 : (w5.cell? ⟨w.heap.size, 1, none⟩ = some (.int .i64 a) ∧ w5.cell? ⟨w.heap.size, 2, none⟩ = some (.int .i64 b) ∧ w5.cell? ⟨w.heap.size, 3, none⟩ = some (.int .i64 c) ∧ w5.cell? ⟨w.heap.size, 4, none⟩ = some (.int .i64 d)) := ⟨BX5.at1, BX5.at2, BX5.at3, BX5.at4⟩; clear A5 F5) | (go_at_call 23; refine (rchild_is HB5.out.rp HB5.out.gt hm.out a b c d e he.out).mono ?_; rintro _ w6 ⟨rfl, A6, F6⟩; have HB6 := hideIt (HB5.out.doc F6 A6 (B.out.gs.child ic id)); have BX6 := BX5.fr F6 hxR; have T6 : (w6.cell? ⟨w.heap.size, 1, none⟩ = some (.int .i64 a) ∧ w6.cell? ⟨w.heap.size, 2, none⟩ = some (.int .i64 b) ∧ w6.cell? ⟨w.heap.size, 3, none⟩ = some (.int .i64 c) ∧ w6.cell? ⟨w.heap.size, 4, none⟩ = some (.int .i64 d)) := ⟨BX6.at1, BX6.at2, BX6.at3, BX6.at4⟩; clear A6 F6) | fail))
  rename_i hold
  clear hold T0 T5 T6
  have HF : Hid (Acted w0 w6 p q (f.len + 1)) := hideIt ⟨_, _, _, HB6.out, len_child B.out.gs (a, b) (c, d)⟩
  go_wp2
  go_ret
  exact ⟨rfl, HF.out⟩

set_option maxRecDepth 10000 in
set_option maxHeartbeats 2000000 in
theorem act2 {w0 w : World} {P R : Nat → Prop} {p q : Nat} {f : Fo} (B : Hid (Both w0 w P R p q f f)) (hm : Hid (f.len ≤ 60)) (a b c d : Int) (ia : I64 a) (ib : I64 b) (ic : I64 c) (id : I64 d) :
    Calls Try.prog 8 #[.pointer (some ⟨p, 0, none⟩), .pointer (some ⟨q, 0, none⟩), .agg #[.int .i64 2, .int .i64 a, .int .i64 b, .int .i64 c, .int .i64 d]] w fun x w' => x = .returned (.bool true) ∧ Acted w0 w' p q (f.len + 1) := by
  obtain ⟨e, he⟩ : ∃ e, f.dropE (a, b) = e := ⟨_, rfl⟩
  have he := hideIt he
  have hm2 : Hid (f.len ≤ 1000) := hideIt (by have := hm.out; omega)
  go_enter Try.func8, Try.ntmps8
  go_upto_region 1 with fail
  obtain ⟨W, hW, BX, g0⟩ := oboxNew w 2 a b c d
  rw [hW]
  clear hW
  have b0 := BX.at0
  have hxP : ¬ P w.heap.size := fun h => absurd (B.out.lp _ h).2 (Nat.lt_irrefl _)
  have hxR : ¬ R w.heap.size := fun h => absurd (B.out.lr _ h).2 (Nat.lt_irrefl _)
  have gd := gbDrew (gbRefl W none)
  have BX0 := BX.kept gd
  have T0 : (W.drew.cell? ⟨w.heap.size, 1, none⟩ = some (.int .i64 a) ∧ W.drew.cell? ⟨w.heap.size, 2, none⟩ = some (.int .i64 b) ∧ W.drew.cell? ⟨w.heap.size, 3, none⟩ = some (.int .i64 c) ∧ W.drew.cell? ⟨w.heap.size, 4, none⟩ = some (.int .i64 d)) := ⟨BX0.at1, BX0.at2, BX0.at3, BX0.at4⟩
  have HBx := hideIt (B.out.kept (gbTrans g0 gd))
  go_wp2
  go_region_held3 (fun W' => W'.cell? ⟨w.heap.size, 1, none⟩ = some (.int .i64 a) ∧ W'.cell? ⟨w.heap.size, 2, none⟩ = some (.int .i64 b) ∧ W'.cell? ⟨w.heap.size, 3, none⟩ = some (.int .i64 c) ∧ W'.cell? ⟨w.heap.size, 4, none⟩ = some (.int .i64 d))
    (first | with_reducible exact T6 | with_reducible exact T5 | with_reducible exact T0 | fail)
    ((first | (go_at_call 18; refine (drop_is (HBx.out).sp B.out.gs a b e ia ib hm2.out he.out).mono ?_; rintro _ w5 ⟨rfl, A5, F5⟩; have HB5 := hideIt (HBx.out.prog F5 A5 (B.out.gs.drop (a, b))); have BX5 := BX0.fr F5 hxP; have T5 : (w5.cell? ⟨w.heap.size, 1, none⟩ = some (.int .i64 a) ∧ w5.cell? ⟨w.heap.size, 2, none⟩ = some (.int .i64 b) ∧ w5.cell? ⟨w.heap.size, 3, none⟩ = some (.int .i64 c) ∧ w5.cell? ⟨w.heap.size, 4, none⟩ = some (.int .i64 d)) := ⟨BX5.at1, BX5.at2, BX5.at3, BX5.at4⟩; clear A5 F5) | (go_at_call 24; refine (rdrop_is HB5.out.rp HB5.out.gt hm.out a b e he.out).mono ?_; rintro _ w6 ⟨rfl, A6, F6⟩; have HB6 := hideIt (HB5.out.doc F6 A6 (B.out.gs.drop (a, b))); have BX6 := BX5.fr F6 hxR; have T6 : (w6.cell? ⟨w.heap.size, 1, none⟩ = some (.int .i64 a) ∧ w6.cell? ⟨w.heap.size, 2, none⟩ = some (.int .i64 b) ∧ w6.cell? ⟨w.heap.size, 3, none⟩ = some (.int .i64 c) ∧ w6.cell? ⟨w.heap.size, 4, none⟩ = some (.int .i64 d)) := ⟨BX6.at1, BX6.at2, BX6.at3, BX6.at4⟩; clear A6 F6) | fail))
  rename_i hold
  clear hold T0 T5 T6
  have HF : Hid (Acted w0 w6 p q (f.len + 1)) := hideIt ⟨_, _, _, HB6.out, len_dropF B.out.gs (a, b)⟩
  go_wp2
  go_ret
  exact ⟨rfl, HF.out⟩

set_option maxRecDepth 10000 in
set_option maxHeartbeats 2000000 in
theorem act3 {w0 w : World} {P R : Nat → Prop} {p q : Nat} {f : Fo} (B : Hid (Both w0 w P R p q f f)) (hm : Hid (f.len ≤ 60)) (a b c d : Int) (ia : I64 a) (ib : I64 b) (ic : I64 c) (id : I64 d) :
    Calls Try.prog 8 #[.pointer (some ⟨p, 0, none⟩), .pointer (some ⟨q, 0, none⟩), .agg #[.int .i64 3, .int .i64 a, .int .i64 b, .int .i64 c, .int .i64 d]] w fun x w' => x = .returned (.bool true) ∧ Acted w0 w' p q (f.len + 1) := by
  obtain ⟨e, he⟩ : ∃ e, f.moveE (a, b) (c, d) = e := ⟨_, rfl⟩
  have he := hideIt he
  have hm2 : Hid (f.len ≤ 1000) := hideIt (by have := hm.out; omega)
  go_enter Try.func8, Try.ntmps8
  go_upto_region 1 with fail
  obtain ⟨W, hW, BX, g0⟩ := oboxNew w 3 a b c d
  rw [hW]
  clear hW
  have b0 := BX.at0
  have hxP : ¬ P w.heap.size := fun h => absurd (B.out.lp _ h).2 (Nat.lt_irrefl _)
  have hxR : ¬ R w.heap.size := fun h => absurd (B.out.lr _ h).2 (Nat.lt_irrefl _)
  have gd := gbDrew (gbRefl W none)
  have BX0 := BX.kept gd
  have T0 : (W.drew.cell? ⟨w.heap.size, 1, none⟩ = some (.int .i64 a) ∧ W.drew.cell? ⟨w.heap.size, 2, none⟩ = some (.int .i64 b) ∧ W.drew.cell? ⟨w.heap.size, 3, none⟩ = some (.int .i64 c) ∧ W.drew.cell? ⟨w.heap.size, 4, none⟩ = some (.int .i64 d)) := ⟨BX0.at1, BX0.at2, BX0.at3, BX0.at4⟩
  have HBx := hideIt (B.out.kept (gbTrans g0 gd))
  go_wp2
  go_region_held3 (fun W' => W'.cell? ⟨w.heap.size, 1, none⟩ = some (.int .i64 a) ∧ W'.cell? ⟨w.heap.size, 2, none⟩ = some (.int .i64 b) ∧ W'.cell? ⟨w.heap.size, 3, none⟩ = some (.int .i64 c) ∧ W'.cell? ⟨w.heap.size, 4, none⟩ = some (.int .i64 d))
    (first | with_reducible exact T6 | with_reducible exact T5 | with_reducible exact T0 | fail)
    ((first | (go_at_call 21; refine (move_is (HBx.out).sp B.out.gs a b c d e ia ib ic id hm2.out he.out).mono ?_; rintro _ w5 ⟨rfl, A5, F5⟩; have HB5 := hideIt (HBx.out.prog F5 A5 (B.out.gs.move (a, b) ic id)); have BX5 := BX0.fr F5 hxP; have T5 : (w5.cell? ⟨w.heap.size, 1, none⟩ = some (.int .i64 a) ∧ w5.cell? ⟨w.heap.size, 2, none⟩ = some (.int .i64 b) ∧ w5.cell? ⟨w.heap.size, 3, none⟩ = some (.int .i64 c) ∧ w5.cell? ⟨w.heap.size, 4, none⟩ = some (.int .i64 d)) := ⟨BX5.at1, BX5.at2, BX5.at3, BX5.at4⟩; clear A5 F5) | (go_at_call 25; refine (rmove_is HB5.out.rp HB5.out.gt hm.out a b c d e he.out).mono ?_; rintro _ w6 ⟨rfl, A6, F6⟩; have HB6 := hideIt (HB5.out.doc F6 A6 (B.out.gs.move (a, b) ic id)); have BX6 := BX5.fr F6 hxR; have T6 : (w6.cell? ⟨w.heap.size, 1, none⟩ = some (.int .i64 a) ∧ w6.cell? ⟨w.heap.size, 2, none⟩ = some (.int .i64 b) ∧ w6.cell? ⟨w.heap.size, 3, none⟩ = some (.int .i64 c) ∧ w6.cell? ⟨w.heap.size, 4, none⟩ = some (.int .i64 d)) := ⟨BX6.at1, BX6.at2, BX6.at3, BX6.at4⟩; clear A6 F6) | fail))
  rename_i hold
  clear hold T0 T5 T6
  have HF : Hid (Acted w0 w6 p q (f.len + 1)) := hideIt ⟨_, _, _, HB6.out, len_moveF f (a, b) (c, d)⟩
  go_wp2
  go_ret
  exact ⟨rfl, HF.out⟩

set_option maxHeartbeats 1000000 in
theorem act_other {w0 w : World} {P R : Nat → Prop} {p q : Nat} {f : Fo} (B : Hid (Both w0 w P R p q f f)) (k a b c d : Int) (h0 : (k == 0) = false) (h1 : (k == 1) = false) (h2 : (k == 2) = false) (h3 : (k == 3) = false) :
    Calls Try.prog 8 #[.pointer (some ⟨p, 0, none⟩), .pointer (some ⟨q, 0, none⟩), .agg #[.int .i64 k, .int .i64 a, .int .i64 b, .int .i64 c, .int .i64 d]] w fun x w' => x = .returned (.bool true) ∧ Acted w0 w' p q (f.len + 1) := by
  go_enter Try.func8, Try.ntmps8
  go_upto_region 1 with fail
  obtain ⟨W, hW, BX, g0⟩ := oboxNew w k a b c d
  rw [hW]
  clear hW
  have b0 := BX.at0
  have HF : Hid (Acted w0 W p q (f.len + 1)) := hideIt ⟨_, _, _, B.out.kept g0, Nat.le_succ _⟩
  go_wp2
  go_ret
  exact ⟨rfl, HF.out⟩
theorem act_is {w0 w : World} {P R : Nat → Prop} {p q : Nat} {f : Fo} (B : Both w0 w P R p q f f) (hm : f.len ≤ 60) (k a b c d : Int) (h : Op5 a b c d) :
    Calls Try.prog 8 #[.pointer (some ⟨p, 0, none⟩), .pointer (some ⟨q, 0, none⟩), .agg #[.int .i64 k, .int .i64 a, .int .i64 b, .int .i64 c, .int .i64 d]] w fun x w' => x = .returned (.bool true) ∧ Acted w0 w' p q (f.len + 1) := by
  by_cases h0 : k = 0
  · subst h0; exact act0 (hideIt B) (hideIt hm) a b c d h.a h.b h.c h.d
  · by_cases h1 : k = 1
    · subst h1; exact act1 (hideIt B) (hideIt hm) a b c d h.a h.b h.c h.d
    · by_cases h2 : k = 2
      · subst h2; exact act2 (hideIt B) (hideIt hm) a b c d h.a h.b h.c h.d
      · by_cases h3 : k = 3
        · subst h3; exact act3 (hideIt B) (hideIt hm) a b c d h.a h.b h.c h.d
        · exact act_other (hideIt B) k a b c d (by simp [h0]) (by simp [h1]) (by simp [h2]) (by simp [h3])

end Go.Proofs.Ytboojbnnjbmnoaa
