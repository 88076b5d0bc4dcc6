/-
  AN ACT ON BOTH SIDES: donjonlaw10's Act answers true, and both sides stand alike behind it.
-/
import Derived.Test.YtdnoidnpiaadaaaGreatBth
import Derived.Test.YtdnoidnpiaadaaaGreatH1
import Derived.Deep.Cut
import Derived.Deep.CutRange
import Derived.Deep.DeepCutAuto
import Derived.Deep.RegionHeld3
import Derived.Deep.LoopGhost
namespace Go.Proofs.YtdnoidnpiaadaaaGreat
set_option maxRecDepth 10000
open Go.RowKit
set_option linter.unusedVariables false

/-- What was written from w to w' is the sides' own, or new; what the sides have now they had, or it is new. -/
structure Bf (P R : Nat → Prop) (w w' : World) (P' R' : Nat → Prop) : Prop where
  fr : Fr (fun i => P i ∨ R i) w w'
  sp : ∀ i, P' i → P i ∨ w.heap.size ≤ i
  sr : ∀ i, R' i → R i ∨ w.heap.size ≤ i
theorem Bf.refl (P R : Nat → Prop) (w : World) : Bf P R w w P R := ⟨Fr.refl _ w, fun _ h => .inl h, fun _ h => .inl h⟩
theorem Bf.kept {P R P' R' : Nat → Prop} {w w1 w2 : World} (h : Bf P R w w1 P' R') (g : w1.grownBy w2 none) : Bf P R w w2 P' R' := ⟨h.fr.trans (Fr.grown g), h.sp, h.sr⟩
theorem Bf.prog {P R P' R' : Nat → Prop} {w w1 w2 : World} (h : Bf P R w w1 P' R') (F : Fr P' w1 w2) : Bf P R w w2 (wide P' w1 w2) R' :=
  ⟨h.fr.join F (fun i hi k => by rcases h.sp i k with e | e; exact .inl e; omega), fun i hi => by rcases hi with e | e; exact h.sp i e; have := h.fr.size; exact .inr (by omega), h.sr⟩
theorem Bf.doc {P R P' R' : Nat → Prop} {w w1 w2 : World} (h : Bf P R w w1 P' R') (F : Fr R' w1 w2) : Bf P R w w2 P' (wide R' w1 w2) :=
  ⟨h.fr.join F (fun i hi k => by rcases h.sr i k with e | e; exact .inr e; omega), h.sp, fun i hi => by rcases hi with e | e; exact h.sr i e; have := h.fr.size; exact .inr (by omega)⟩
theorem Bf.keep {P R P' R' : Nat → Prop} {w w1 w2 : World} {x : Nat} (h : Bf P R w w1 P' R') (g : w1.grownBy w2 (some x)) (hx : w.heap.size ≤ x) : Bf P R w w2 P' R' :=
  ⟨h.fr.join (Fr.at (O := fun i => i = x) g rfl) (fun i hi e => by omega), h.sp, h.sr⟩
theorem Bf.cell {P R P' R' : Nat → Prop} {w w' : World} {a : Addr} {v : Value} (h : Bf P R w w' P' R') (hc : w.cell? a = some v) (np : ¬ P a.block) (nr : ¬ R a.block) : w'.cell? a = some v := h.fr.cell hc (fun e => e.elim np nr)

set_option maxHeartbeats 2000000 in
theorem act0 {w0 w : World} {P R : Nat → Prop} {p s t m q : Nat} {S : St} {f : T9.Fo} (B : Bh w0 w P R p s t m q S f S f) (I : M.Inv S f) (a a2 b b2 d d2 ck co cr cb cg cn n rt bd gd bt : Int) (o : Op18 ⟨0, a, a2, b, b2, d, d2, ⟨ck, co, cr, cb, cg, cn⟩, n, rt, bd, gd, bt⟩) (hm : m ≤ 1000) (hl : f.len ≤ 59) (hl2 : f.len ≤ 1000) (hl3 : f.len ≤ 60) :
    Calls Tryz.prog 7 #[.pointer (some ⟨p, 0, none⟩), .pointer (some ⟨q, 0, none⟩), .agg #[.int .i64 0, .int .i64 a, .int .i64 a2, .int .i64 b, .int .i64 b2, .int .i64 d, .int .i64 d2, .int .i64 ck, .int .i64 co, .int .i64 cr, .int .u64 cb, .int .u64 cg, .int .i64 cn, .int .i64 n, .int .i64 rt, .int .u64 bd, .int .u64 gd, .int .i64 bt]] w fun e w' => ∃ P' R' m' S' f', e = .returned (.bool true) ∧ Bh w0 w' P' R' p s t m' q S' f' S' f' ∧ M.Inv S' f' ∧ f'.len ≤ f.len + 1 ∧ m' ≤ m + 1 ∧ Bf P R w w' P' R' := by
  obtain ⟨e, he⟩ : ∃ e, M.addE S a n = e := ⟨_, rfl⟩
  have HGs := hideIt B.cs.gs
  have HGt := hideIt B.cs.gt
  have HB0 := hideIt B
  clear B
  go_enter Tryz.func7, Tryz.ntmps7
  go_upto_region 1 with fail
  obtain ⟨W, hW, X, g0⟩ := oboxNew w ⟨0, a, a2, b, b2, d, d2, ⟨ck, co, cr, cb, cg, cn⟩, n, rt, bd, gd, bt⟩
  simp only at hW
  rw [hW]
  clear hW
  have HX := hideIt X
  have HB1 := hideIt (HB0.out.kept g0)
  have HN := hideIt (Nb.mk (HB0.out.out (Nat.le_refl _)).1 (HB0.out.out (Nat.le_refl _)).2 X.lt)
  have HF := hideIt ((Bf.refl P R w).kept g0)
  clear X g0
  have x0 := HX.out.at0
  simp only at x0
  go_upto_region 3 with fail
  clear x0
  have T0 : W.drew.cell? ⟨w.heap.size, 1, none⟩ = some (.int .i64 a) ∧ W.drew.cell? ⟨w.heap.size, 13, none⟩ = some (.int .i64 n) := ⟨(HX.out.kept (gbDrewN W 1 none)).at1, (HX.out.kept (gbDrewN W 1 none)).at13⟩
  go_region_held3 (fun w' => w'.cell? ⟨w.heap.size, 1, none⟩ = some (.int .i64 a) ∧ w'.cell? ⟨w.heap.size, 13, none⟩ = some (.int .i64 n))
    (first | with_reducible exact T0 | with_reducible exact T2 | with_reducible exact T1 | fail)
    ((first | (go_at_call 30; refine (HB2.out.rc.add a n e he).mono ?_; rintro _ w2 ⟨rfl, A2, F2⟩; have HB3 := hideIt (HB2.out.doc A2 F2); have HX3 := hideIt (F2.obox HX2.out HN2.out.nr); have HF3 := hideIt (HF2.out.doc F2); have T2 : w2.cell? ⟨w.heap.size, 1, none⟩ = some (.int .i64 a) ∧ w2.cell? ⟨w.heap.size, 13, none⟩ = some (.int .i64 n) := ⟨HX3.out.at1, HX3.out.at13⟩; clear A2 F2) | (go_at_call 29; refine ((HB1.out.kept (gbDrewN W 1 none)).cs.nodeA a n e o.a hm he).mono ?_; rintro _ w1 ⟨rfl, A1, F1⟩; have HB2 := hideIt ((HB1.out.kept (gbDrewN W 1 none)).prog A1 F1); have HN2 := hideIt ((HN.out.kept (gbDrewN W 1 none)).prog F1); have HX2 := hideIt (F1.obox (HX.out.kept (gbDrewN W 1 none)) HN.out.np); have HF2 := hideIt ((HF.out.kept (gbDrewN W 1 none)).prog F1); have T1 : w1.cell? ⟨w.heap.size, 1, none⟩ = some (.int .i64 a) ∧ w1.cell? ⟨w.heap.size, 13, none⟩ = some (.int .i64 n) := ⟨HX2.out.at1, HX2.out.at13⟩; clear A1 F1) | fail))
  clear T0 T1 T2
  go_wp2
  go_ret
  exact ⟨_, _, _, _, _, rfl, HB3.out, I.same (fun x => M.gc_add _ _ _ x), Nat.le_succ _, (Nat.le_refl _), HF3.out⟩

set_option maxHeartbeats 2000000 in
theorem act1 {w0 w : World} {P R : Nat → Prop} {p s t m q : Nat} {S : St} {f : T9.Fo} (B : Bh w0 w P R p s t m q S f S f) (I : M.Inv S f) (a a2 b b2 d d2 ck co cr cb cg cn n rt bd gd bt : Int) (o : Op18 ⟨1, a, a2, b, b2, d, d2, ⟨ck, co, cr, cb, cg, cn⟩, n, rt, bd, gd, bt⟩) (hm : m ≤ 1000) (hl : f.len ≤ 59) (hl2 : f.len ≤ 1000) (hl3 : f.len ≤ 60) :
    Calls Tryz.prog 7 #[.pointer (some ⟨p, 0, none⟩), .pointer (some ⟨q, 0, none⟩), .agg #[.int .i64 1, .int .i64 a, .int .i64 a2, .int .i64 b, .int .i64 b2, .int .i64 d, .int .i64 d2, .int .i64 ck, .int .i64 co, .int .i64 cr, .int .u64 cb, .int .u64 cg, .int .i64 cn, .int .i64 n, .int .i64 rt, .int .u64 bd, .int .u64 gd, .int .i64 bt]] w fun e w' => ∃ P' R' m' S' f', e = .returned (.bool true) ∧ Bh w0 w' P' R' p s t m' q S' f' S' f' ∧ M.Inv S' f' ∧ f'.len ≤ f.len + 1 ∧ m' ≤ m + 1 ∧ Bf P R w w' P' R' := by
  obtain ⟨e, he⟩ : ∃ e, M.dropE S a = e := ⟨_, rfl⟩
  have HGs := hideIt B.cs.gs
  have HGt := hideIt B.cs.gt
  have HB0 := hideIt B
  clear B
  go_enter Tryz.func7, Tryz.ntmps7
  go_upto_region 1 with fail
  obtain ⟨W, hW, X, g0⟩ := oboxNew w ⟨1, a, a2, b, b2, d, d2, ⟨ck, co, cr, cb, cg, cn⟩, n, rt, bd, gd, bt⟩
  simp only at hW
  rw [hW]
  clear hW
  have HX := hideIt X
  have HB1 := hideIt (HB0.out.kept g0)
  have HN := hideIt (Nb.mk (HB0.out.out (Nat.le_refl _)).1 (HB0.out.out (Nat.le_refl _)).2 X.lt)
  have HF := hideIt ((Bf.refl P R w).kept g0)
  clear X g0
  have x0 := HX.out.at0
  simp only at x0
  go_upto_region 5 with fail
  clear x0
  have T0 : W.drew.cell? ⟨w.heap.size, 1, none⟩ = some (.int .i64 a) := (HX.out.kept (gbDrewN W 1 none)).at1
  go_region_held3 (fun w' => w'.cell? ⟨w.heap.size, 1, none⟩ = some (.int .i64 a))
    (first | with_reducible exact T0 | with_reducible exact T2 | with_reducible exact T1 | fail)
    ((first | (go_at_call 32; refine (HB2.out.rc.wipe a e he).mono ?_; rintro _ w2 ⟨rfl, A2, F2⟩; have HB3 := hideIt (HB2.out.doc A2 F2); have HX3 := hideIt (F2.obox HX2.out HN2.out.nr); have HF3 := hideIt (HF2.out.doc F2); have T2 : w2.cell? ⟨w.heap.size, 1, none⟩ = some (.int .i64 a) := HX3.out.at1; clear A2 F2) | (go_at_call 31; refine ((HB1.out.kept (gbDrewN W 1 none)).cs.clear a e o.a he).mono ?_; rintro _ w1 ⟨rfl, A1, F1⟩; have HB2 := hideIt ((HB1.out.kept (gbDrewN W 1 none)).prog A1 F1); have HN2 := hideIt ((HN.out.kept (gbDrewN W 1 none)).prog F1); have HX2 := hideIt (F1.obox (HX.out.kept (gbDrewN W 1 none)) HN.out.np); have HF2 := hideIt ((HF.out.kept (gbDrewN W 1 none)).prog F1); have T1 : w1.cell? ⟨w.heap.size, 1, none⟩ = some (.int .i64 a) := HX2.out.at1; clear A1 F1) | fail))
  clear T0 T1 T2
  go_wp2
  go_ret
  exact ⟨_, _, _, _, _, rfl, HB3.out, I.same (fun x => M.gc_wipe HGs.out _ x), Nat.le_succ _, (Nat.le_succ _), HF3.out⟩

set_option maxHeartbeats 2000000 in
theorem act2 {w0 w : World} {P R : Nat → Prop} {p s t m q : Nat} {S : St} {f : T9.Fo} (B : Bh w0 w P R p s t m q S f S f) (I : M.Inv S f) (a a2 b b2 d d2 ck co cr cb cg cn n rt bd gd bt : Int) (o : Op18 ⟨2, a, a2, b, b2, d, d2, ⟨ck, co, cr, cb, cg, cn⟩, n, rt, bd, gd, bt⟩) (hm : m ≤ 1000) (hl : f.len ≤ 59) (hl2 : f.len ≤ 1000) (hl3 : f.len ≤ 60) :
    Calls Tryz.prog 7 #[.pointer (some ⟨p, 0, none⟩), .pointer (some ⟨q, 0, none⟩), .agg #[.int .i64 2, .int .i64 a, .int .i64 a2, .int .i64 b, .int .i64 b2, .int .i64 d, .int .i64 d2, .int .i64 ck, .int .i64 co, .int .i64 cr, .int .u64 cb, .int .u64 cg, .int .i64 cn, .int .i64 n, .int .i64 rt, .int .u64 bd, .int .u64 gd, .int .i64 bt]] w fun e w' => ∃ P' R' m' S' f', e = .returned (.bool true) ∧ Bh w0 w' P' R' p s t m' q S' f' S' f' ∧ M.Inv S' f' ∧ f'.len ≤ f.len + 1 ∧ m' ≤ m + 1 ∧ Bf P R w w' P' R' := by
  obtain ⟨e, he⟩ : ∃ e, M.plaE S (a, a2) ⟨ck, co, cr, cb, cg, cn⟩ = e := ⟨_, rfl⟩
  have HGs := hideIt B.cs.gs
  have HGt := hideIt B.cs.gt
  have HB0 := hideIt B
  clear B
  go_enter Tryz.func7, Tryz.ntmps7
  go_upto_region 1 with fail
  obtain ⟨W, hW, X, g0⟩ := oboxNew w ⟨2, a, a2, b, b2, d, d2, ⟨ck, co, cr, cb, cg, cn⟩, n, rt, bd, gd, bt⟩
  simp only at hW
  rw [hW]
  clear hW
  have HX := hideIt X
  have HB1 := hideIt (HB0.out.kept g0)
  have HN := hideIt (Nb.mk (HB0.out.out (Nat.le_refl _)).1 (HB0.out.out (Nat.le_refl _)).2 X.lt)
  have HF := hideIt ((Bf.refl P R w).kept g0)
  clear X g0
  have x0 := HX.out.at0
  simp only at x0
  go_upto_region 7 with fail
  clear x0
  have T0 : W.drew.cell? ⟨w.heap.size, 1, none⟩ = some (.int .i64 a) ∧ W.drew.cell? ⟨w.heap.size, 2, none⟩ = some (.int .i64 a2) ∧ W.drew.cell? ⟨w.heap.size, 7, none⟩ = some (.int .i64 ck) ∧ W.drew.cell? ⟨w.heap.size, 8, none⟩ = some (.int .i64 co) ∧ W.drew.cell? ⟨w.heap.size, 9, none⟩ = some (.int .i64 cr) ∧ W.drew.cell? ⟨w.heap.size, 10, none⟩ = some (.int .u64 cb) ∧ W.drew.cell? ⟨w.heap.size, 11, none⟩ = some (.int .u64 cg) ∧ W.drew.cell? ⟨w.heap.size, 12, none⟩ = some (.int .i64 cn) := ⟨(HX.out.kept (gbDrewN W 1 none)).at1, (HX.out.kept (gbDrewN W 1 none)).at2, (HX.out.kept (gbDrewN W 1 none)).at7, (HX.out.kept (gbDrewN W 1 none)).at8, (HX.out.kept (gbDrewN W 1 none)).at9, (HX.out.kept (gbDrewN W 1 none)).at10, (HX.out.kept (gbDrewN W 1 none)).at11, (HX.out.kept (gbDrewN W 1 none)).at12⟩
  go_region_held3 (fun w' => w'.cell? ⟨w.heap.size, 1, none⟩ = some (.int .i64 a) ∧ w'.cell? ⟨w.heap.size, 2, none⟩ = some (.int .i64 a2) ∧ w'.cell? ⟨w.heap.size, 7, none⟩ = some (.int .i64 ck) ∧ w'.cell? ⟨w.heap.size, 8, none⟩ = some (.int .i64 co) ∧ w'.cell? ⟨w.heap.size, 9, none⟩ = some (.int .i64 cr) ∧ w'.cell? ⟨w.heap.size, 10, none⟩ = some (.int .u64 cb) ∧ w'.cell? ⟨w.heap.size, 11, none⟩ = some (.int .u64 cg) ∧ w'.cell? ⟨w.heap.size, 12, none⟩ = some (.int .i64 cn))
    (first | with_reducible exact T0 | with_reducible exact T2 | with_reducible exact T1 | fail)
    ((first | (go_at_call 34; refine (HB2.out.rc.plant I a a2 ck co cr cb cg cn e o.a o.a2 hl3 he).mono ?_; rintro _ w2 ⟨rfl, A2, F2⟩; have HB3 := hideIt (HB2.out.doc A2 F2); have HX3 := hideIt (F2.obox HX2.out HN2.out.nr); have HF3 := hideIt (HF2.out.doc F2); have T2 : w2.cell? ⟨w.heap.size, 1, none⟩ = some (.int .i64 a) ∧ w2.cell? ⟨w.heap.size, 2, none⟩ = some (.int .i64 a2) ∧ w2.cell? ⟨w.heap.size, 7, none⟩ = some (.int .i64 ck) ∧ w2.cell? ⟨w.heap.size, 8, none⟩ = some (.int .i64 co) ∧ w2.cell? ⟨w.heap.size, 9, none⟩ = some (.int .i64 cr) ∧ w2.cell? ⟨w.heap.size, 10, none⟩ = some (.int .u64 cb) ∧ w2.cell? ⟨w.heap.size, 11, none⟩ = some (.int .u64 cg) ∧ w2.cell? ⟨w.heap.size, 12, none⟩ = some (.int .i64 cn) := ⟨HX3.out.at1, HX3.out.at2, HX3.out.at7, HX3.out.at8, HX3.out.at9, HX3.out.at10, HX3.out.at11, HX3.out.at12⟩; clear A2 F2) | (go_at_call 33; refine ((HB1.out.kept (gbDrewN W 1 none)).cs.plant I a a2 ck co cr cb cg cn e o.a o.a2 o.cb o.cg hl2 he).mono ?_; rintro _ w1 ⟨rfl, A1, F1⟩; have HB2 := hideIt ((HB1.out.kept (gbDrewN W 1 none)).prog A1 F1); have HN2 := hideIt ((HN.out.kept (gbDrewN W 1 none)).prog F1); have HX2 := hideIt (F1.obox (HX.out.kept (gbDrewN W 1 none)) HN.out.np); have HF2 := hideIt ((HF.out.kept (gbDrewN W 1 none)).prog F1); have T1 : w1.cell? ⟨w.heap.size, 1, none⟩ = some (.int .i64 a) ∧ w1.cell? ⟨w.heap.size, 2, none⟩ = some (.int .i64 a2) ∧ w1.cell? ⟨w.heap.size, 7, none⟩ = some (.int .i64 ck) ∧ w1.cell? ⟨w.heap.size, 8, none⟩ = some (.int .i64 co) ∧ w1.cell? ⟨w.heap.size, 9, none⟩ = some (.int .i64 cr) ∧ w1.cell? ⟨w.heap.size, 10, none⟩ = some (.int .u64 cb) ∧ w1.cell? ⟨w.heap.size, 11, none⟩ = some (.int .u64 cg) ∧ w1.cell? ⟨w.heap.size, 12, none⟩ = some (.int .i64 cn) := ⟨HX2.out.at1, HX2.out.at2, HX2.out.at7, HX2.out.at8, HX2.out.at9, HX2.out.at10, HX2.out.at11, HX2.out.at12⟩; clear A1 F1) | fail))
  clear T0 T1 T2
  go_wp2
  go_ret
  exact ⟨_, _, _, _, _, rfl, HB3.out, I.pla (a, a2) o.cb o.cg, M.len_pla S f (a, a2) ⟨ck, co, cr, cb, cg, cn⟩, (Nat.le_succ _), HF3.out⟩

set_option maxHeartbeats 2000000 in
theorem act3 {w0 w : World} {P R : Nat → Prop} {p s t m q : Nat} {S : St} {f : T9.Fo} (B : Bh w0 w P R p s t m q S f S f) (I : M.Inv S f) (a a2 b b2 d d2 ck co cr cb cg cn n rt bd gd bt : Int) (o : Op18 ⟨3, a, a2, b, b2, d, d2, ⟨ck, co, cr, cb, cg, cn⟩, n, rt, bd, gd, bt⟩) (hm : m ≤ 1000) (hl : f.len ≤ 59) (hl2 : f.len ≤ 1000) (hl3 : f.len ≤ 60) :
    Calls Tryz.prog 7 #[.pointer (some ⟨p, 0, none⟩), .pointer (some ⟨q, 0, none⟩), .agg #[.int .i64 3, .int .i64 a, .int .i64 a2, .int .i64 b, .int .i64 b2, .int .i64 d, .int .i64 d2, .int .i64 ck, .int .i64 co, .int .i64 cr, .int .u64 cb, .int .u64 cg, .int .i64 cn, .int .i64 n, .int .i64 rt, .int .u64 bd, .int .u64 gd, .int .i64 bt]] w fun e w' => ∃ P' R' m' S' f', e = .returned (.bool true) ∧ Bh w0 w' P' R' p s t m' q S' f' S' f' ∧ M.Inv S' f' ∧ f'.len ≤ f.len + 1 ∧ m' ≤ m + 1 ∧ Bf P R w w' P' R' := by
  obtain ⟨e, he⟩ : ∃ e, M.chiE S (a, a2) (b, b2) ⟨ck, co, cr, cb, cg, cn⟩ = e := ⟨_, rfl⟩
  have HGs := hideIt B.cs.gs
  have HGt := hideIt B.cs.gt
  have HB0 := hideIt B
  clear B
  go_enter Tryz.func7, Tryz.ntmps7
  go_upto_region 1 with fail
  obtain ⟨W, hW, X, g0⟩ := oboxNew w ⟨3, a, a2, b, b2, d, d2, ⟨ck, co, cr, cb, cg, cn⟩, n, rt, bd, gd, bt⟩
  simp only at hW
  rw [hW]
  clear hW
  have HX := hideIt X
  have HB1 := hideIt (HB0.out.kept g0)
  have HN := hideIt (Nb.mk (HB0.out.out (Nat.le_refl _)).1 (HB0.out.out (Nat.le_refl _)).2 X.lt)
  have HF := hideIt ((Bf.refl P R w).kept g0)
  clear X g0
  have x0 := HX.out.at0
  simp only at x0
  go_upto_region 9 with fail
  clear x0
  have T0 : W.drew.cell? ⟨w.heap.size, 1, none⟩ = some (.int .i64 a) ∧ W.drew.cell? ⟨w.heap.size, 2, none⟩ = some (.int .i64 a2) ∧ W.drew.cell? ⟨w.heap.size, 3, none⟩ = some (.int .i64 b) ∧ W.drew.cell? ⟨w.heap.size, 4, none⟩ = some (.int .i64 b2) ∧ W.drew.cell? ⟨w.heap.size, 7, none⟩ = some (.int .i64 ck) ∧ W.drew.cell? ⟨w.heap.size, 8, none⟩ = some (.int .i64 co) ∧ W.drew.cell? ⟨w.heap.size, 9, none⟩ = some (.int .i64 cr) ∧ W.drew.cell? ⟨w.heap.size, 10, none⟩ = some (.int .u64 cb) ∧ W.drew.cell? ⟨w.heap.size, 11, none⟩ = some (.int .u64 cg) ∧ W.drew.cell? ⟨w.heap.size, 12, none⟩ = some (.int .i64 cn) := ⟨(HX.out.kept (gbDrewN W 1 none)).at1, (HX.out.kept (gbDrewN W 1 none)).at2, (HX.out.kept (gbDrewN W 1 none)).at3, (HX.out.kept (gbDrewN W 1 none)).at4, (HX.out.kept (gbDrewN W 1 none)).at7, (HX.out.kept (gbDrewN W 1 none)).at8, (HX.out.kept (gbDrewN W 1 none)).at9, (HX.out.kept (gbDrewN W 1 none)).at10, (HX.out.kept (gbDrewN W 1 none)).at11, (HX.out.kept (gbDrewN W 1 none)).at12⟩
  go_region_held3 (fun w' => w'.cell? ⟨w.heap.size, 1, none⟩ = some (.int .i64 a) ∧ w'.cell? ⟨w.heap.size, 2, none⟩ = some (.int .i64 a2) ∧ w'.cell? ⟨w.heap.size, 3, none⟩ = some (.int .i64 b) ∧ w'.cell? ⟨w.heap.size, 4, none⟩ = some (.int .i64 b2) ∧ w'.cell? ⟨w.heap.size, 7, none⟩ = some (.int .i64 ck) ∧ w'.cell? ⟨w.heap.size, 8, none⟩ = some (.int .i64 co) ∧ w'.cell? ⟨w.heap.size, 9, none⟩ = some (.int .i64 cr) ∧ w'.cell? ⟨w.heap.size, 10, none⟩ = some (.int .u64 cb) ∧ w'.cell? ⟨w.heap.size, 11, none⟩ = some (.int .u64 cg) ∧ w'.cell? ⟨w.heap.size, 12, none⟩ = some (.int .i64 cn))
    (first | with_reducible exact T0 | with_reducible exact T2 | with_reducible exact T1 | fail)
    ((first | (go_at_call 36; refine (HB2.out.rc.childA I a a2 b b2 ck co cr cb cg cn e o.b o.b2 hl3 he).mono ?_; rintro _ w2 ⟨rfl, A2, F2⟩; have HB3 := hideIt (HB2.out.doc A2 F2); have HX3 := hideIt (F2.obox HX2.out HN2.out.nr); have HF3 := hideIt (HF2.out.doc F2); have T2 : w2.cell? ⟨w.heap.size, 1, none⟩ = some (.int .i64 a) ∧ w2.cell? ⟨w.heap.size, 2, none⟩ = some (.int .i64 a2) ∧ w2.cell? ⟨w.heap.size, 3, none⟩ = some (.int .i64 b) ∧ w2.cell? ⟨w.heap.size, 4, none⟩ = some (.int .i64 b2) ∧ w2.cell? ⟨w.heap.size, 7, none⟩ = some (.int .i64 ck) ∧ w2.cell? ⟨w.heap.size, 8, none⟩ = some (.int .i64 co) ∧ w2.cell? ⟨w.heap.size, 9, none⟩ = some (.int .i64 cr) ∧ w2.cell? ⟨w.heap.size, 10, none⟩ = some (.int .u64 cb) ∧ w2.cell? ⟨w.heap.size, 11, none⟩ = some (.int .u64 cg) ∧ w2.cell? ⟨w.heap.size, 12, none⟩ = some (.int .i64 cn) := ⟨HX3.out.at1, HX3.out.at2, HX3.out.at3, HX3.out.at4, HX3.out.at7, HX3.out.at8, HX3.out.at9, HX3.out.at10, HX3.out.at11, HX3.out.at12⟩; clear A2 F2) | (go_at_call 35; refine ((HB1.out.kept (gbDrewN W 1 none)).cs.childA I a a2 b b2 ck co cr cb cg cn e o.a o.a2 o.b o.b2 o.cb o.cg hl2 he).mono ?_; rintro _ w1 ⟨rfl, A1, F1⟩; have HB2 := hideIt ((HB1.out.kept (gbDrewN W 1 none)).prog A1 F1); have HN2 := hideIt ((HN.out.kept (gbDrewN W 1 none)).prog F1); have HX2 := hideIt (F1.obox (HX.out.kept (gbDrewN W 1 none)) HN.out.np); have HF2 := hideIt ((HF.out.kept (gbDrewN W 1 none)).prog F1); have T1 : w1.cell? ⟨w.heap.size, 1, none⟩ = some (.int .i64 a) ∧ w1.cell? ⟨w.heap.size, 2, none⟩ = some (.int .i64 a2) ∧ w1.cell? ⟨w.heap.size, 3, none⟩ = some (.int .i64 b) ∧ w1.cell? ⟨w.heap.size, 4, none⟩ = some (.int .i64 b2) ∧ w1.cell? ⟨w.heap.size, 7, none⟩ = some (.int .i64 ck) ∧ w1.cell? ⟨w.heap.size, 8, none⟩ = some (.int .i64 co) ∧ w1.cell? ⟨w.heap.size, 9, none⟩ = some (.int .i64 cr) ∧ w1.cell? ⟨w.heap.size, 10, none⟩ = some (.int .u64 cb) ∧ w1.cell? ⟨w.heap.size, 11, none⟩ = some (.int .u64 cg) ∧ w1.cell? ⟨w.heap.size, 12, none⟩ = some (.int .i64 cn) := ⟨HX2.out.at1, HX2.out.at2, HX2.out.at3, HX2.out.at4, HX2.out.at7, HX2.out.at8, HX2.out.at9, HX2.out.at10, HX2.out.at11, HX2.out.at12⟩; clear A1 F1) | fail))
  clear T0 T1 T2
  go_wp2
  go_ret
  exact ⟨_, _, _, _, _, rfl, HB3.out, I.chi (a, a2) (b, b2) o.cb o.cg, M.len_chi S HGt.out (a, a2) (b, b2) ⟨ck, co, cr, cb, cg, cn⟩, (Nat.le_succ _), HF3.out⟩

set_option maxHeartbeats 2000000 in
theorem act4 {w0 w : World} {P R : Nat → Prop} {p s t m q : Nat} {S : St} {f : T9.Fo} (B : Bh w0 w P R p s t m q S f S f) (I : M.Inv S f) (a a2 b b2 d d2 ck co cr cb cg cn n rt bd gd bt : Int) (o : Op18 ⟨4, a, a2, b, b2, d, d2, ⟨ck, co, cr, cb, cg, cn⟩, n, rt, bd, gd, bt⟩) (hm : m ≤ 1000) (hl : f.len ≤ 59) (hl2 : f.len ≤ 1000) (hl3 : f.len ≤ 60) :
    Calls Tryz.prog 7 #[.pointer (some ⟨p, 0, none⟩), .pointer (some ⟨q, 0, none⟩), .agg #[.int .i64 4, .int .i64 a, .int .i64 a2, .int .i64 b, .int .i64 b2, .int .i64 d, .int .i64 d2, .int .i64 ck, .int .i64 co, .int .i64 cr, .int .u64 cb, .int .u64 cg, .int .i64 cn, .int .i64 n, .int .i64 rt, .int .u64 bd, .int .u64 gd, .int .i64 bt]] w fun e w' => ∃ P' R' m' S' f', e = .returned (.bool true) ∧ Bh w0 w' P' R' p s t m' q S' f' S' f' ∧ M.Inv S' f' ∧ f'.len ≤ f.len + 1 ∧ m' ≤ m + 1 ∧ Bf P R w w' P' R' := by
  obtain ⟨e, he⟩ : ∃ e, M.copE S (a, a2) (b, b2) rt = e := ⟨_, rfl⟩
  have HGs := hideIt B.cs.gs
  have HGt := hideIt B.cs.gt
  have HB0 := hideIt B
  clear B
  go_enter Tryz.func7, Tryz.ntmps7
  go_upto_region 1 with fail
  obtain ⟨W, hW, X, g0⟩ := oboxNew w ⟨4, a, a2, b, b2, d, d2, ⟨ck, co, cr, cb, cg, cn⟩, n, rt, bd, gd, bt⟩
  simp only at hW
  rw [hW]
  clear hW
  have HX := hideIt X
  have HB1 := hideIt (HB0.out.kept g0)
  have HN := hideIt (Nb.mk (HB0.out.out (Nat.le_refl _)).1 (HB0.out.out (Nat.le_refl _)).2 X.lt)
  have HF := hideIt ((Bf.refl P R w).kept g0)
  clear X g0
  have x0 := HX.out.at0
  simp only at x0
  go_upto_region 11 with fail
  clear x0
  have T0 : W.drew.cell? ⟨w.heap.size, 1, none⟩ = some (.int .i64 a) ∧ W.drew.cell? ⟨w.heap.size, 2, none⟩ = some (.int .i64 a2) ∧ W.drew.cell? ⟨w.heap.size, 3, none⟩ = some (.int .i64 b) ∧ W.drew.cell? ⟨w.heap.size, 4, none⟩ = some (.int .i64 b2) ∧ W.drew.cell? ⟨w.heap.size, 14, none⟩ = some (.int .i64 rt) := ⟨(HX.out.kept (gbDrewN W 1 none)).at1, (HX.out.kept (gbDrewN W 1 none)).at2, (HX.out.kept (gbDrewN W 1 none)).at3, (HX.out.kept (gbDrewN W 1 none)).at4, (HX.out.kept (gbDrewN W 1 none)).at14⟩
  go_region_held3 (fun w' => w'.cell? ⟨w.heap.size, 1, none⟩ = some (.int .i64 a) ∧ w'.cell? ⟨w.heap.size, 2, none⟩ = some (.int .i64 a2) ∧ w'.cell? ⟨w.heap.size, 3, none⟩ = some (.int .i64 b) ∧ w'.cell? ⟨w.heap.size, 4, none⟩ = some (.int .i64 b2) ∧ w'.cell? ⟨w.heap.size, 14, none⟩ = some (.int .i64 rt))
    (first | with_reducible exact T0 | with_reducible exact T2 | with_reducible exact T1 | fail)
    ((first | (go_at_call 38; refine (HB2.out.rc.copy I a a2 b b2 rt e o.b o.b2 hl3 he).mono ?_; rintro _ w2 ⟨rfl, A2, F2⟩; have HB3 := hideIt (HB2.out.doc A2 F2); have HX3 := hideIt (F2.obox HX2.out HN2.out.nr); have HF3 := hideIt (HF2.out.doc F2); have T2 : w2.cell? ⟨w.heap.size, 1, none⟩ = some (.int .i64 a) ∧ w2.cell? ⟨w.heap.size, 2, none⟩ = some (.int .i64 a2) ∧ w2.cell? ⟨w.heap.size, 3, none⟩ = some (.int .i64 b) ∧ w2.cell? ⟨w.heap.size, 4, none⟩ = some (.int .i64 b2) ∧ w2.cell? ⟨w.heap.size, 14, none⟩ = some (.int .i64 rt) := ⟨HX3.out.at1, HX3.out.at2, HX3.out.at3, HX3.out.at4, HX3.out.at14⟩; clear A2 F2) | (go_at_call 37; refine ((HB1.out.kept (gbDrewN W 1 none)).cs.copy I a a2 b b2 rt e o.a o.a2 o.b o.b2 hl2 he).mono ?_; rintro _ w1 ⟨rfl, A1, F1⟩; have HB2 := hideIt ((HB1.out.kept (gbDrewN W 1 none)).prog A1 F1); have HN2 := hideIt ((HN.out.kept (gbDrewN W 1 none)).prog F1); have HX2 := hideIt (F1.obox (HX.out.kept (gbDrewN W 1 none)) HN.out.np); have HF2 := hideIt ((HF.out.kept (gbDrewN W 1 none)).prog F1); have T1 : w1.cell? ⟨w.heap.size, 1, none⟩ = some (.int .i64 a) ∧ w1.cell? ⟨w.heap.size, 2, none⟩ = some (.int .i64 a2) ∧ w1.cell? ⟨w.heap.size, 3, none⟩ = some (.int .i64 b) ∧ w1.cell? ⟨w.heap.size, 4, none⟩ = some (.int .i64 b2) ∧ w1.cell? ⟨w.heap.size, 14, none⟩ = some (.int .i64 rt) := ⟨HX2.out.at1, HX2.out.at2, HX2.out.at3, HX2.out.at4, HX2.out.at14⟩; clear A1 F1) | fail))
  clear T0 T1 T2
  go_wp2
  go_ret
  exact ⟨_, _, _, _, _, rfl, HB3.out, I.cop (a, a2) (b, b2) rt, M.len_cop S HGt.out (a, a2) (b, b2) rt, (Nat.le_succ _), HF3.out⟩

set_option maxHeartbeats 2000000 in
theorem act5 {w0 w : World} {P R : Nat → Prop} {p s t m q : Nat} {S : St} {f : T9.Fo} (B : Bh w0 w P R p s t m q S f S f) (I : M.Inv S f) (a a2 b b2 d d2 ck co cr cb cg cn n rt bd gd bt : Int) (o : Op18 ⟨5, a, a2, b, b2, d, d2, ⟨ck, co, cr, cb, cg, cn⟩, n, rt, bd, gd, bt⟩) (hm : m ≤ 1000) (hl : f.len ≤ 59) (hl2 : f.len ≤ 1000) (hl3 : f.len ≤ 60) :
    Calls Tryz.prog 7 #[.pointer (some ⟨p, 0, none⟩), .pointer (some ⟨q, 0, none⟩), .agg #[.int .i64 5, .int .i64 a, .int .i64 a2, .int .i64 b, .int .i64 b2, .int .i64 d, .int .i64 d2, .int .i64 ck, .int .i64 co, .int .i64 cr, .int .u64 cb, .int .u64 cg, .int .i64 cn, .int .i64 n, .int .i64 rt, .int .u64 bd, .int .u64 gd, .int .i64 bt]] w fun e w' => ∃ P' R' m' S' f', e = .returned (.bool true) ∧ Bh w0 w' P' R' p s t m' q S' f' S' f' ∧ M.Inv S' f' ∧ f'.len ≤ f.len + 1 ∧ m' ≤ m + 1 ∧ Bf P R w w' P' R' := by
  obtain ⟨e, he⟩ : ∃ e, M.minE S (a, a2) (b, b2) rt bd gd bt = e := ⟨_, rfl⟩
  have HGs := hideIt B.cs.gs
  have HGt := hideIt B.cs.gt
  have HB0 := hideIt B
  clear B
  go_enter Tryz.func7, Tryz.ntmps7
  go_upto_region 1 with fail
  obtain ⟨W, hW, X, g0⟩ := oboxNew w ⟨5, a, a2, b, b2, d, d2, ⟨ck, co, cr, cb, cg, cn⟩, n, rt, bd, gd, bt⟩
  simp only at hW
  rw [hW]
  clear hW
  have HX := hideIt X
  have HB1 := hideIt (HB0.out.kept g0)
  have HN := hideIt (Nb.mk (HB0.out.out (Nat.le_refl _)).1 (HB0.out.out (Nat.le_refl _)).2 X.lt)
  have HF := hideIt ((Bf.refl P R w).kept g0)
  clear X g0
  have x0 := HX.out.at0
  simp only at x0
  go_upto_region 13 with fail
  clear x0
  have T0 : W.drew.cell? ⟨w.heap.size, 1, none⟩ = some (.int .i64 a) ∧ W.drew.cell? ⟨w.heap.size, 2, none⟩ = some (.int .i64 a2) ∧ W.drew.cell? ⟨w.heap.size, 3, none⟩ = some (.int .i64 b) ∧ W.drew.cell? ⟨w.heap.size, 4, none⟩ = some (.int .i64 b2) ∧ W.drew.cell? ⟨w.heap.size, 14, none⟩ = some (.int .i64 rt) ∧ W.drew.cell? ⟨w.heap.size, 15, none⟩ = some (.int .u64 bd) ∧ W.drew.cell? ⟨w.heap.size, 16, none⟩ = some (.int .u64 gd) ∧ W.drew.cell? ⟨w.heap.size, 17, none⟩ = some (.int .i64 bt) := ⟨(HX.out.kept (gbDrewN W 1 none)).at1, (HX.out.kept (gbDrewN W 1 none)).at2, (HX.out.kept (gbDrewN W 1 none)).at3, (HX.out.kept (gbDrewN W 1 none)).at4, (HX.out.kept (gbDrewN W 1 none)).at14, (HX.out.kept (gbDrewN W 1 none)).at15, (HX.out.kept (gbDrewN W 1 none)).at16, (HX.out.kept (gbDrewN W 1 none)).at17⟩
  go_region_held3 (fun w' => w'.cell? ⟨w.heap.size, 1, none⟩ = some (.int .i64 a) ∧ w'.cell? ⟨w.heap.size, 2, none⟩ = some (.int .i64 a2) ∧ w'.cell? ⟨w.heap.size, 3, none⟩ = some (.int .i64 b) ∧ w'.cell? ⟨w.heap.size, 4, none⟩ = some (.int .i64 b2) ∧ w'.cell? ⟨w.heap.size, 14, none⟩ = some (.int .i64 rt) ∧ w'.cell? ⟨w.heap.size, 15, none⟩ = some (.int .u64 bd) ∧ w'.cell? ⟨w.heap.size, 16, none⟩ = some (.int .u64 gd) ∧ w'.cell? ⟨w.heap.size, 17, none⟩ = some (.int .i64 bt))
    (first | with_reducible exact T0 | with_reducible exact T2 | with_reducible exact T1 | fail)
    ((first | (go_at_call 40; refine (HB2.out.rc.mint I a a2 b b2 rt bd gd bt e o.b o.b2 hl3 he).mono ?_; rintro _ w2 ⟨rfl, A2, F2⟩; have HB3 := hideIt (HB2.out.doc A2 F2); have HX3 := hideIt (F2.obox HX2.out HN2.out.nr); have HF3 := hideIt (HF2.out.doc F2); have T2 : w2.cell? ⟨w.heap.size, 1, none⟩ = some (.int .i64 a) ∧ w2.cell? ⟨w.heap.size, 2, none⟩ = some (.int .i64 a2) ∧ w2.cell? ⟨w.heap.size, 3, none⟩ = some (.int .i64 b) ∧ w2.cell? ⟨w.heap.size, 4, none⟩ = some (.int .i64 b2) ∧ w2.cell? ⟨w.heap.size, 14, none⟩ = some (.int .i64 rt) ∧ w2.cell? ⟨w.heap.size, 15, none⟩ = some (.int .u64 bd) ∧ w2.cell? ⟨w.heap.size, 16, none⟩ = some (.int .u64 gd) ∧ w2.cell? ⟨w.heap.size, 17, none⟩ = some (.int .i64 bt) := ⟨HX3.out.at1, HX3.out.at2, HX3.out.at3, HX3.out.at4, HX3.out.at14, HX3.out.at15, HX3.out.at16, HX3.out.at17⟩; clear A2 F2) | (go_at_call 39; refine ((HB1.out.kept (gbDrewN W 1 none)).cs.mint I a a2 b b2 rt bd gd bt e o.a o.a2 o.b o.b2 o.bd o.gd hl2 he).mono ?_; rintro _ w1 ⟨rfl, A1, F1⟩; have HB2 := hideIt ((HB1.out.kept (gbDrewN W 1 none)).prog A1 F1); have HN2 := hideIt ((HN.out.kept (gbDrewN W 1 none)).prog F1); have HX2 := hideIt (F1.obox (HX.out.kept (gbDrewN W 1 none)) HN.out.np); have HF2 := hideIt ((HF.out.kept (gbDrewN W 1 none)).prog F1); have T1 : w1.cell? ⟨w.heap.size, 1, none⟩ = some (.int .i64 a) ∧ w1.cell? ⟨w.heap.size, 2, none⟩ = some (.int .i64 a2) ∧ w1.cell? ⟨w.heap.size, 3, none⟩ = some (.int .i64 b) ∧ w1.cell? ⟨w.heap.size, 4, none⟩ = some (.int .i64 b2) ∧ w1.cell? ⟨w.heap.size, 14, none⟩ = some (.int .i64 rt) ∧ w1.cell? ⟨w.heap.size, 15, none⟩ = some (.int .u64 bd) ∧ w1.cell? ⟨w.heap.size, 16, none⟩ = some (.int .u64 gd) ∧ w1.cell? ⟨w.heap.size, 17, none⟩ = some (.int .i64 bt) := ⟨HX2.out.at1, HX2.out.at2, HX2.out.at3, HX2.out.at4, HX2.out.at14, HX2.out.at15, HX2.out.at16, HX2.out.at17⟩; clear A1 F1) | fail))
  clear T0 T1 T2
  go_wp2
  go_ret
  exact ⟨_, _, _, _, _, rfl, HB3.out, I.min (a, a2) (b, b2) o.bd o.gd, M.len_min S HGt.out (a, a2) (b, b2) rt bd gd bt, (Nat.le_succ _), HF3.out⟩

set_option maxHeartbeats 2000000 in
theorem act6 {w0 w : World} {P R : Nat → Prop} {p s t m q : Nat} {S : St} {f : T9.Fo} (B : Bh w0 w P R p s t m q S f S f) (I : M.Inv S f) (a a2 b b2 d d2 ck co cr cb cg cn n rt bd gd bt : Int) (o : Op18 ⟨6, a, a2, b, b2, d, d2, ⟨ck, co, cr, cb, cg, cn⟩, n, rt, bd, gd, bt⟩) (hm : m ≤ 1000) (hl : f.len ≤ 59) (hl2 : f.len ≤ 1000) (hl3 : f.len ≤ 60) :
    Calls Tryz.prog 7 #[.pointer (some ⟨p, 0, none⟩), .pointer (some ⟨q, 0, none⟩), .agg #[.int .i64 6, .int .i64 a, .int .i64 a2, .int .i64 b, .int .i64 b2, .int .i64 d, .int .i64 d2, .int .i64 ck, .int .i64 co, .int .i64 cr, .int .u64 cb, .int .u64 cg, .int .i64 cn, .int .i64 n, .int .i64 rt, .int .u64 bd, .int .u64 gd, .int .i64 bt]] w fun e w' => ∃ P' R' m' S' f', e = .returned (.bool true) ∧ Bh w0 w' P' R' p s t m' q S' f' S' f' ∧ M.Inv S' f' ∧ f'.len ≤ f.len + 1 ∧ m' ≤ m + 1 ∧ Bf P R w w' P' R' := by
  obtain ⟨e, he⟩ : ∃ e, M.endE S (a, a2) (b, b2) = e := ⟨_, rfl⟩
  have HGs := hideIt B.cs.gs
  have HGt := hideIt B.cs.gt
  have HB0 := hideIt B
  clear B
  go_enter Tryz.func7, Tryz.ntmps7
  go_upto_region 1 with fail
  obtain ⟨W, hW, X, g0⟩ := oboxNew w ⟨6, a, a2, b, b2, d, d2, ⟨ck, co, cr, cb, cg, cn⟩, n, rt, bd, gd, bt⟩
  simp only at hW
  rw [hW]
  clear hW
  have HX := hideIt X
  have HB1 := hideIt (HB0.out.kept g0)
  have HN := hideIt (Nb.mk (HB0.out.out (Nat.le_refl _)).1 (HB0.out.out (Nat.le_refl _)).2 X.lt)
  have HF := hideIt ((Bf.refl P R w).kept g0)
  clear X g0
  have x0 := HX.out.at0
  simp only at x0
  go_upto_region 15 with fail
  clear x0
  have T0 : W.drew.cell? ⟨w.heap.size, 1, none⟩ = some (.int .i64 a) ∧ W.drew.cell? ⟨w.heap.size, 2, none⟩ = some (.int .i64 a2) ∧ W.drew.cell? ⟨w.heap.size, 3, none⟩ = some (.int .i64 b) ∧ W.drew.cell? ⟨w.heap.size, 4, none⟩ = some (.int .i64 b2) := ⟨(HX.out.kept (gbDrewN W 1 none)).at1, (HX.out.kept (gbDrewN W 1 none)).at2, (HX.out.kept (gbDrewN W 1 none)).at3, (HX.out.kept (gbDrewN W 1 none)).at4⟩
  go_region_held3 (fun w' => w'.cell? ⟨w.heap.size, 1, none⟩ = some (.int .i64 a) ∧ w'.cell? ⟨w.heap.size, 2, none⟩ = some (.int .i64 a2) ∧ w'.cell? ⟨w.heap.size, 3, none⟩ = some (.int .i64 b) ∧ w'.cell? ⟨w.heap.size, 4, none⟩ = some (.int .i64 b2))
    (first | with_reducible exact T0 | with_reducible exact T2 | with_reducible exact T1 | fail)
    ((first | (go_at_call 42; refine (HB2.out.rc.moveA I a a2 b b2 e o.b o.b2 hl3 he).mono ?_; rintro _ w2 ⟨rfl, A2, F2⟩; have HB3 := hideIt (HB2.out.doc A2 F2); have HX3 := hideIt (F2.obox HX2.out HN2.out.nr); have HF3 := hideIt (HF2.out.doc F2); have T2 : w2.cell? ⟨w.heap.size, 1, none⟩ = some (.int .i64 a) ∧ w2.cell? ⟨w.heap.size, 2, none⟩ = some (.int .i64 a2) ∧ w2.cell? ⟨w.heap.size, 3, none⟩ = some (.int .i64 b) ∧ w2.cell? ⟨w.heap.size, 4, none⟩ = some (.int .i64 b2) := ⟨HX3.out.at1, HX3.out.at2, HX3.out.at3, HX3.out.at4⟩; clear A2 F2) | (go_at_call 41; refine ((HB1.out.kept (gbDrewN W 1 none)).cs.moveA I a a2 b b2 e o.a o.a2 o.b o.b2 hl2 he).mono ?_; rintro _ w1 ⟨rfl, A1, F1⟩; have HB2 := hideIt ((HB1.out.kept (gbDrewN W 1 none)).prog A1 F1); have HN2 := hideIt ((HN.out.kept (gbDrewN W 1 none)).prog F1); have HX2 := hideIt (F1.obox (HX.out.kept (gbDrewN W 1 none)) HN.out.np); have HF2 := hideIt ((HF.out.kept (gbDrewN W 1 none)).prog F1); have T1 : w1.cell? ⟨w.heap.size, 1, none⟩ = some (.int .i64 a) ∧ w1.cell? ⟨w.heap.size, 2, none⟩ = some (.int .i64 a2) ∧ w1.cell? ⟨w.heap.size, 3, none⟩ = some (.int .i64 b) ∧ w1.cell? ⟨w.heap.size, 4, none⟩ = some (.int .i64 b2) := ⟨HX2.out.at1, HX2.out.at2, HX2.out.at3, HX2.out.at4⟩; clear A1 F1) | fail))
  clear T0 T1 T2
  go_wp2
  go_ret
  exact ⟨_, _, _, _, _, rfl, HB3.out, I.mov (a, a2) (b, b2), M.len_mov S f (a, a2) (b, b2), (Nat.le_succ _), HF3.out⟩

set_option maxHeartbeats 2000000 in
theorem act7 {w0 w : World} {P R : Nat → Prop} {p s t m q : Nat} {S : St} {f : T9.Fo} (B : Bh w0 w P R p s t m q S f S f) (I : M.Inv S f) (a a2 b b2 d d2 ck co cr cb cg cn n rt bd gd bt : Int) (o : Op18 ⟨7, a, a2, b, b2, d, d2, ⟨ck, co, cr, cb, cg, cn⟩, n, rt, bd, gd, bt⟩) (hm : m ≤ 1000) (hl : f.len ≤ 59) (hl2 : f.len ≤ 1000) (hl3 : f.len ≤ 60) :
    Calls Tryz.prog 7 #[.pointer (some ⟨p, 0, none⟩), .pointer (some ⟨q, 0, none⟩), .agg #[.int .i64 7, .int .i64 a, .int .i64 a2, .int .i64 b, .int .i64 b2, .int .i64 d, .int .i64 d2, .int .i64 ck, .int .i64 co, .int .i64 cr, .int .u64 cb, .int .u64 cg, .int .i64 cn, .int .i64 n, .int .i64 rt, .int .u64 bd, .int .u64 gd, .int .i64 bt]] w fun e w' => ∃ P' R' m' S' f', e = .returned (.bool true) ∧ Bh w0 w' P' R' p s t m' q S' f' S' f' ∧ M.Inv S' f' ∧ f'.len ≤ f.len + 1 ∧ m' ≤ m + 1 ∧ Bf P R w w' P' R' := by
  obtain ⟨e, he⟩ : ∃ e, M.mutE S (a, a2) (b, b2) gd bt = e := ⟨_, rfl⟩
  have HGs := hideIt B.cs.gs
  have HGt := hideIt B.cs.gt
  have HB0 := hideIt B
  clear B
  go_enter Tryz.func7, Tryz.ntmps7
  go_upto_region 1 with fail
  obtain ⟨W, hW, X, g0⟩ := oboxNew w ⟨7, a, a2, b, b2, d, d2, ⟨ck, co, cr, cb, cg, cn⟩, n, rt, bd, gd, bt⟩
  simp only at hW
  rw [hW]
  clear hW
  have HX := hideIt X
  have HB1 := hideIt (HB0.out.kept g0)
  have HN := hideIt (Nb.mk (HB0.out.out (Nat.le_refl _)).1 (HB0.out.out (Nat.le_refl _)).2 X.lt)
  have HF := hideIt ((Bf.refl P R w).kept g0)
  clear X g0
  have x0 := HX.out.at0
  simp only at x0
  go_upto_region 17 with fail
  clear x0
  have T0 : W.drew.cell? ⟨w.heap.size, 1, none⟩ = some (.int .i64 a) ∧ W.drew.cell? ⟨w.heap.size, 2, none⟩ = some (.int .i64 a2) ∧ W.drew.cell? ⟨w.heap.size, 3, none⟩ = some (.int .i64 b) ∧ W.drew.cell? ⟨w.heap.size, 4, none⟩ = some (.int .i64 b2) ∧ W.drew.cell? ⟨w.heap.size, 16, none⟩ = some (.int .u64 gd) ∧ W.drew.cell? ⟨w.heap.size, 17, none⟩ = some (.int .i64 bt) := ⟨(HX.out.kept (gbDrewN W 1 none)).at1, (HX.out.kept (gbDrewN W 1 none)).at2, (HX.out.kept (gbDrewN W 1 none)).at3, (HX.out.kept (gbDrewN W 1 none)).at4, (HX.out.kept (gbDrewN W 1 none)).at16, (HX.out.kept (gbDrewN W 1 none)).at17⟩
  go_region_held3 (fun w' => w'.cell? ⟨w.heap.size, 1, none⟩ = some (.int .i64 a) ∧ w'.cell? ⟨w.heap.size, 2, none⟩ = some (.int .i64 a2) ∧ w'.cell? ⟨w.heap.size, 3, none⟩ = some (.int .i64 b) ∧ w'.cell? ⟨w.heap.size, 4, none⟩ = some (.int .i64 b2) ∧ w'.cell? ⟨w.heap.size, 16, none⟩ = some (.int .u64 gd) ∧ w'.cell? ⟨w.heap.size, 17, none⟩ = some (.int .i64 bt))
    (first | with_reducible exact T0 | with_reducible exact T2 | with_reducible exact T1 | fail)
    ((first | (go_at_call 44; refine (HB2.out.rc.mutate I a a2 b b2 gd bt e o.b o.b2 o.gd hl3 he).mono ?_; rintro _ w2 ⟨rfl, A2, F2⟩; have HB3 := hideIt (HB2.out.doc A2 F2); have HX3 := hideIt (F2.obox HX2.out HN2.out.nr); have HF3 := hideIt (HF2.out.doc F2); have T2 : w2.cell? ⟨w.heap.size, 1, none⟩ = some (.int .i64 a) ∧ w2.cell? ⟨w.heap.size, 2, none⟩ = some (.int .i64 a2) ∧ w2.cell? ⟨w.heap.size, 3, none⟩ = some (.int .i64 b) ∧ w2.cell? ⟨w.heap.size, 4, none⟩ = some (.int .i64 b2) ∧ w2.cell? ⟨w.heap.size, 16, none⟩ = some (.int .u64 gd) ∧ w2.cell? ⟨w.heap.size, 17, none⟩ = some (.int .i64 bt) := ⟨HX3.out.at1, HX3.out.at2, HX3.out.at3, HX3.out.at4, HX3.out.at16, HX3.out.at17⟩; clear A2 F2) | (go_at_call 43; refine ((HB1.out.kept (gbDrewN W 1 none)).cs.mutate I a a2 b b2 gd bt e o.a o.a2 o.b o.b2 o.gd hl2 he).mono ?_; rintro _ w1 ⟨rfl, A1, F1⟩; have HB2 := hideIt ((HB1.out.kept (gbDrewN W 1 none)).prog A1 F1); have HN2 := hideIt ((HN.out.kept (gbDrewN W 1 none)).prog F1); have HX2 := hideIt (F1.obox (HX.out.kept (gbDrewN W 1 none)) HN.out.np); have HF2 := hideIt ((HF.out.kept (gbDrewN W 1 none)).prog F1); have T1 : w1.cell? ⟨w.heap.size, 1, none⟩ = some (.int .i64 a) ∧ w1.cell? ⟨w.heap.size, 2, none⟩ = some (.int .i64 a2) ∧ w1.cell? ⟨w.heap.size, 3, none⟩ = some (.int .i64 b) ∧ w1.cell? ⟨w.heap.size, 4, none⟩ = some (.int .i64 b2) ∧ w1.cell? ⟨w.heap.size, 16, none⟩ = some (.int .u64 gd) ∧ w1.cell? ⟨w.heap.size, 17, none⟩ = some (.int .i64 bt) := ⟨HX2.out.at1, HX2.out.at2, HX2.out.at3, HX2.out.at4, HX2.out.at16, HX2.out.at17⟩; clear A1 F1) | fail))
  clear T0 T1 T2
  go_wp2
  go_ret
  exact ⟨_, _, _, _, _, rfl, HB3.out, I.mut (a, a2) (b, b2) o.gd, M.len_mut S f (a, a2) (b, b2) gd bt, (Nat.le_succ _), HF3.out⟩

set_option maxHeartbeats 2000000 in
theorem act8 {w0 w : World} {P R : Nat → Prop} {p s t m q : Nat} {S : St} {f : T9.Fo} (B : Bh w0 w P R p s t m q S f S f) (I : M.Inv S f) (a a2 b b2 d d2 ck co cr cb cg cn n rt bd gd bt : Int) (o : Op18 ⟨8, a, a2, b, b2, d, d2, ⟨ck, co, cr, cb, cg, cn⟩, n, rt, bd, gd, bt⟩) (hm : m ≤ 1000) (hl : f.len ≤ 59) (hl2 : f.len ≤ 1000) (hl3 : f.len ≤ 60) :
    Calls Tryz.prog 7 #[.pointer (some ⟨p, 0, none⟩), .pointer (some ⟨q, 0, none⟩), .agg #[.int .i64 8, .int .i64 a, .int .i64 a2, .int .i64 b, .int .i64 b2, .int .i64 d, .int .i64 d2, .int .i64 ck, .int .i64 co, .int .i64 cr, .int .u64 cb, .int .u64 cg, .int .i64 cn, .int .i64 n, .int .i64 rt, .int .u64 bd, .int .u64 gd, .int .i64 bt]] w fun e w' => ∃ P' R' m' S' f', e = .returned (.bool true) ∧ Bh w0 w' P' R' p s t m' q S' f' S' f' ∧ M.Inv S' f' ∧ f'.len ≤ f.len + 1 ∧ m' ≤ m + 1 ∧ Bf P R w w' P' R' := by
  obtain ⟨e, he⟩ : ∃ e, M.rotE S (a, a2) (b, b2) (d, d2) = e := ⟨_, rfl⟩
  have HGs := hideIt B.cs.gs
  have HGt := hideIt B.cs.gt
  have HB0 := hideIt B
  clear B
  go_enter Tryz.func7, Tryz.ntmps7
  go_upto_region 1 with fail
  obtain ⟨W, hW, X, g0⟩ := oboxNew w ⟨8, a, a2, b, b2, d, d2, ⟨ck, co, cr, cb, cg, cn⟩, n, rt, bd, gd, bt⟩
  simp only at hW
  rw [hW]
  clear hW
  have HX := hideIt X
  have HB1 := hideIt (HB0.out.kept g0)
  have HN := hideIt (Nb.mk (HB0.out.out (Nat.le_refl _)).1 (HB0.out.out (Nat.le_refl _)).2 X.lt)
  have HF := hideIt ((Bf.refl P R w).kept g0)
  clear X g0
  have x0 := HX.out.at0
  simp only at x0
  go_upto_region 19 with fail
  clear x0
  have T0 : W.drew.cell? ⟨w.heap.size, 1, none⟩ = some (.int .i64 a) ∧ W.drew.cell? ⟨w.heap.size, 2, none⟩ = some (.int .i64 a2) ∧ W.drew.cell? ⟨w.heap.size, 3, none⟩ = some (.int .i64 b) ∧ W.drew.cell? ⟨w.heap.size, 4, none⟩ = some (.int .i64 b2) ∧ W.drew.cell? ⟨w.heap.size, 5, none⟩ = some (.int .i64 d) ∧ W.drew.cell? ⟨w.heap.size, 6, none⟩ = some (.int .i64 d2) := ⟨(HX.out.kept (gbDrewN W 1 none)).at1, (HX.out.kept (gbDrewN W 1 none)).at2, (HX.out.kept (gbDrewN W 1 none)).at3, (HX.out.kept (gbDrewN W 1 none)).at4, (HX.out.kept (gbDrewN W 1 none)).at5, (HX.out.kept (gbDrewN W 1 none)).at6⟩
  go_region_held3 (fun w' => w'.cell? ⟨w.heap.size, 1, none⟩ = some (.int .i64 a) ∧ w'.cell? ⟨w.heap.size, 2, none⟩ = some (.int .i64 a2) ∧ w'.cell? ⟨w.heap.size, 3, none⟩ = some (.int .i64 b) ∧ w'.cell? ⟨w.heap.size, 4, none⟩ = some (.int .i64 b2) ∧ w'.cell? ⟨w.heap.size, 5, none⟩ = some (.int .i64 d) ∧ w'.cell? ⟨w.heap.size, 6, none⟩ = some (.int .i64 d2))
    (first | with_reducible exact T0 | with_reducible exact T2 | with_reducible exact T1 | fail)
    ((first | (go_at_call 46; refine (HB2.out.rc.rotate I a a2 b b2 d d2 e o.a o.a2 o.b o.b2 hl3 M.moveF_len he).mono ?_; rintro _ w2 ⟨rfl, A2, F2⟩; have HB3 := hideIt (HB2.out.doc A2 F2); have HX3 := hideIt (F2.obox HX2.out HN2.out.nr); have HF3 := hideIt (HF2.out.doc F2); have T2 : w2.cell? ⟨w.heap.size, 1, none⟩ = some (.int .i64 a) ∧ w2.cell? ⟨w.heap.size, 2, none⟩ = some (.int .i64 a2) ∧ w2.cell? ⟨w.heap.size, 3, none⟩ = some (.int .i64 b) ∧ w2.cell? ⟨w.heap.size, 4, none⟩ = some (.int .i64 b2) ∧ w2.cell? ⟨w.heap.size, 5, none⟩ = some (.int .i64 d) ∧ w2.cell? ⟨w.heap.size, 6, none⟩ = some (.int .i64 d2) := ⟨HX3.out.at1, HX3.out.at2, HX3.out.at3, HX3.out.at4, HX3.out.at5, HX3.out.at6⟩; clear A2 F2) | (go_at_call 45; refine ((HB1.out.kept (gbDrewN W 1 none)).cs.rotate I a a2 b b2 d d2 e o.a o.a2 o.b o.b2 o.d o.d2 hl2 he).mono ?_; rintro _ w1 ⟨rfl, A1, F1⟩; have HB2 := hideIt ((HB1.out.kept (gbDrewN W 1 none)).prog A1 F1); have HN2 := hideIt ((HN.out.kept (gbDrewN W 1 none)).prog F1); have HX2 := hideIt (F1.obox (HX.out.kept (gbDrewN W 1 none)) HN.out.np); have HF2 := hideIt ((HF.out.kept (gbDrewN W 1 none)).prog F1); have T1 : w1.cell? ⟨w.heap.size, 1, none⟩ = some (.int .i64 a) ∧ w1.cell? ⟨w.heap.size, 2, none⟩ = some (.int .i64 a2) ∧ w1.cell? ⟨w.heap.size, 3, none⟩ = some (.int .i64 b) ∧ w1.cell? ⟨w.heap.size, 4, none⟩ = some (.int .i64 b2) ∧ w1.cell? ⟨w.heap.size, 5, none⟩ = some (.int .i64 d) ∧ w1.cell? ⟨w.heap.size, 6, none⟩ = some (.int .i64 d2) := ⟨HX2.out.at1, HX2.out.at2, HX2.out.at3, HX2.out.at4, HX2.out.at5, HX2.out.at6⟩; clear A1 F1) | fail))
  clear T0 T1 T2
  go_wp2
  go_ret
  exact ⟨_, _, _, _, _, rfl, HB3.out, I.rot HGs.out (a, a2) (b, b2) (d, d2), M.len_rot S f (a, a2) (b, b2) (d, d2), (Nat.le_succ _), HF3.out⟩

set_option maxHeartbeats 2000000 in
theorem act9 {w0 w : World} {P R : Nat → Prop} {p s t m q : Nat} {S : St} {f : T9.Fo} (B : Bh w0 w P R p s t m q S f S f) (I : M.Inv S f) (a a2 b b2 d d2 ck co cr cb cg cn n rt bd gd bt : Int) (o : Op18 ⟨9, a, a2, b, b2, d, d2, ⟨ck, co, cr, cb, cg, cn⟩, n, rt, bd, gd, bt⟩) (hm : m ≤ 1000) (hl : f.len ≤ 59) (hl2 : f.len ≤ 1000) (hl3 : f.len ≤ 60) :
    Calls Tryz.prog 7 #[.pointer (some ⟨p, 0, none⟩), .pointer (some ⟨q, 0, none⟩), .agg #[.int .i64 9, .int .i64 a, .int .i64 a2, .int .i64 b, .int .i64 b2, .int .i64 d, .int .i64 d2, .int .i64 ck, .int .i64 co, .int .i64 cr, .int .u64 cb, .int .u64 cg, .int .i64 cn, .int .i64 n, .int .i64 rt, .int .u64 bd, .int .u64 gd, .int .i64 bt]] w fun e w' => ∃ P' R' m' S' f', e = .returned (.bool true) ∧ Bh w0 w' P' R' p s t m' q S' f' S' f' ∧ M.Inv S' f' ∧ f'.len ≤ f.len + 1 ∧ m' ≤ m + 1 ∧ Bf P R w w' P' R' := by
  obtain ⟨e, he⟩ : ∃ e, M.srcE S (a, a2) = e := ⟨_, rfl⟩
  obtain ⟨⟨k1, o1, r1, b1, g1, u1⟩, hC⟩ : ∃ c, M.srcC S (a, a2) = c := ⟨_, rfl⟩
  have qe := eqGuardCap
  have qn := run_eql_cap
  have qr : M.eq ⟨k1, o1, r1, b1, g1, u1⟩ ⟨k1, o1, r1, b1, g1, u1⟩ = true := M.eq_refl _
  have HGs := hideIt B.cs.gs
  have HGt := hideIt B.cs.gt
  have HB0 := hideIt B
  clear B
  go_enter Tryz.func7, Tryz.ntmps7
  go_upto_region 1 with fail
  obtain ⟨W, hW, X, g0⟩ := oboxNew w ⟨9, a, a2, b, b2, d, d2, ⟨ck, co, cr, cb, cg, cn⟩, n, rt, bd, gd, bt⟩
  simp only at hW
  rw [hW]
  clear hW
  have HX := hideIt X
  have HB1 := hideIt (HB0.out.kept g0)
  have HN := hideIt (Nb.mk (HB0.out.out (Nat.le_refl _)).1 (HB0.out.out (Nat.le_refl _)).2 X.lt)
  have HF := hideIt ((Bf.refl P R w).kept g0)
  clear X g0
  have x0 := HX.out.at0
  have x1 := HX.out.at1
  have x2 := HX.out.at2
  simp only at x0 x1 x2
  go_wp2_with fail
  refine (HB1.out.cs.takeA I a a2 k1 o1 r1 b1 g1 u1 e o.a o.a2 hl2 hC he).mono ?_
  rintro _ w1 ⟨rfl, A1, F1⟩
  clear x0 x1 x2
  have HB2 := hideIt (HB1.out.prog A1 F1)
  have HN2 := hideIt (HN.out.prog F1)
  have HX2 := hideIt (F1.obox HX.out HN.out.np)
  have HF2 := hideIt (HF.out.prog F1)
  clear A1 F1
  go_upto_region 22 with fail
  obtain ⟨W2, hW2, Z2, g2⟩ := boxNew w1 ⟨k1, o1, r1, b1, g1, u1⟩
  simp only at hW2
  rw [hW2]
  clear hW2
  have HZ2 := hideIt Z2
  have HM2 := hideIt (Nb.mk (HB2.out.out (Nat.le_refl _)).1 (HB2.out.out (Nat.le_refl _)).2 Z2.lt)
  have HB3 := hideIt (HB2.out.kept g2)
  have HN3 := hideIt (HN2.out.kept g2)
  have HX3 := hideIt (HX2.out.kept g2)
  have HF3 := hideIt (HF2.out.kept g2)
  clear Z2 g2
  have x1 := HX3.out.at1
  have x2 := HX3.out.at2
  simp only at x1 x2
  go_wp2_with fail
  refine (HB3.out.rc.takeA I a a2 k1 o1 r1 b1 g1 u1 e hl3 hC he).mono ?_
  rintro _ w3 ⟨rfl, A3, F3⟩
  clear x1 x2
  have HB4 := hideIt (HB3.out.doc A3 F3)
  have HZ4 := hideIt (F3.box HZ2.out HM2.out.nr)
  have HF4 := hideIt (HF3.out.doc F3)
  clear A3 F3
  go_upto_region 23 with fail
  obtain ⟨W4, hW4, Z4, g4⟩ := boxNew w3 ⟨k1, o1, r1, b1, g1, u1⟩
  simp only at hW4
  rw [hW4]
  clear hW4
  have HZ5 := hideIt (HZ4.out.kept g4)
  have HB5 := hideIt (HB4.out.kept g4)
  have HF5 := hideIt (HF4.out.kept g4)
  obtain ⟨y0, y1, y2, y3, y4, y5, _, _⟩ := Z4
  obtain ⟨z0, z1, z2, z3, z4, z5, _, _⟩ := HZ5.out
  simp only at y0 y1 y2 y3 y4 y5 z0 z1 z2 z3 z4 z5
  clear g4
  go_wp2
  go_ret
  exact ⟨_, _, _, _, _, rfl, HB5.out, I.tak HGt.out (a, a2), M.len_tak S HGt.out (a, a2), Nat.le_succ _, HF5.out⟩

set_option maxHeartbeats 2000000 in
theorem actN {w0 w : World} {P R : Nat → Prop} {p s t m q : Nat} {S : St} {f : T9.Fo} (B : Bh w0 w P R p s t m q S f S f) (I : M.Inv S f) (k a a2 b b2 d d2 ck co cr cb cg cn n rt bd gd bt : Int) (o : Op18 ⟨k, a, a2, b, b2, d, d2, ⟨ck, co, cr, cb, cg, cn⟩, n, rt, bd, gd, bt⟩) (hm : m ≤ 1000) (hl : f.len ≤ 59) (hl2 : f.len ≤ 1000) (hl3 : f.len ≤ 60) (n0 : (k == 0) = false) (n1 : (k == 1) = false) (n2 : (k == 2) = false) (n3 : (k == 3) = false) (n4 : (k == 4) = false) (n5 : (k == 5) = false) (n6 : (k == 6) = false) (n7 : (k == 7) = false) (n8 : (k == 8) = false) (n9 : (k == 9) = false) :
    Calls Tryz.prog 7 #[.pointer (some ⟨p, 0, none⟩), .pointer (some ⟨q, 0, none⟩), .agg #[.int .i64 k, .int .i64 a, .int .i64 a2, .int .i64 b, .int .i64 b2, .int .i64 d, .int .i64 d2, .int .i64 ck, .int .i64 co, .int .i64 cr, .int .u64 cb, .int .u64 cg, .int .i64 cn, .int .i64 n, .int .i64 rt, .int .u64 bd, .int .u64 gd, .int .i64 bt]] w fun e w' => ∃ P' R' m' S' f', e = .returned (.bool true) ∧ Bh w0 w' P' R' p s t m' q S' f' S' f' ∧ M.Inv S' f' ∧ f'.len ≤ f.len + 1 ∧ m' ≤ m + 1 ∧ Bf P R w w' P' R' := by
  have HGs := hideIt B.cs.gs
  have HGt := hideIt B.cs.gt
  have HB0 := hideIt B
  clear B
  go_enter Tryz.func7, Tryz.ntmps7
  go_upto_region 1 with fail
  obtain ⟨W, hW, X, g0⟩ := oboxNew w ⟨k, a, a2, b, b2, d, d2, ⟨ck, co, cr, cb, cg, cn⟩, n, rt, bd, gd, bt⟩
  simp only at hW
  rw [hW]
  clear hW
  have x0 := X.at0
  simp only at x0
  have HB1 := hideIt (HB0.out.kept g0)
  have HF := hideIt ((Bf.refl P R w).kept g0)
  clear X g0
  go_wp2
  go_ret
  exact ⟨_, _, _, _, _, rfl, HB1.out, I, Nat.le_succ _, Nat.le_succ _, HF.out⟩

theorem act_is {w0 w : World} {P R : Nat → Prop} {p s t m q : Nat} {S : St} {f : T9.Fo} (B : Bh w0 w P R p s t m q S f S f) (I : M.Inv S f) (x : Q) (o : Op18 x) (hm : m ≤ 1000) (hl : f.len ≤ 59) :
    Calls Tryz.prog 7 #[.pointer (some ⟨p, 0, none⟩), .pointer (some ⟨q, 0, none⟩), .agg (qcs x).toArray] w fun e w' => ∃ P' R' m' S' f', e = .returned (.bool true) ∧ Bh w0 w' P' R' p s t m' q S' f' S' f' ∧ M.Inv S' f' ∧ f'.len ≤ f.len + 1 ∧ m' ≤ m + 1 ∧ Bf P R w w' P' R' := by
  obtain ⟨k, a, a2, b, b2, d, d2, ⟨ck, co, cr, cb, cg, cn⟩, n, rt, bd, gd, bt⟩ := x
  have hl2 : f.len ≤ 1000 := by omega
  have hl3 : f.len ≤ 60 := by omega
  by_cases c0 : k = 0
  · subst c0; exact act0 B I a a2 b b2 d d2 ck co cr cb cg cn n rt bd gd bt o hm hl hl2 hl3
  by_cases c1 : k = 1
  · subst c1; exact act1 B I a a2 b b2 d d2 ck co cr cb cg cn n rt bd gd bt o hm hl hl2 hl3
  by_cases c2 : k = 2
  · subst c2; exact act2 B I a a2 b b2 d d2 ck co cr cb cg cn n rt bd gd bt o hm hl hl2 hl3
  by_cases c3 : k = 3
  · subst c3; exact act3 B I a a2 b b2 d d2 ck co cr cb cg cn n rt bd gd bt o hm hl hl2 hl3
  by_cases c4 : k = 4
  · subst c4; exact act4 B I a a2 b b2 d d2 ck co cr cb cg cn n rt bd gd bt o hm hl hl2 hl3
  by_cases c5 : k = 5
  · subst c5; exact act5 B I a a2 b b2 d d2 ck co cr cb cg cn n rt bd gd bt o hm hl hl2 hl3
  by_cases c6 : k = 6
  · subst c6; exact act6 B I a a2 b b2 d d2 ck co cr cb cg cn n rt bd gd bt o hm hl hl2 hl3
  by_cases c7 : k = 7
  · subst c7; exact act7 B I a a2 b b2 d d2 ck co cr cb cg cn n rt bd gd bt o hm hl hl2 hl3
  by_cases c8 : k = 8
  · subst c8; exact act8 B I a a2 b b2 d d2 ck co cr cb cg cn n rt bd gd bt o hm hl hl2 hl3
  by_cases c9 : k = 9
  · subst c9; exact act9 B I a a2 b b2 d d2 ck co cr cb cg cn n rt bd gd bt o hm hl hl2 hl3
  exact actN B I k a a2 b b2 d d2 ck co cr cb cg cn n rt bd gd bt o hm hl hl2 hl3 (beq_eq_false_iff_ne.2 c0) (beq_eq_false_iff_ne.2 c1) (beq_eq_false_iff_ne.2 c2) (beq_eq_false_iff_ne.2 c3) (beq_eq_false_iff_ne.2 c4) (beq_eq_false_iff_ne.2 c5) (beq_eq_false_iff_ne.2 c6) (beq_eq_false_iff_ne.2 c7) (beq_eq_false_iff_ne.2 c8) (beq_eq_false_iff_ne.2 c9)
end Go.Proofs.YtdnoidnpiaadaaaGreat

/-
  BOTH SIDES TELL THE SAME: donjonlaw10's Same.
-/
namespace Go.Proofs.YtdnoidnpiaadaaaGreat
set_option maxRecDepth 10000
open Go.RowKit
set_option linter.unusedVariables false

abbrev Ry2 (w : World) (g o o' : Nat) (a b : Int) : Prop := w.cell? ⟨g, o, none⟩ = some (.int .i64 a) ∧ w.cell? ⟨g, o', none⟩ = some (.int .i64 b)
theorem Ry2.kept {w w' : World} {g o o' : Nat} {a b : Int} (h : Ry2 w g o o' a b) (k : w.grownBy w' none) : Ry2 w' g o o' a b := ⟨k.cell h.1 (by simp), k.cell h.2 (by simp)⟩
theorem sboxPut {w : World} {x : Nat} (h : SBox w x 0 0) (n i : Int) : ∃ W, (w.setCell ⟨x, 0, none⟩ (.int .i64 n)).setCell ⟨x, 1, none⟩ (.int .i64 i) = W ∧ SBox W x n i ∧ w.grownBy W (some x) := by
  refine ⟨_, rfl, ⟨?_, ?_, ?_⟩, gbTrans (gbSetCell _ _ _ _) (gbSetCell _ _ _ _)⟩
  · exact (World.cell?_setCell_other _ _ _ _ (by simp)).trans (World.cell?_setCell_same _ _ _ h.at0)
  · exact World.cell?_setCell_same _ _ _ ((World.cell?_setCell_other _ _ _ _ (by simp)).trans h.at1)
  · simpa [World.setCell] using h.lt

/-- All that the last region reads. -/
abbrev Al (w : World) (p t gg o o' : Nat) (A B : Int) (x : Nat) (c : C) (y : Nat) (z z' : Nat) (on oa : Int) : Prop := Rx0 w p 1 t gg o o' A B ∧ Six w x c ∧ Six w y c ∧ Two w z on oa ∧ Two w z' on oa

set_option maxHeartbeats 4000000 in
theorem same10_is {w0 w : World} {P R : Nat → Prop} {p s t m q : Nat} {S : St} {f : T9.Fo} (B : Bh w0 w P R p s t m q S f S f) (hl : f.len ≤ 60) :
    Calls Tryz.prog 8 #[.pointer (some ⟨p, 0, none⟩), .pointer (some ⟨q, 0, none⟩)] w fun e w' => e = .returned (.bool true) ∧ w.grownBy w' none := by
  have hl2 : f.len ≤ 1000 := by omega
  have qn := run_neq_cap
  have qe := eqGuardCap
  have qs := T9.run_neq_slots
  have qg := T9.eqGuardSlots
  have HB := hideIt B
  clear B
  go_enter Tryz.func8, Tryz.ntmps8
  go_wp2_with fail
  refine (HB.out.rc.full).mono ?_
  rintro _ w1 ⟨vl, rfl, ll, g1⟩
  have HL1 := hideIt ll
  have HB1 := hideIt (HB.out.kept g1)
  have GG1 := hideIt g1
  clear ll g1
  have c0 := HB1.out.cs.c0
  go_wp2_with fail
  refine (HB1.out.cs.full).mono ?_
  rintro _ w2 ⟨vp, rfl, lp, g2⟩
  have HL2 := hideIt (HL1.out.kept g2)
  have HB2 := hideIt (HB1.out.kept g2)
  have GG2 := hideIt (gbTrans GG1.out g2)
  have HP2 := hideIt lp
  clear lp g2 c0
  go_wp2_with fail
  refine (same_is HP2.out HL2.out (M.full_len S)).mono ?_
  rintro _ w3 ⟨rfl, g3⟩
  have HF := hideIt (LB.mk (Oc := fun _ => False) (HL2.out.kept g3).zero (fun b hb => id))
  have HB3 := hideIt (HB2.out.kept g3)
  have GG3 := hideIt (gbTrans GG2.out g3)
  clear g3 HL1 HL2 HP2
  obtain ⟨L, hL⟩ : ∃ L, M.full S = L := ⟨_, rfl⟩
  have HLm : Hid (∀ x ∈ L, (M.gc S x).k ≠ 0) := fun x hx => (M.mem_full HB3.out.cs.gs x).1 (hL ▸ hx)
  have hLn : L.length ≤ 1024 := hL ▸ M.full_len S
  rw [hL] at HF
  clear hL
  obtain ⟨xf, cf, rfl⟩ := HF.out.slice
  go_wp2
  go_loopg [6] L.length (fun y i wr => ∃ c : Nat, c + y = L.length ∧ i = .int .i64 c ∧ Hid (w3.grownBy wr none))
  case atStart => exact ⟨0, by omega, rfl, gbRefl _ _⟩
  case round =>
    obtain ⟨c, hc, rfl, gw⟩ := hrel
    by_cases hlc : c < L.length
    · have hlc' : (c : Int) < (L.length : Int) := by omega
      obtain ⟨gg, A, B, rfl, hAB, E, _⟩ := (HF.out.kept gw.out).el hlc
      have HE := hideIt E
      have HBr := hideIt (HB3.out.kept gw.out)
      have hk := HLm.out (A, B) (List.mem_of_getElem? hAB)
      have hth := M.gc_th hk
      obtain ⟨iA, iB⟩ := M.th_i64 HBr.out.cs.gs hth
      have hge : M.getE S A B = 0 := M.getE_ok hth
      obtain ⟨⟨xk, xq, xr, xb, xg, xn⟩, hx⟩ : ∃ x, M.gc S (A, B) = x := ⟨_, rfl⟩
      obtain ⟨on, e1⟩ : ∃ x, T9.oN (f.parent (A, B)) = x := ⟨_, rfl⟩
      obtain ⟨oa, e2⟩ : ∃ x, T9.oA (f.parent (A, B)) = x := ⟨_, rfl⟩
      obtain ⟨ob, e3⟩ : ∃ x, T9.oB (f.parent (A, B)) = x := ⟨_, rfl⟩
      have HXX := hideIt hx
      have HGE := hideIt hge
      have HO := hideIt (And.intro e1 (And.intro e2 e3))
      clear hk hth hge E hx hAB e1 e2 e3
      obtain ⟨wo, rfl⟩ : ∃ wo, wo = wr := ⟨_, rfl⟩
      go_upto_region 7 with fail
      go_cut [7, 8] from 33 to 44 (fun sz se wc => ∃ Z : Nat, sz = .pointer (some ⟨Z, 0, none⟩) ∧ se = .int .i64 0 ∧ Hid (Box wc Z ⟨xk, xq, xr, xb, xg, xn⟩) ∧ Hid (wo.heap.size ≤ Z) ∧ Hid (wo.grownBy wc none))
      case first =>
        have T0b : Rx0 wo p 0 s gg (c * 2) (c * 2 + 1) A B := ⟨HBr.out.cs.c0, HE.out.at0, HE.out.at1⟩
        have T0 : Rx0 wo.drew p 0 s gg (c * 2) (c * 2 + 1) A B := Rx0.kept T0b (gbDrewN wo 1 none)
        go_region_held3 (fun w' => Rx0 w' p 0 s gg (c * 2) (c * 2 + 1) A B)
          (first | with_reducible exact T0 | (focus (refine Rx0.kept T0b ?_; (repeat (first | with_reducible exact G6 | with_reducible exact gbRefl wo none | with_reducible refine gbDrew ?_ | with_reducible refine gbAllocN ?_ _ | with_reducible refine gbSetNew ?_ _ _ _ (by with_reducible first | exact Nat.le_refl _ | exact G6.size))); done)) | fail)
          ((first | (go_at_call 51; refine ((HBr.out.kept (by repeat (first | with_reducible exact gbRefl wo none | with_reducible refine gbDrew ?_ | with_reducible refine gbAllocN ?_ _))).cs.get A B _ _ _ _ _ _ _ iA HXX.out HGE.out).mono ?_; rintro _ u6 ⟨rfl, g6⟩; have hc6 := gcell g6; have hf6 := gfroz g6; have G6 : wo.grownBy u6 none := (by first | exact gbTrans (gbDrewN wo 1 none) g6 | exact gbTrans (gbDrew (gbAllocN (gbRefl wo none) _)) g6)) | fail))
        · rename_i hold
          clear hold T0
          obtain ⟨W6, hW6, Z6, g7⟩ := boxNew u6 ⟨xk, xq, xr, xb, xg, xn⟩
          try simp only at hW6
          rw [hW6]
          go_wp2
          go_meet
          exact ⟨_, rfl, rfl, Z6, G6.size, gbTrans G6 g7⟩
        · rename_i hold
          clear hold T0
          have Z0 : Box u6 wo.heap.size C.zero := ((Box.made wo C.zero).kept (gbDrew (gbRefl _ none))).kept g6
          obtain ⟨W6, hW6, Z6, g7⟩ := Z0.put ⟨xk, xq, xr, xb, xg, xn⟩
          try simp only at hW6
          rw [hW6]
          go_wp2
          go_meet
          exact ⟨_, rfl, rfl, Z6, Nat.le_refl _, gbNew (gbTrans (gbAny G6 _) g7) (Nat.le_refl _)⟩
      case rest =>
      obtain ⟨Z7, rfl, rfl, HZ7, hZ7, G7⟩ := hcut
      obtain ⟨W7, rfl⟩ : ∃ W7, W7 = wc := ⟨_, rfl⟩
      have HBs := hideIt (HBr.out.kept G7.out)
      have HEs := hideIt (HE.out.kept G7.out)
      clear HBr HE
      have HE := HEs
      clear HEs
      go_upto_region 8 with fail
      go_cut [9, 10] from 45 to 55 (fun sz se wc => ∃ Z : Nat, sz = .pointer (some ⟨Z, 0, none⟩) ∧ se = .int .i64 0 ∧ Hid (Box wc Z ⟨xk, xq, xr, xb, xg, xn⟩) ∧ Hid (W7.heap.size ≤ Z) ∧ Hid (W7.grownBy wc none))
      case first =>
        have T0b : Ry2 W7 gg (c * 2) (c * 2 + 1) A B := ⟨HE.out.at0, HE.out.at1⟩
        have T0 : Ry2 W7.drew gg (c * 2) (c * 2 + 1) A B := Ry2.kept T0b (gbDrewN W7 1 none)
        go_region_held3 (fun w' => Ry2 w' gg (c * 2) (c * 2 + 1) A B)
          (first | with_reducible exact T0 | (focus (refine Ry2.kept T0b ?_; (repeat (first | with_reducible exact G6 | with_reducible exact gbRefl W7 none | with_reducible refine gbDrew ?_ | with_reducible refine gbAllocN ?_ _ | with_reducible refine gbSetNew ?_ _ _ _ (by with_reducible first | exact Nat.le_refl _ | exact G6.size))); done)) | fail)
          ((first | (go_at_call 52; refine ((HBs.out.kept (by repeat (first | with_reducible exact gbRefl W7 none | with_reducible refine gbDrew ?_ | with_reducible refine gbAllocN ?_ _))).rc.get A B _ _ _ _ _ _ _ HXX.out HGE.out).mono ?_; rintro _ u6 ⟨rfl, g6⟩; have hc6 := gcell g6; have hf6 := gfroz g6; have G6 : W7.grownBy u6 none := (by first | exact gbTrans (gbDrewN W7 1 none) g6 | exact gbTrans (gbDrew (gbAllocN (gbRefl W7 none) _)) g6)) | fail))
        · rename_i hold
          clear hold T0
          obtain ⟨W6, hW6, Z6, g7⟩ := boxNew u6 ⟨xk, xq, xr, xb, xg, xn⟩
          try simp only at hW6
          rw [hW6]
          go_wp2
          go_meet
          exact ⟨_, rfl, rfl, Z6, G6.size, gbTrans G6 g7⟩
        · rename_i hold
          clear hold T0
          have Z0 : Box u6 W7.heap.size C.zero := ((Box.made W7 C.zero).kept (gbDrew (gbRefl _ none))).kept g6
          obtain ⟨W6, hW6, Z6, g7⟩ := Z0.put ⟨xk, xq, xr, xb, xg, xn⟩
          try simp only at hW6
          rw [hW6]
          go_wp2
          go_meet
          exact ⟨_, rfl, rfl, Z6, Nat.le_refl _, gbNew (gbTrans (gbAny G6 _) g7) (Nat.le_refl _)⟩
      case rest =>
      obtain ⟨Z8, rfl, rfl, HZ8, hZ8, G8⟩ := hcut
      obtain ⟨W8, rfl⟩ : ∃ W8, W8 = wc := ⟨_, rfl⟩
      have HBt := hideIt (HBs.out.kept G8.out)
      have HEs := hideIt (HE.out.kept G8.out)
      have HZ7b := hideIt (HZ7.out.kept G8.out)
      clear HBs HE HZ7
      have HE := HEs
      clear HEs
      go_upto_region 9 with fail
      go_cut [11, 12] from 56 to 67 (fun sz se wc => ∃ Z : Nat, sz = .pointer (some ⟨Z, 0, none⟩) ∧ se = .bool ob ∧ Hid (SBox wc Z on oa) ∧ Hid (W8.heap.size ≤ Z) ∧ Hid (W8.grownBy wc none))
      case first =>
        have T0b : Rx0 W8 p 1 t gg (c * 2) (c * 2 + 1) A B := ⟨HBt.out.cs.c1, HE.out.at0, HE.out.at1⟩
        have T0 : Rx0 W8.drew p 1 t gg (c * 2) (c * 2 + 1) A B := Rx0.kept T0b (gbDrewN W8 1 none)
        go_region_held3 (fun w' => Rx0 w' p 1 t gg (c * 2) (c * 2 + 1) A B)
          (first | with_reducible exact T0 | (focus (refine Rx0.kept T0b ?_; (repeat (first | with_reducible exact G6 | with_reducible exact gbRefl W8 none | with_reducible refine gbDrew ?_ | with_reducible refine gbAllocN ?_ _ | with_reducible refine gbSetNew ?_ _ _ _ (by with_reducible first | exact Nat.le_refl _ | exact G6.size))); done)) | fail)
          ((first | (go_at_call 53; refine ((HBt.out.kept (by repeat (first | with_reducible exact gbRefl W8 none | with_reducible refine gbDrew ?_ | with_reducible refine gbAllocN ?_ _))).cs.parent A B iA iB on oa ob HO.out.1 HO.out.2.1 HO.out.2.2).mono ?_; rintro _ u6 ⟨rfl, g6⟩; have hc6 := gcell g6; have hf6 := gfroz g6; have G6 : W8.grownBy u6 none := (by first | exact gbTrans (gbDrewN W8 1 none) g6 | exact gbTrans (gbDrew (gbAllocN (gbRefl W8 none) _)) g6)) | fail))
        · rename_i hold
          clear hold T0
          obtain ⟨W6, hW6, Z6, g7⟩ := sboxNew u6 on oa
          try simp only at hW6
          rw [hW6]
          go_wp2
          go_meet
          exact ⟨_, rfl, rfl, Z6, G6.size, gbTrans G6 g7⟩
        · rename_i hold
          clear hold T0
          have Z0 : SBox u6 W8.heap.size 0 0 := ((SBox.made W8 0 0).kept (gbDrew (gbRefl _ none))).kept g6
          obtain ⟨W6, hW6, Z6, g7⟩ := sboxPut Z0 on oa
          try simp only at hW6
          rw [hW6]
          go_wp2
          go_meet
          exact ⟨_, rfl, rfl, Z6, Nat.le_refl _, gbNew (gbTrans (gbAny G6 _) g7) (Nat.le_refl _)⟩
      case rest =>
      obtain ⟨Z9, rfl, rfl, HZ9, hZ9, G9⟩ := hcut
      obtain ⟨W9, rfl⟩ : ∃ W9, W9 = wc := ⟨_, rfl⟩
      have HBu := hideIt (HBt.out.kept G9.out)
      have HEs := hideIt (HE.out.kept G9.out)
      have HZ7c := hideIt (HZ7b.out.kept G9.out)
      have HZ8b := hideIt (HZ8.out.kept G9.out)
      clear HBt HE HZ7b HZ8
      have HE := HEs
      clear HEs
      go_upto_region 10 with fail
      go_cut [13, 14] from 68 to 78 (fun sz se wc => ∃ Z : Nat, sz = .pointer (some ⟨Z, 0, none⟩) ∧ se = .bool ob ∧ Hid (SBox wc Z on oa) ∧ Hid (W9.heap.size ≤ Z) ∧ Hid (W9.grownBy wc none))
      case first =>
        have T0b : Ry2 W9 gg (c * 2) (c * 2 + 1) A B := ⟨HE.out.at0, HE.out.at1⟩
        have T0 : Ry2 W9.drew gg (c * 2) (c * 2 + 1) A B := Ry2.kept T0b (gbDrewN W9 1 none)
        go_region_held3 (fun w' => Ry2 w' gg (c * 2) (c * 2 + 1) A B)
          (first | with_reducible exact T0 | (focus (refine Ry2.kept T0b ?_; (repeat (first | with_reducible exact G6 | with_reducible exact gbRefl W9 none | with_reducible refine gbDrew ?_ | with_reducible refine gbAllocN ?_ _ | with_reducible refine gbSetNew ?_ _ _ _ (by with_reducible first | exact Nat.le_refl _ | exact G6.size))); done)) | fail)
          ((first | (go_at_call 54; refine ((HBu.out.kept (by repeat (first | with_reducible exact gbRefl W9 none | with_reducible refine gbDrew ?_ | with_reducible refine gbAllocN ?_ _))).rc.parent A B hl on oa ob HO.out.1 HO.out.2.1 HO.out.2.2).mono ?_; rintro _ u6 ⟨rfl, g6⟩; have hc6 := gcell g6; have hf6 := gfroz g6; have G6 : W9.grownBy u6 none := (by first | exact gbTrans (gbDrewN W9 1 none) g6 | exact gbTrans (gbDrew (gbAllocN (gbRefl W9 none) _)) g6)) | fail))
        · rename_i hold
          clear hold T0
          obtain ⟨W6, hW6, Z6, g7⟩ := sboxNew u6 on oa
          try simp only at hW6
          rw [hW6]
          go_wp2
          go_meet
          exact ⟨_, rfl, rfl, Z6, G6.size, gbTrans G6 g7⟩
        · rename_i hold
          clear hold T0
          have Z0 : SBox u6 W9.heap.size 0 0 := ((SBox.made W9 0 0).kept (gbDrew (gbRefl _ none))).kept g6
          obtain ⟨W6, hW6, Z6, g7⟩ := sboxPut Z0 on oa
          try simp only at hW6
          rw [hW6]
          go_wp2
          go_meet
          exact ⟨_, rfl, rfl, Z6, Nat.le_refl _, gbNew (gbTrans (gbAny G6 _) g7) (Nat.le_refl _)⟩
      case rest =>
      obtain ⟨Z10, rfl, rfl, HZ10, hZ10, G10⟩ := hcut
      obtain ⟨W10, rfl⟩ : ∃ W10, W10 = wc := ⟨_, rfl⟩
      have HBv := hideIt (HBu.out.kept G10.out)
      have HE2 := hideIt (HE.out.kept G10.out)
      have HZ7d := hideIt (HZ7c.out.kept G10.out)
      have HZ8c := hideIt (HZ8b.out.kept G10.out)
      have HZ9b := hideIt (HZ9.out.kept G10.out)
      have GGa := hideIt (gbTrans gw.out (gbTrans G7.out (gbTrans G8.out (gbTrans G9.out G10.out))))
      clear HBu HE HZ7c HZ8b HZ9 hZ7 hZ8 hZ9 hZ10 G7 G8 G9 G10 HXX HGE HO
      have qr : M.eq ⟨xk, xq, xr, xb, xg, xn⟩ ⟨xk, xq, xr, xb, xg, xn⟩ = true := M.eq_refl _
      have qz : T9.M.seq on oa on oa = true := seq_iff.2 rfl
      have hch : (f.children (A, B)).length ≤ 1000 := Nat.le_trans (M.children_len f (A, B)) hl2
      go_upto_region 11 with fail
      have T0 : Al W10.drew p t gg (c * 2) (c * 2 + 1) A B Z7 ⟨xk, xq, xr, xb, xg, xn⟩ Z8 Z9 Z10 on oa := ⟨⟨(HBv.out.kept (gbDrewN W10 1 none)).cs.c1, (HE2.out.kept (gbDrewN W10 1 none)).at0, (HE2.out.kept (gbDrewN W10 1 none)).at1⟩, (HZ7d.out.kept (gbDrewN W10 1 none)).tup, (HZ8c.out.kept (gbDrewN W10 1 none)).tup, (HZ9b.out.kept (gbDrewN W10 1 none)).tup, (HZ10.out.kept (gbDrewN W10 1 none)).tup⟩
      go_region_held3 (fun w' => Al w' p t gg (c * 2) (c * 2 + 1) A B Z7 ⟨xk, xq, xr, xb, xg, xn⟩ Z8 Z9 Z10 on oa)
        (first | with_reducible exact T0 | with_reducible exact T3 | with_reducible exact T2 | with_reducible exact T1 | fail)
        ((first | (go_at_call 13; refine (same_is LA2.out LB2.out (by omega)).mono ?_; rintro _ uc ⟨rfl, gc⟩; have Gc : W10.grownBy uc none := gbTrans Gb gc; have T3 : Al uc p t gg (c * 2) (c * 2 + 1) A B Z7 ⟨xk, xq, xr, xb, xg, xn⟩ Z8 Z9 Z10 on oa := ⟨⟨(HBv.out.kept Gc).cs.c1, (HE2.out.kept Gc).at0, (HE2.out.kept Gc).at1⟩, (HZ7d.out.kept Gc).tup, (HZ8c.out.kept Gc).tup, (HZ9b.out.kept Gc).tup, (HZ10.out.kept Gc).tup⟩; clear gc) | (go_at_call 56; refine ((HBv.out.kept Ga).rc.children A B hl).mono ?_; rintro _ ub ⟨vb, rfl, lb, gb⟩; have Gb : W10.grownBy ub none := gbTrans Ga gb; have T2 : Al ub p t gg (c * 2) (c * 2 + 1) A B Z7 ⟨xk, xq, xr, xb, xg, xn⟩ Z8 Z9 Z10 on oa := ⟨⟨(HBv.out.kept Gb).cs.c1, (HE2.out.kept Gb).at0, (HE2.out.kept Gb).at1⟩, (HZ7d.out.kept Gb).tup, (HZ8c.out.kept Gb).tup, (HZ9b.out.kept Gb).tup, (HZ10.out.kept Gb).tup⟩; have LB2 := hideIt lb; have LA2 := hideIt (LA.out.kept gb); clear lb gb) | (go_at_call 55; refine ((HBv.out.kept (gbDrewN W10 1 none)).cs.children A B iA iB hch).mono ?_; rintro _ ua ⟨va, rfl, la, ga⟩; have Ga : W10.grownBy ua none := gbTrans (gbDrewN W10 1 none) ga; have T1 : Al ua p t gg (c * 2) (c * 2 + 1) A B Z7 ⟨xk, xq, xr, xb, xg, xn⟩ Z8 Z9 Z10 on oa := ⟨⟨(HBv.out.kept Ga).cs.c1, (HE2.out.kept Ga).at0, (HE2.out.kept Ga).at1⟩, (HZ7d.out.kept Ga).tup, (HZ8c.out.kept Ga).tup, (HZ9b.out.kept Ga).tup, (HZ10.out.kept Ga).tup⟩; have LA := hideIt la; clear la ga) | fail))
      rename_i hold
      clear hold T0 T1 T2 T3
      go_wp2
      go_roundg (gk - 1)
      case rel => exact ⟨c + 1, by omega, by go_num, gbTrans GGa.out Gc⟩
      case measure => omega
    · have hlc' : ¬ (c : Int) < (L.length : Int) := by omega
      go_wp2
      go_ret
      exact ⟨rfl, gbTrans GG3.out gw.out⟩
end Go.Proofs.YtdnoidnpiaadaaaGreat
