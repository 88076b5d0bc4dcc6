/- SlotsDoes: whatever nodes come and go, whatever is put and taken: each answer of the program, and all that lies there, are the document's; no condition. -/
import Derived.Test.YtjlkinocpkcghaaBoth
import Derived.Deep.Cut
import Derived.Deep.DeepCutAuto
import Derived.Deep.CutBlock
import Derived.Deep.RegionHeld3
import Derived.Test.YtjlkinocpkcghaaArgs
import Derived.ProofKit
import Derived.OpenShut
import Derived.ShutString
import Derived.ChangeOld
import Derived.Below
import Derived.Deep.Slices
namespace Go.Proofs.Ytjlkinocpkcghaa.slotsDoes
open Go.ChangeShapes Go.WideShapes Go.ChangeAt Go.RowKit
set_option linter.unusedVariables false

theorem own : ownKnob Try.prog.godebug = none := by kernel_rfl
theorem laidOut : laidOutB Try.prog = true := by kernel_rfl

abbrev Cells15 (w' : World) (wa wb xb : Nat) (k2 o2 r2 b2 g2' t2' n k o : Int) : Prop := w'.cell? ⟨wa, 0, none⟩ = some (.int .i64 k2) ∧ w'.cell? ⟨wa, 1, none⟩ = some (.int .i64 o2) ∧ w'.cell? ⟨wa, 2, none⟩ = some (.int .i64 r2) ∧ w'.cell? ⟨wa, 3, none⟩ = some (.int .u64 b2) ∧ w'.cell? ⟨wa, 4, none⟩ = some (.int .u64 g2') ∧ w'.cell? ⟨wa, 5, none⟩ = some (.int .i64 t2') ∧ w'.cell? ⟨wb, 0, none⟩ = some (.int .i64 k2) ∧ w'.cell? ⟨wb, 1, none⟩ = some (.int .i64 o2) ∧ w'.cell? ⟨wb, 2, none⟩ = some (.int .i64 r2) ∧ w'.cell? ⟨wb, 3, none⟩ = some (.int .u64 b2) ∧ w'.cell? ⟨wb, 4, none⟩ = some (.int .u64 g2') ∧ w'.cell? ⟨wb, 5, none⟩ = some (.int .i64 t2') ∧ w'.cell? ⟨xb, 1, none⟩ = some (.int .i64 n) ∧ w'.cell? ⟨xb, 4, none⟩ = some (.int .i64 k) ∧ w'.cell? ⟨xb, 5, none⟩ = some (.int .i64 o)
theorem cells15 {w w' : World} {wa wb xb : Nat} {k2 o2 r2 b2 g2' t2' n k o : Int} (h : Cells15 w wa wb xb k2 o2 r2 b2 g2' t2' n k o) (g : w.grownBy w' none) : Cells15 w' wa wb xb k2 o2 r2 b2 g2' t2' n k o := by
  obtain ⟨a0, a1, a2, a3, a4, a5, b0, b1, b2', b3, b4, b5, c1, c4, c5⟩ := h
  exact ⟨g.cell a0 (by simp), g.cell a1 (by simp), g.cell a2 (by simp), g.cell a3 (by simp), g.cell a4 (by simp), g.cell a5 (by simp), g.cell b0 (by simp), g.cell b1 (by simp), g.cell b2' (by simp), g.cell b3 (by simp), g.cell b4 (by simp), g.cell b5 (by simp), g.cell c1 (by simp), g.cell c4 (by simp), g.cell c5 (by simp)⟩
theorem boxes15 {w : World} {wa wb xb : Nat} {c : C} {k0 n s m : Int} {d : C} (Y : Box w wa c) (Z : Box w wb c) (X : OBox w xb k0 n s m d) : Cells15 w wa wb xb c.k c.o c.r c.b c.g c.n n d.k d.o :=
  ⟨Y.at0, Y.at1, Y.at2, Y.at3, Y.at4, Y.at5, Z.at0, Z.at1, Z.at2, Z.at3, Z.at4, Z.at5, X.at1, X.at4, X.at5⟩

set_option maxRecDepth 10000 in
set_option maxHeartbeats 4000000 in
theorem core (xo : Option Addr) (len cap : Nat) (w : World) (HX : Hid (∀ i, i < len → ∃ x k n s m c, xo = some x ∧ El10 w (x.add (i * 10)) k n s m c ∧ Op10 n s c)) :
    Calls Try.prog 3 #[.slice xo len cap] w fun e w' => e = .returned (.bool true) ∧ Below w.heap.size w w' := by
  go_enter Try.func3, Try.ntmps3
  go_wp2_with fail
  refine (new_is _).mono ?_
  rintro _ w1 ⟨p, rfl, A1, g1⟩
  obtain ⟨w2, hw2, P0, R0, B2⟩ := bothNew g1 A1
  have HB2 := hideIt B2
  clear A1 B2
  go_wp2
  clear hw2
  obtain ⟨q, hq⟩ : ∃ q, q = w1.heap.size := ⟨_, rfl⟩
  rw [← hq] at HB2 ⊢
  clear hq
  go_loopg [5] 80 (fun y i wr => ∃ (j : Nat) (S : St) (P R : Nat → Prop), j + y = 80 ∧ i = .int .i64 j ∧ Hid (Both w wr P R p q j S S))
  case atStart => exact ⟨0, _, P0, R0, by omega, rfl, HB2⟩
  case round =>
    obtain ⟨j, S, P, R, hj, rfl, HB⟩ := hrel
    by_cases hlt : j < len ∧ j < 80
    · obtain ⟨hlt, hlt2⟩ := hlt
      have hlt' : (j : Int) < (len : Int) := by omega
      have hlt2' : (j : Int) < 80 := by omega
      obtain ⟨x, k0, n, s, m, ⟨k, o, r, b, g, t⟩, rfl, E0, ⟨hn, hs, hb, hg⟩⟩ := HX.out j hlt
      have E := E0.low HB.out.bel
      obtain ⟨e0, e1, e2, e3, e4, e5, e6, e7, e8, e9⟩ := E
      simp only at e4 e5 e6 e7 e8 e9 hb hg
      have HN : Hid (I64 n ∧ 0 ≤ b ∧ 0 ≤ g) := hideIt ⟨hn, hb, hg⟩
      clear E0 hn hs hb hg
      go_upto_region 8 with fail
      obtain ⟨W6, hW6, X6, g6⟩ := oboxNew wr k0 n s m ⟨k, o, r, b, g, t⟩
      simp only at hW6
      rw [hW6]
      clear hW6 e0 e1 e2 e3 e4 e5 e6 e7 e8 e9
      have HB6 := hideIt (HB.out.kept g6)
      have HX6 := hideIt X6
      have x0 := X6.at0
      clear X6
      go_upto_block 2 with fail
      clear x0
      go_cut [8] (fun _ wc => ∃ (S2 : St) (P2 R2 : Nat → Prop), Hid (Both w wc P2 R2 p q (j + 1) S2 S2) ∧ Hid (OBox wc wr.heap.size k0 n s m ⟨k, o, r, b, g, t⟩))
      case first =>
        have HX7 := HX6
        have hxP : Hid (¬ P wr.heap.size) := hideIt (fun e => Nat.lt_irrefl _ (HB.out.lp _ e).2)
        have hxR : Hid (¬ R wr.heap.size) := hideIt (fun e => Nat.lt_irrefl _ (HB.out.lr _ e).2)
        have HBd := hideIt (HB6.out.kept (gbDrewN W6 1 none))
        have HXd := hideIt (HX6.out.kept (gbDrewN W6 1 none))
        cases hk0 : (k0 == 0)
        · cases hk1 : (k0 == 1)
          · cases hk2 : (k0 == 2)
            · cases hk3 : (k0 == 3)
              · go_wp2
                go_meet
                exact ⟨S, P, R, hideIt (by have h := HB6.out; exact ⟨h.sp.mono (fun _ h => h) (Nat.le_succ j), h.rp, h.dis, h.lp, h.lr, h.bel, h.gs, h.gt⟩), HX7⟩
              · obtain ⟨ae, hae⟩ : ∃ ae, M.takeE S n s = ae := ⟨_, rfl⟩
                obtain ⟨⟨k1, o1, r1, b1, g1', t1⟩, htc⟩ : ∃ c, M.takeC S n s = c := ⟨_, rfl⟩
                have HP := hideIt (take_is HB6.out.sp HB6.out.gs n s k1 o1 r1 b1 g1' t1 ae HN.out.1 htc hae)
                have HAE := hideIt hae
                have HTC := hideIt htc
                clear hae htc
                have x1 := HX7.out.at1
                have x2 := HX7.out.at2
                go_wp2_with fail
                refine HP.out.mono ?_
                rintro _ w8 ⟨rfl, A8, F8⟩
                have HB8 := hideIt (HB6.out.prog F8 (A8.mono (fun _ h => h) (Nat.le_succ j)) (HB6.out.gs.take n s) (fun i hi => .inl hi))
                have HX8 := hideIt (HX7.out.fr F8 hxP.out)
                clear A8 F8 x1 x2 HP
                go_upto_region 20 with fail
                obtain ⟨W9, hW9, Y9, g9⟩ := boxNew w8 ⟨k1, o1, r1, b1, g1', t1⟩
                simp only at hW9
                rw [hW9]
                clear hW9
                have HB9 := hideIt (HB8.out.kept g9)
                have HX9 := hideIt (HX8.out.kept g9)
                have hyR : Hid (¬ R w8.heap.size) := hideIt (fun e => Nat.lt_irrefl _ (HB8.out.lr _ e).2)
                have HP := hideIt (rtake_is HB9.out.rp HB9.out.gt n s k1 o1 r1 b1 g1' t1 ae HTC.out HAE.out)
                have x1 := HX9.out.at1
                have x2 := HX9.out.at2
                go_wp2_with fail
                refine HP.out.mono ?_
                rintro _ w10 ⟨rfl, A10, F10⟩
                have HB10 := hideIt (HB9.out.doc F10 A10 (HB9.out.gt.take n s) (fun i hi => .inl hi))
                have HX10 := hideIt (HX9.out.fr F10 hxR.out)
                have Y10 := F10.box Y9 hyR.out
                clear A10 F10 x1 x2 HP Y9
                go_upto_region 21 with fail
                obtain ⟨W11, hW11, Z11, g11⟩ := boxNew w10 ⟨k1, o1, r1, b1, g1', t1⟩
                simp only at hW11
                rw [hW11]
                clear hW11
                have HB11 := hideIt (HB10.out.kept g11)
                have HX11 := hideIt (HX10.out.kept g11)
                have Y11 := Y10.kept g11
                obtain ⟨y0, y1, y2, y3, y4, y5, _, _⟩ := Y11
                obtain ⟨z0, z1, z2, z3, z4, z5, _, _⟩ := Z11
                simp only at y0 y1 y2 y3 y4 y5 z0 z1 z2 z3 z4 z5
                have he : M.eq ⟨k1, o1, r1, b1, g1', t1⟩ ⟨k1, o1, r1, b1, g1', t1⟩ = true := M.eq_refl _
                have qe := eqGuardCap
                have qn := run_neq_cap
                go_wp2
                go_meet
                exact ⟨_, _, _, HB11, HX11⟩
            · obtain ⟨ae, hae⟩ : ∃ ae, M.putE S n s ⟨k, o, r, b, g, t⟩ = ae := ⟨_, rfl⟩
              have HAE := hideIt hae
              clear hae
              have T7 : W6.cell? ⟨wr.heap.size, 1, none⟩ = some (.int .i64 n) ∧ W6.cell? ⟨wr.heap.size, 2, none⟩ = some (.int .i64 s) ∧ W6.cell? ⟨wr.heap.size, 4, none⟩ = some (.int .i64 k) ∧ W6.cell? ⟨wr.heap.size, 5, none⟩ = some (.int .i64 o) ∧ W6.cell? ⟨wr.heap.size, 6, none⟩ = some (.int .i64 r) ∧ W6.cell? ⟨wr.heap.size, 7, none⟩ = some (.int .u64 b) ∧ W6.cell? ⟨wr.heap.size, 8, none⟩ = some (.int .u64 g) ∧ W6.cell? ⟨wr.heap.size, 9, none⟩ = some (.int .i64 t) := ⟨HX7.out.at1, HX7.out.at2, HX7.out.at4, HX7.out.at5, HX7.out.at6, HX7.out.at7, HX7.out.at8, HX7.out.at9⟩
              go_wp2
              go_region_held3 (fun w' => w'.cell? ⟨wr.heap.size, 1, none⟩ = some (.int .i64 n) ∧ w'.cell? ⟨wr.heap.size, 2, none⟩ = some (.int .i64 s) ∧ w'.cell? ⟨wr.heap.size, 4, none⟩ = some (.int .i64 k) ∧ w'.cell? ⟨wr.heap.size, 5, none⟩ = some (.int .i64 o) ∧ w'.cell? ⟨wr.heap.size, 6, none⟩ = some (.int .i64 r) ∧ w'.cell? ⟨wr.heap.size, 7, none⟩ = some (.int .u64 b) ∧ w'.cell? ⟨wr.heap.size, 8, none⟩ = some (.int .u64 g) ∧ w'.cell? ⟨wr.heap.size, 9, none⟩ = some (.int .i64 t))
                (first | exact T7 | with_reducible exact T8 | with_reducible exact T9 | fail)
                ((first | (go_at_call 11; refine (put_is HBd.out.sp HBd.out.gs n s k o r b g t ae HN.out.1 HN.out.2.1 HN.out.2.2 HAE.out).mono ?_; rintro _ w8 ⟨rfl, A8, F8⟩; have HB8 := hideIt (HBd.out.prog F8 (A8.mono (fun _ h => h) (Nat.le_succ j)) (HBd.out.gs.put n s _) (fun i hi => .inl hi)); have HX8 := hideIt (HXd.out.fr F8 hxP.out); have T8 : w8.cell? ⟨wr.heap.size, 1, none⟩ = some (.int .i64 n) ∧ w8.cell? ⟨wr.heap.size, 2, none⟩ = some (.int .i64 s) ∧ w8.cell? ⟨wr.heap.size, 4, none⟩ = some (.int .i64 k) ∧ w8.cell? ⟨wr.heap.size, 5, none⟩ = some (.int .i64 o) ∧ w8.cell? ⟨wr.heap.size, 6, none⟩ = some (.int .i64 r) ∧ w8.cell? ⟨wr.heap.size, 7, none⟩ = some (.int .u64 b) ∧ w8.cell? ⟨wr.heap.size, 8, none⟩ = some (.int .u64 g) ∧ w8.cell? ⟨wr.heap.size, 9, none⟩ = some (.int .i64 t) := ⟨HX8.out.at1, HX8.out.at2, HX8.out.at4, HX8.out.at5, HX8.out.at6, HX8.out.at7, HX8.out.at8, HX8.out.at9⟩; clear A8 F8) | (go_at_call 12; refine (rput_is HB8.out.rp HB8.out.gt n s k o r b g t ae HAE.out).mono ?_; rintro _ w9 ⟨rfl, A9, F9⟩; have HB9 := hideIt (HB8.out.doc F9 A9 (HB8.out.gt.put n s _) (fun i hi => .inl hi)); have HX9 := hideIt (HX8.out.fr F9 hxR.out); have T9 : w9.cell? ⟨wr.heap.size, 1, none⟩ = some (.int .i64 n) ∧ w9.cell? ⟨wr.heap.size, 2, none⟩ = some (.int .i64 s) ∧ w9.cell? ⟨wr.heap.size, 4, none⟩ = some (.int .i64 k) ∧ w9.cell? ⟨wr.heap.size, 5, none⟩ = some (.int .i64 o) ∧ w9.cell? ⟨wr.heap.size, 6, none⟩ = some (.int .i64 r) ∧ w9.cell? ⟨wr.heap.size, 7, none⟩ = some (.int .u64 b) ∧ w9.cell? ⟨wr.heap.size, 8, none⟩ = some (.int .u64 g) ∧ w9.cell? ⟨wr.heap.size, 9, none⟩ = some (.int .i64 t) := ⟨HX9.out.at1, HX9.out.at2, HX9.out.at4, HX9.out.at5, HX9.out.at6, HX9.out.at7, HX9.out.at8, HX9.out.at9⟩; clear A9 F9) | fail))
              rename_i hold
              clear hold T7 T8 T9
              go_wp2
              go_meet
              exact ⟨_, _, _, HB9, HX9⟩
          · obtain ⟨ae, hae⟩ : ∃ ae, M.dropE S n = ae := ⟨_, rfl⟩
            have HAE := hideIt hae
            clear hae
            have x1 := HX7.out.at1
            go_wp2
            go_region_held3 (fun w' => w'.cell? ⟨wr.heap.size, 1, none⟩ = some (.int .i64 n))
              (first | exact x1 | with_reducible exact T8 | with_reducible exact T9 | fail)
              ((first | (go_at_call 9; refine (drop_is HBd.out.sp HBd.out.gs n ae HN.out.1 HAE.out).mono ?_; rintro _ w8 ⟨rfl, A8, F8⟩; have HB8 := hideIt (HBd.out.prog F8 (A8.mono (fun _ h => h) (Nat.le_succ j)) (HBd.out.gs.drop n) (fun i hi => .inl hi)); have HX8 := hideIt (HXd.out.fr F8 hxP.out); have T8 : w8.cell? ⟨wr.heap.size, 1, none⟩ = some (.int .i64 n) := HX8.out.at1; clear A8 F8) | (go_at_call 10; refine (rdrop_is HB8.out.rp HB8.out.gt n ae HAE.out).mono ?_; rintro _ w9 ⟨rfl, A9, F9⟩; have HB9 := hideIt (HB8.out.doc F9 A9 (HB8.out.gt.drop n) (fun i hi => hi)); have HX9 := hideIt (HX8.out.fr F9 hxR.out); have T9 : w9.cell? ⟨wr.heap.size, 1, none⟩ = some (.int .i64 n) := HX9.out.at1; clear A9 F9) | fail))
            rename_i hold
            clear hold x1 T8 T9
            go_wp2
            go_meet
            exact ⟨_, _, _, HB9, HX9⟩
        · obtain ⟨ae, hae⟩ : ∃ ae, M.addE S n m = ae := ⟨_, rfl⟩
          have HAE := hideIt hae
          clear hae
          have x1 := HX7.out.at1
          have x3 := HX7.out.at3
          go_wp2
          go_region_held3 (fun w' => w'.cell? ⟨wr.heap.size, 1, none⟩ = some (.int .i64 n) ∧ w'.cell? ⟨wr.heap.size, 3, none⟩ = some (.int .i64 m))
            (first | exact ⟨x1, x3⟩ | with_reducible exact T8 | with_reducible exact T9 | fail)
            ((first | (go_at_call 7; refine (add_is HBd.out.sp HBd.out.gs n m ae HN.out.1 (by omega) HAE.out).mono ?_; rintro _ w8 ⟨rfl, A8, F8⟩; have HB8 := hideIt (HBd.out.prog F8 A8 (HBd.out.gs.add n m) (fun i hi => by rcases hi with e | ⟨e1, e2⟩; exact .inl e; exact .inr ⟨by omega, e2⟩)); have HX8 := hideIt (HXd.out.fr F8 hxP.out); have T8 : w8.cell? ⟨wr.heap.size, 1, none⟩ = some (.int .i64 n) ∧ w8.cell? ⟨wr.heap.size, 3, none⟩ = some (.int .i64 m) := ⟨HX8.out.at1, HX8.out.at3⟩; clear A8 F8) | (go_at_call 8; refine (radd_is HB8.out.rp HB8.out.gt n m ae HAE.out).mono ?_; rintro _ w9 ⟨rfl, A9, F9⟩; have HB9 := hideIt (HB8.out.doc F9 A9 (HB8.out.gt.add n m) (fun i hi => hi)); have HX9 := hideIt (HX8.out.fr F9 hxR.out); have T9 : w9.cell? ⟨wr.heap.size, 1, none⟩ = some (.int .i64 n) ∧ w9.cell? ⟨wr.heap.size, 3, none⟩ = some (.int .i64 m) := ⟨HX9.out.at1, HX9.out.at3⟩; clear A9 F9) | fail))
          rename_i hold
          clear hold x1 x3 T8 T9
          go_wp2
          go_meet
          exact ⟨_, _, _, HB9, HX9⟩
      case rest =>
        obtain ⟨S2, P2, R2, HC, HX7⟩ := hcut
        obtain ⟨⟨k2, o2, r2, b2, g2', t2'⟩, hgc⟩ : ∃ c, M.getC S2 n s = c := ⟨_, rfl⟩
        obtain ⟨ge, hge⟩ : ∃ e, M.getE S2 n s = e := ⟨_, rfl⟩
        have HGC := hideIt hgc
        have HGE := hideIt hge
        clear hgc hge
        have HP := hideIt (get_is HC.out.sp HC.out.gs n s k2 o2 r2 b2 g2' t2' ge HN.out.1 HGC.out HGE.out)
        have x1 := HX7.out.at1
        have x2 := HX7.out.at2
        go_wp2_with fail
        refine HP.out.mono ?_
        rintro _ w8 ⟨rfl, g8⟩
        clear HP x1 x2
        go_upto_region 24 with fail
        obtain ⟨W9, hW9, Y9, g9⟩ := boxNew w8 ⟨k2, o2, r2, b2, g2', t2'⟩
        simp only at hW9
        rw [hW9]
        clear hW9
        have HB9 := hideIt (HC.out.kept (gbTrans g8 g9))
        have HX9 := hideIt (HX7.out.kept (gbTrans g8 g9))
        have HP := hideIt (rget_is HB9.out.rp HB9.out.gt n s k2 o2 r2 b2 g2' t2' ge HGC.out HGE.out)
        have x1 := HX9.out.at1
        have x2 := HX9.out.at2
        go_wp2_with fail
        refine HP.out.mono ?_
        rintro _ w9 ⟨rfl, g10⟩
        clear HP x1 x2
        go_upto_region 25 with fail
        obtain ⟨W10, hW10, Z10, g11⟩ := boxNew w9 ⟨k2, o2, r2, b2, g2', t2'⟩
        simp only at hW10
        rw [hW10]
        clear hW10
        have Y10 := (Y9.kept g10).kept g11
        have HB10 := hideIt (HB9.out.kept (gbTrans g10 g11))
        have HX10 := hideIt (HX9.out.kept (gbTrans g10 g11))
        obtain ⟨wa, hwa⟩ : ∃ wa, wa = w8.heap.size := ⟨_, rfl⟩
        obtain ⟨wb, hwb⟩ : ∃ wb, wb = w9.heap.size := ⟨_, rfl⟩
        obtain ⟨xb, hxb⟩ : ∃ xb, xb = wr.heap.size := ⟨_, rfl⟩
        rw [← hwa] at Y10 ⊢
        rw [← hwb] at Z10 ⊢
        rw [← hxb] at HX10 ⊢
        have HT := hideIt (boxes15 Y10 Z10 HX10.out)
        have T10 := HT.out
        simp only at T10
        clear hwa hwb hxb Y10 Z10 Y9
        obtain ⟨rv, hrv⟩ : ∃ rv, M.rad S2 n = rv := ⟨_, rfl⟩
        obtain ⟨cn, hcn⟩ : ∃ cn : Int, (M.cnt S2 k o : Int) = cn := ⟨_, rfl⟩
        have HRV := hideIt hrv
        have HCN := hideIt hcn
        have HFL : Hid ((M.full S2).length ≤ 1024) := hideIt (M.fullTo_len S2 64)
        clear hrv hcn
        have he : M.eq ⟨k2, o2, r2, b2, g2', t2'⟩ ⟨k2, o2, r2, b2, g2', t2'⟩ = true := M.eq_refl _
        have qe := eqGuardCap
        have qn := run_neq_cap
        have HG20 : Hid (W10.grownBy (W10.drewN 1) none) := hideIt (gbDrewN W10 1 none)
        have HB20 := hideIt (HB10.out.kept HG20.out)
        go_wp2
        go_region_held3 (fun w' => w'.cell? ⟨wa, 0, none⟩ = some (.int .i64 k2) ∧ w'.cell? ⟨wa, 1, none⟩ = some (.int .i64 o2) ∧ w'.cell? ⟨wa, 2, none⟩ = some (.int .i64 r2) ∧ w'.cell? ⟨wa, 3, none⟩ = some (.int .u64 b2) ∧ w'.cell? ⟨wa, 4, none⟩ = some (.int .u64 g2') ∧ w'.cell? ⟨wa, 5, none⟩ = some (.int .i64 t2') ∧ w'.cell? ⟨wb, 0, none⟩ = some (.int .i64 k2) ∧ w'.cell? ⟨wb, 1, none⟩ = some (.int .i64 o2) ∧ w'.cell? ⟨wb, 2, none⟩ = some (.int .i64 r2) ∧ w'.cell? ⟨wb, 3, none⟩ = some (.int .u64 b2) ∧ w'.cell? ⟨wb, 4, none⟩ = some (.int .u64 g2') ∧ w'.cell? ⟨wb, 5, none⟩ = some (.int .i64 t2') ∧ w'.cell? ⟨xb, 1, none⟩ = some (.int .i64 n) ∧ w'.cell? ⟨xb, 4, none⟩ = some (.int .i64 k) ∧ w'.cell? ⟨xb, 5, none⟩ = some (.int .i64 o))
          (first | with_reducible exact T27 | with_reducible exact T26 | with_reducible exact T25 | with_reducible exact T24 | with_reducible exact T23 | with_reducible exact T22 | with_reducible exact T21 | exact T10 | fail)
          ((first | (go_at_call 17; refine (radix_is (HB20.out).sp n rv HN.out.1 HRV.out).mono ?_; rintro _ w21 ⟨rfl, g21⟩; have HB21 := hideIt (HB20.out.kept g21); have HG21 := hideIt (gbTrans HG20.out g21); have T21 := cells15 HT.out (HG21.out)) | (go_at_call 18; refine (rradix_is (HB21.out).rp (HB21.out).gt n rv HRV.out).mono ?_; rintro _ w22 ⟨rfl, g22⟩; have HB22 := hideIt (HB21.out.kept g22); have HG22 := hideIt (gbTrans HG21.out g22); have T22 := cells15 HT.out (HG22.out)) | (go_at_call 19; refine (count_is (HB22.out).sp (HB22.out).gs k o cn HCN.out).mono ?_; rintro _ w23 ⟨rfl, g23⟩; have HB23 := hideIt (HB22.out.kept g23); have HG23 := hideIt (gbTrans HG22.out g23); have T23 := cells15 HT.out (HG23.out)) | (go_at_call 20; refine (rcount_is (HB23.out).rp (HB23.out).gt k o cn HCN.out).mono ?_; rintro _ w24 ⟨rfl, g24⟩; have HB24 := hideIt (HB23.out.kept g24); have HG24 := hideIt (gbTrans HG23.out g24); have T24 := cells15 HT.out (HG24.out)) | (go_at_call 22; refine (full_is (HB24.out).sp).mono ?_; rintro _ w25 ⟨va, rfl, hLva, g25⟩; have HLva := hideIt hLva; clear hLva; have HB25 := hideIt (HB24.out.kept g25); have HG25 := hideIt (gbTrans HG24.out g25); have T25 := cells15 HT.out (HG25.out)) | (go_at_call 23; refine (rfull_is (HB25.out).rp (HB25.out).gt).mono ?_; rintro _ w26 ⟨vb, rfl, hLvb, g26⟩; have HLvb := hideIt hLvb; clear hLvb; have HB26 := hideIt (HB25.out.kept g26); have HG26 := hideIt (gbTrans HG25.out g26); have T26 := cells15 HT.out (HG26.out)) | (go_at_call 21; refine (same_is ((HLva.out.kept g26)) HLvb.out HFL.out).mono ?_; rintro _ w27 ⟨rfl, g27⟩; have HB27 := hideIt (HB26.out.kept g27); have HG27 := hideIt (gbTrans HG26.out g27); have T27 := cells15 HT.out (HG27.out)) | fail))
        rename_i hold
        clear hold T10 T21 T22 T23 T24 T25 T26 T27
        go_wp2
        go_roundg (gk - 1)
        case rel => exact ⟨j + 1, S2, P2, R2, by omega, by go_num, HB27⟩
        case measure => omega
    · by_cases h1 : j < len
      · have h1' : (j : Int) < (len : Int) := by omega
        have h2' : ¬ (j : Int) < 80 := by omega
        go_wp2
        go_ret
        exact ⟨rfl, HB.out.bel⟩
      · have h1' : ¬ (j : Int) < (len : Int) := by omega
        go_wp2
        go_ret
        exact ⟨rfl, HB.out.bel⟩

theorem walk (xo : Option Addr) (len cap : Nat) (w : World) (hx : ∀ i, i < len → ∃ x k n s m c, xo = some x ∧ El10 w (x.add (i * 10)) k n s m c ∧ Op10 n s c) :
    Calls Try.prog 3 #[.slice xo len cap] w fun e w' => e = .returned (.bool true) ∧ Below w.heap.size w w' := core xo len cap w (hideIt hx)

set_option maxRecDepth 100000 in
theorem lifted (os : Os) (started : os.Started) (H : Type) (enc : TypeId × Value → H) :
    ReturnsInHanded {} Try.checked os 3 .any (Rows.slotsDoesSpec.pre6 enc Try.prog Try.f3 Rows.slotsDoesRow.domain false) (Rows.slotsDoesSpec.post enc Try.prog Try.f3 false true false false) := by
  refine returnsInHanded_of_change (C := Try.checked) own started (by kernel_rfl) Try.func3
    (ChangeSpec.witness6 (enc := enc) (C := Try.checked) false ⟨#[], #[.slice none 0 0], []⟩ 8 (by kernel_rfl) (by kernel_rfl) (by kernel_rfl) (by kernel_rfl)) ?_
  intro W base args ds gs before hval0 hW hcnd _
  have hval : ∀ (j : Nat) t v, Try.f3.params[j]? = some t → args[j]? = some v → Value.okWide Try.prog W .any base t v := hval0
  have hW' := hW
  obtain ⟨p, q, hA0, hV, rfl, hfz, hnd⟩ := hW
  have hA : DataW.TrodAll enc Try.prog W 0 (fun _ => true) true Try.f3.params.toList args.toList ds p := hA0
  rw [Try.params3] at hA hval
  obtain ⟨v0, vs0, d0, ds0, p0, q0, hargs, rfl, rfl, h0, r0⟩ := trodAll_cons hA
  obtain ⟨rfl, rfl, rfl⟩ := trodAll_nil r0
  obtain rfl : args = #[v0] := by cases args; simp_all
  obtain ⟨rfl, rfl⟩ := trodVars_none hV
  obtain ⟨x0, len0, cap0, rfl⟩ := okWide_slice Try.underlying22 (hval 0 22 v0 rfl rfl)
  have hx0 := opsArg h0
  have k0 := h0
  have lt0 : ∀ x ∈ p0, x.block < W.heap.size := by obtain ⟨m, hm⟩ := k0; exact DataW.trod_lt m _ _ _ hm
  clear hA0 hval0
  refine (walk x0 len0 cap0 W hx0).mono fun e W' ⟨he, bel⟩ => ?_
  subst he
  exact ⟨_, rfl, _, _, _, [], _, [], hW', trodAll_mk1 (shut_bool Try.underlying4 _), (trodAll_cons_mk (Below.trod laidOut (by kernel_rfl) (of_decide_eq_true (by kernel_rfl)) k0 bel lt0) trodAll_mk0), rfl, bel.frame _, fun h => by cases h⟩

theorem over : Rows.slotsDoesRow.holds Try.pinned (OpenSpec.ofChange Rows.slotsDoesSpec) :=
  OpenClaim.holds_of_wide 3 Try.f3 rfl rfl rfl rfl rfl rfl rfl ⟨rfl, rfl, rfl, rfl, rfl⟩ rfl rfl rfl rfl rfl (by kernel_rfl) Try.func3 (by kernel_rfl)
    (of_decide_eq_true (by kernel_rfl)) (by unfold Func.isWrapper; first | (rw [if_pos (by decide +kernel)]; kernel_rfl) | (rw [if_neg (by decide +kernel)]; exact ⟨rfl, rfl⟩))
    (fun os started H enc _ => lifted os started H enc)

theorem proved : Rows.SlotsDoesSaid := over
end Go.Proofs.Ytjlkinocpkcghaa.slotsDoes
namespace Go.Proofs.Ytjlkinocpkcghaa
theorem slotsDoes_holds : Rows.SlotsDoesSaid := slotsDoes.proved
#print axioms slotsDoes_holds
end Go.Proofs.Ytjlkinocpkcghaa
