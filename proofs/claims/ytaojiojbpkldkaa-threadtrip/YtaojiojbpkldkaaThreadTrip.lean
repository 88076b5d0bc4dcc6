/- ThreadTrip (20.2): blocked and woken, a thread is as it was, but for its registers; stopped and started likewise, but that it waits for nothing. For every input; no condition. -/
import Derived.Deep.Cut
import Derived.Deep.DeepCutAuto
import Derived.Deep.LoopGhost
import Derived.Test.YtaojiojbpkldkaaArgs
import Derived.ProofKit
import Derived.OpenShut
import Derived.ShutString
import Derived.ChangeOld
import Derived.Below
import Derived.Deep.Slices
namespace Go.Proofs.Ytaojiojbpkldkaa.threadTrip
open Go.ChangeShapes Go.WideShapes Go.ChangeAt Go.RowKit
set_option linter.unusedVariables false

theorem own : ownKnob Try.prog.godebug = none := by kernel_rfl
theorem laidOut : laidOutB Try.prog = true := by kernel_rfl

set_option maxHeartbeats 2000000 in
set_option maxRecDepth 10000 in
theorem core_no (a0 a1 : Int) (q : A) (x : Option Addr) (len cap : Nat) (U0 U1 L D : Nat) (w : World)
    (p0 : IntKind.u64.wrap a0 = (U0 : Int)) (q0 : (U0 : Int) % 8 = (L : Int)) (hL : L < 8) (p1 : IntKind.u64.wrap a1 = (U1 : Int)) (q1 : (U1 : Int) % 4 = (D : Int)) (hD : D < 4)
    (H1 : ∀ w, Calls Try.prog 8 #[.int .i64 (L : Int), .int .i64 (D : Int)] w fun e w' => e = .returned (.tuple #[.agg (tc (tn L D)), .int .i64 0]) ∧ w.grownBy w' none)
    (H2 : ∀ w, Calls Try.prog 9 #[.agg (tc (tn L D))] w fun e w' => e = .returned (.tuple #[.agg (tc (tr L D)), .int .i64 0]) ∧ w.grownBy w' none)
    (hx : ∀ i, i < len → ∃ (y : Addr) (z : Int), x = some y ∧ w.cell? (y.add i) = some (.int .u64 z))
    (v : Int) (hv : (v != 0) = true)
    (H3 : ∀ w, Calls Try.prog 11 #[.agg (tc (tr L D)), .int .i64 q.s, .int .i64 q.o, .int .u64 (q.b : Int), .bool q.c] w fun e w' => e = .returned (.tuple #[.agg (tc T0), .int .i64 v]) ∧ w.grownBy w' none) :
    Calls Try.prog 5 #[.int .i64 a0, .int .i64 a1, .agg (ac q), .slice x len cap] w fun e w' => e = .returned (.bool true) ∧ w.grownBy w' none := by
  have G := gbRefl w none
  replace hx := hideIt hx
  go_enter Try.func5, Try.ntmps5
  go_upto_region 1 with (refine wpList_boxA rfl _ rfl rfl ?_; intro V0 x0 K k0 l0)
  replace G := gbTrans G k0
  clear k0 l0
  go_wp2_with fail
  refine (works_is _).mono ?_
  rintro e w0 ⟨rfl, g0⟩
  replace G := gbTrans G g0
  replace K := K.kept g0
  clear g0
  go_wp2_with fail
  refine (H1 _).mono ?_
  rintro e w1 ⟨rfl, g1⟩
  replace G := gbTrans G g1
  replace K := K.kept g1
  clear g1
  go_upto_region 4 with (first | (refine wpList_allocT rfl rfl ?_; intro V1 x1 X1 k1 l1) | (refine wpList_storeT rfl _ _ rfl rfl rfl X1 ?_; intro W1 B1 h1))
  have lx : w.heap.size ≤ x1 := Nat.le_trans G.size l1
  have ax : x0 ≠ x1 := by have := K.lt; omega
  replace K := K.past k1 l1 h1
  replace G := gbMade G k1 l1 h1
  clear k1 l1 h1 X1 p0 q0 p1 q1 H1
  go_wp2_with (refine wpList_loadT rfl _ rfl rfl B1 ?_)
  refine (H2 _).mono ?_
  rintro e w2 ⟨rfl, g2⟩
  replace G := gbTrans G g2
  replace K := K.kept g2
  replace B1 := B1.kept g2
  clear g2
  go_upto_region 5 with (refine wpList_storeT rfl _ _ rfl rfl rfl B1 ?_; intro W2 B2 h2)
  replace K := K.keep h2 (by simpa using ax)
  replace G := gbNew (gbTrans (gbAny G _) h2) lx
  clear h2 B1 H2 ax lx
  have c0 : W2.cell? ⟨x0, 0, none⟩ = some (.int .i64 q.s) := K.cell 0
  have c1 : W2.cell? ⟨x0, 1, none⟩ = some (.int .i64 q.o) := K.cell 1
  have c2 : W2.cell? ⟨x0, 2, none⟩ = some (.int .u64 (q.b : Int)) := K.cell 2
  have c3 : W2.cell? ⟨x0, 3, none⟩ = some (.bool q.c) := K.cell 3
  go_wp2_with (refine wpList_loadT rfl _ rfl rfl B2 ?_)
  refine (H3 _).mono ?_
  rintro e w3 ⟨rfl, g3⟩
  replace G := gbTrans G g3
  replace B2 := B2.kept g3
  clear g3 c0 c1 c2 c3 K H3
  go_upto_region 8 with (first | (refine wpList_allocT rfl rfl ?_; intro V3 x3 X3 k3 l3) | (refine wpList_storeT rfl _ _ rfl rfl rfl X3 ?_; intro W3 B3 h3))
  replace B2 := B2.past k3 l3 h3
  replace G := gbMade G k3 l3 h3
  clear k3 l3 h3 X3
  have qe := eqGuardT
  have qs := fun w => run_eql_same w T0
  go_wp2_with (first | (refine wpList_loadT rfl _ rfl rfl B3 ?_) | (refine wpList_nilT rfl rfl ?_))
  go_ret
  exact ⟨rfl, G⟩

set_option maxHeartbeats 2000000 in
set_option maxRecDepth 10000 in
theorem core_yes (a0 a1 : Int) (q : A) (x : Option Addr) (len cap : Nat) (U0 U1 L D : Nat) (w : World)
    (p0 : IntKind.u64.wrap a0 = (U0 : Int)) (q0 : (U0 : Int) % 8 = (L : Int)) (hL : L < 8) (p1 : IntKind.u64.wrap a1 = (U1 : Int)) (q1 : (U1 : Int) % 4 = (D : Int)) (hD : D < 4)
    (H1 : ∀ w, Calls Try.prog 8 #[.int .i64 (L : Int), .int .i64 (D : Int)] w fun e w' => e = .returned (.tuple #[.agg (tc (tn L D)), .int .i64 0]) ∧ w.grownBy w' none)
    (H2 : ∀ w, Calls Try.prog 9 #[.agg (tc (tn L D))] w fun e w' => e = .returned (.tuple #[.agg (tc (tr L D)), .int .i64 0]) ∧ w.grownBy w' none)
    (hx : ∀ i, i < len → ∃ (y : Addr) (z : Int), x = some y ∧ w.cell? (y.add i) = some (.int .u64 z))
    (u : T)
    (H3 : ∀ w, Calls Try.prog 11 #[.agg (tc (tr L D)), .int .i64 q.s, .int .i64 q.o, .int .u64 (q.b : Int), .bool q.c] w fun e w' => e = .returned (.tuple #[.agg (tc u), .int .i64 0]) ∧ w.grownBy w' none)
    (H4 : ∀ f w, Calls Try.prog 12 #[.agg (tc u), .agg (rc f)] w fun e w' => e = .returned (.tuple #[.agg (tc { tr L D with f := f }), .int .i64 0]) ∧ w.grownBy w' none)
    (H5 : ∀ w, Calls Try.prog 10 #[.agg (tc u)] w fun e w' => e = .returned (.agg (tc (tn L D))) ∧ w.grownBy w' none)
    (H6 : ∀ w, Calls Try.prog 9 #[.agg (tc (tn L D))] w fun e w' => e = .returned (.tuple #[.agg (tc (tr L D)), .int .i64 0]) ∧ w.grownBy w' none) :
    Calls Try.prog 5 #[.int .i64 a0, .int .i64 a1, .agg (ac q), .slice x len cap] w fun e w' => e = .returned (.bool true) ∧ w.grownBy w' none := by
  have G := gbRefl w none
  replace hx := hideIt hx
  go_enter Try.func5, Try.ntmps5
  go_upto_region 1 with (refine wpList_boxA rfl _ rfl rfl ?_; intro V0 x0 K k0 l0)
  replace G := gbTrans G k0
  clear k0 l0
  go_wp2_with fail
  refine (works_is _).mono ?_
  rintro e w0 ⟨rfl, g0⟩
  replace G := gbTrans G g0
  replace K := K.kept g0
  clear g0
  go_wp2_with fail
  refine (H1 _).mono ?_
  rintro e w1 ⟨rfl, g1⟩
  replace G := gbTrans G g1
  replace K := K.kept g1
  clear g1
  go_upto_region 4 with (first | (refine wpList_allocT rfl rfl ?_; intro V1 x1 X1 k1 l1) | (refine wpList_storeT rfl _ _ rfl rfl rfl X1 ?_; intro W1 B1 h1))
  have lx : w.heap.size ≤ x1 := Nat.le_trans G.size l1
  have ax : x0 ≠ x1 := by have := K.lt; omega
  replace K := K.past k1 l1 h1
  replace G := gbMade G k1 l1 h1
  clear k1 l1 h1 X1 p0 q0 p1 q1 H1
  go_wp2_with (refine wpList_loadT rfl _ rfl rfl B1 ?_)
  refine (H2 _).mono ?_
  rintro e w2 ⟨rfl, g2⟩
  replace G := gbTrans G g2
  replace K := K.kept g2
  replace B1 := B1.kept g2
  clear g2
  go_upto_region 5 with (refine wpList_storeT rfl _ _ rfl rfl rfl B1 ?_; intro W2 B2 h2)
  replace K := K.keep h2 (by simpa using ax)
  replace G := gbNew (gbTrans (gbAny G _) h2) lx
  clear h2 B1 H2 ax lx
  have c0 : W2.cell? ⟨x0, 0, none⟩ = some (.int .i64 q.s) := K.cell 0
  have c1 : W2.cell? ⟨x0, 1, none⟩ = some (.int .i64 q.o) := K.cell 1
  have c2 : W2.cell? ⟨x0, 2, none⟩ = some (.int .u64 (q.b : Int)) := K.cell 2
  have c3 : W2.cell? ⟨x0, 3, none⟩ = some (.bool q.c) := K.cell 3
  go_wp2_with (refine wpList_loadT rfl _ rfl rfl B2 ?_)
  refine (H3 _).mono ?_
  rintro e w3 ⟨rfl, g3⟩
  replace G := gbTrans G g3
  replace B2 := B2.kept g3
  clear g3 c0 c1 c2 c3 K H3
  go_upto_region 8 with (first | (refine wpList_allocT rfl rfl ?_; intro V3 x3 X3 k3 l3) | (refine wpList_storeT rfl _ _ rfl rfl rfl X3 ?_; intro W3 B3 h3))
  replace B2 := B2.past k3 l3 h3
  replace G := gbMade G k3 l3 h3
  clear k3 l3 h3 X3
  go_upto_region 11 with (refine wpList_allocR rfl rfl ?_; intro W4 x4 R k4 l4)
  have l9 : W3.heap.size ≤ x4 := l4
  have a2 : x1 ≠ x4 := apartT B2 l4
  have a3 : x3 ≠ x4 := apartT B3 l4
  have lx : w.heap.size ≤ x4 := Nat.le_trans G.size l4
  replace G := gbTrans G k4
  replace B2 := B2.kept k4
  replace B3 := B3.kept k4
  clear k4 l4 l9
  go_wp2_with fail
  go_loopg [15] 8 (fun gk i wr => ∃ j : Nat, j + gk = 8 ∧ i = .int .i64 j ∧ w.grownBy wr none ∧ Hid (TB wr x1 (tr L D)) ∧ Hid (TB wr x3 u) ∧ ∃ f, Hid (RB wr x4 f))
  case atStart => exact ⟨0, rfl, rfl, G, B2, B3, nil8, R⟩
  case round =>
    clear B2 B3 R G
    obtain ⟨j, hj, rfl, G, B2, B3, f, R⟩ := hrel
    by_cases hlt : j < len ∧ j < 8
    · obtain ⟨c1, c2⟩ := hlt
      obtain ⟨y, z, rfl, hy⟩ := hx.out j c1
      replace hy := cellKept hy G
      have b1 := R.out.cell j c2
      have bf := R.out.fr j
      obtain ⟨W5, e5, R5, g5⟩ : ∃ W, wr.setCell ⟨x4, j, none⟩ (.int .u64 z) = W ∧ Hid (RB W x4 (upd f j z)) ∧ wr.grownBy W (some x4) :=
        ⟨_, rfl, hideIt (R.out.set j z c2), gbSetCell _ _ _ _⟩
      have B25 := hideIt (B2.out.aside g5 a2)
      have B35 := hideIt (B3.out.aside g5 a3)
      have G5 := gbNew (gbTrans (gbAny G _) g5) lx
      clear B2 B3 R g5
      go_wp2
      go_roundg (gk - 1)
      case rel => exact ⟨j + 1, by omega, by go_num, G5, B25, B35, _, R5⟩
      case measure => omega
    · go_upto_region 12 with fail
      go_cut [67] from 60 to 67 (fun s wc => s = .bool false ∧ wc = wr)
      case first =>
        by_cases k1 : (j : Int) < (len : Int)
        · have k2 : ¬ (j : Int) < 8 := by omega
          go_wp2
          go_meet
          exact ⟨rfl, rfl⟩
        · go_wp2
          go_meet
          exact ⟨rfl, rfl⟩
      case rest =>
      obtain ⟨rfl, rfl⟩ := hcut
      replace B2 := B2.out
      replace B3 := B3.out
      replace R := R.out
      clear hx hlt hj a2 a3 lx
      go_wp2_with (first | (refine wpList_loadT rfl _ rfl rfl B3 ?_) | (refine wpList_loadR rfl _ rfl rfl R ?_))
      refine (H4 f _).mono ?_
      rintro e w6 ⟨rfl, g6⟩
      replace G := gbTrans G g6
      replace B2 := B2.kept g6
      replace B3 := B3.kept g6
      replace R := R.kept g6
      clear g6
      go_upto_region 16 with (first | (refine wpList_allocT rfl rfl ?_; intro V6 x6 X6 k6 l6) | (refine wpList_storeT rfl _ _ rfl rfl rfl X6 ?_; intro W6 B6 h6))
      replace B2 := B2.past k6 l6 h6
      replace B3 := B3.past k6 l6 h6
      replace R := R.past k6 l6 h6
      replace G := gbMade G k6 l6 h6
      clear k6 l6 h6 X6
      go_wp2_with (refine wpList_loadT rfl _ rfl rfl B3 ?_)
      refine (H5 _).mono ?_
      rintro e w7 ⟨rfl, g7⟩
      replace G := gbTrans G g7
      replace B2 := B2.kept g7
      replace B6 := B6.kept g7
      replace R := R.kept g7
      clear g7 B3
      go_wp2_with fail
      refine (H6 _).mono ?_
      rintro e w8 ⟨rfl, g8⟩
      replace G := gbTrans G g8
      replace B2 := B2.kept g8
      replace B6 := B6.kept g8
      replace R := R.kept g8
      clear g8
      go_upto_region 17 with (first | (refine wpList_allocT rfl rfl ?_; intro V8 x8 X8 k8 l8) | (refine wpList_storeT rfl _ _ rfl rfl rfl X8 ?_; intro W8 B8 h8))
      replace B2 := B2.past k8 l8 h8
      replace B6 := B6.past k8 l8 h8
      replace R := R.past k8 l8 h8
      replace G := gbMade G k8 l8 h8
      clear k8 l8 h8 X8
      go_upto_region 18 with (first | (refine wpList_loadT rfl _ rfl rfl B2 ?_) | (refine wpList_allocT rfl rfl ?_; intro V9 x9 X9 k9 l9) | (refine wpList_storeT rfl _ _ rfl rfl rfl X9 ?_; intro W9 B9 h9))
      have m2 := apartT B2 l9
      have m6 := apartT B6 l9
      have m8 := apartT B8 l9
      have lw : w.heap.size ≤ x9 := Nat.le_trans G.size l9
      replace B2 := B2.past k9 l9 h9
      replace B6 := B6.past k9 l9 h9
      replace B8 := B8.past k9 l9 h9
      replace R := R.past k9 l9 h9
      replace G := gbMade G k9 l9 h9
      clear k9 l9 h9 X9
      go_upto_region 19 with (first | (refine wpList_loadR rfl _ rfl rfl R ?_) | (refine wpList_storeF rfl _ _ rfl rfl rfl B9 ?_; intro W10 B10 h10))
      replace B2 := B2.aside h10 m2
      replace B6 := B6.aside h10 m6
      replace B8 := B8.aside h10 m8
      replace G := gbNew (gbTrans (gbAny G _) h10) lw
      clear h10 m2 m6 m8 lw R B9
      have qe := eqGuardT
      have q1 := fun w => run_eql_same w (tr L D)
      have q2 := fun w => run_eql_same w { tr L D with f := f }
      go_wp2_with (first | (refine wpList_loadTg rfl _ rfl rfl B6 ?_) | (refine wpList_loadTg rfl _ rfl rfl B10 ?_) | (refine wpList_loadTg rfl _ rfl rfl B8 ?_) | (refine wpList_loadTg rfl _ rfl rfl B2 ?_))
      go_ret
      exact ⟨rfl, G⟩

theorem walk (a0 a1 : Int) (q : A) (ub : q.b < 18446744073709551616) (x : Option Addr) (len cap : Nat) (w : World) (hx : ∀ i, i < len → ∃ (y : Addr) (z : Int), x = some y ∧ w.cell? (y.add i) = some (.int .u64 z)) :
    Calls Try.prog 5 #[.int .i64 a0, .int .i64 a1, .agg (ac q), .slice x len cap] w fun e w' => e = .returned (.bool true) ∧ Below w.heap.size w w' := by
  refine endWalk ?_
  obtain ⟨U0, L, p0, q0, hL⟩ := mod8 a0
  obtain ⟨U1, D, p1, q1, hD⟩ := mod4 a1
  have R := tr_right L D hL hD
  have N := tn_right L D hL hD
  have H1 := new_is L D _ _ (nw_right L D hL hD)
  have H2 := start_is (tn L D) _ _ N.b64 (st_new L D hL hD)
  rcases bl_ways (tr L D) q.s q.o q.b q.c R rfl with ⟨v, hv, h⟩ | ⟨h, hc⟩
  · exact core_no a0 a1 q x len cap U0 U1 L D w p0 q0 hL p1 q1 hD H1 H2 hx v hv (block_is _ _ _ _ _ _ _ R.b64 ub h)
  · exact core_yes a0 a1 q x len cap U0 U1 L D w p0 q0 hL p1 q1 hD H1 H2 hx _ (block_is _ _ _ _ _ _ _ R.b64 ub h) (fun f => wake_is _ _ f _ ub (wk_yes f hc)) (stop_is _ _ (sp_is _)) H2

set_option maxRecDepth 100000 in
theorem lifted (os : Os) (started : os.Started) (H : Type) (enc : TypeId × Value → H) :
    ReturnsInHanded {} Try.checked os 5 .any (Rows.threadTripSpec.pre6 enc Try.prog Try.f5 Rows.threadTripRow.domain false) (Rows.threadTripSpec.post enc Try.prog Try.f5 false true false false) := by
  refine returnsInHanded_of_change (C := Try.checked) own started (by kernel_rfl) Try.func5
    (ChangeSpec.witness6 (enc := enc) (C := Try.checked) false ⟨#[], #[.int .i64 0, .int .i64 0, .agg #[.int .i64 0, .int .i64 0, .int .u64 0, .bool false, .int .i64 0, .int .i64 0, .int .i64 0], .slice none 0 0], []⟩ 8 (by kernel_rfl) (by kernel_rfl) (by kernel_rfl) (by kernel_rfl)) ?_
  intro W base args ds gs before hval0 hW hcnd _
  have hval : ∀ (j : Nat) t v, Try.f5.params[j]? = some t → args[j]? = some v → Value.okWide Try.prog W .any base t v := hval0
  have hW' := hW
  obtain ⟨p, q, hA0, hV, rfl, hfz, hnd⟩ := hW
  have hA : DataW.TrodAll enc Try.prog W 0 (fun _ => true) true Try.f5.params.toList args.toList ds p := hA0
  rw [Try.params5] at hA hval
  obtain ⟨v0, vs0, d0, ds0, p0, q0, hargs, rfl, rfl, h0, r0⟩ := trodAll_cons hA
  obtain ⟨v1, vs1, d1, ds1, p1, q1, rfl, rfl, rfl, h1, r1⟩ := trodAll_cons r0
  obtain ⟨v2, vs2, d2, ds2, p2, q2, rfl, rfl, rfl, h2, r2⟩ := trodAll_cons r1
  obtain ⟨v3, vs3, d3, ds3, p3, q3, rfl, rfl, rfl, h3, r3⟩ := trodAll_cons r2
  obtain ⟨rfl, rfl, rfl⟩ := trodAll_nil r3
  obtain rfl : args = #[v0, v1, v2, v3] := by cases args; simp_all
  obtain ⟨rfl, rfl⟩ := trodVars_none hV
  obtain ⟨a0, rfl, rfl, rfl, w0⟩ := open_int Try.underlying3 (hval 0 3 v0 rfl rfl) h0
  obtain ⟨a1, rfl, rfl, rfl, w1⟩ := open_int Try.underlying3 (hval 1 3 v1 rfl rfl) h1
  obtain ⟨q2, rfl, ub2⟩ := actArg (hval 2 37 v2 rfl rfl) h2
  have k2 := h2
  have lt2 : ∀ x ∈ p2, x.block < W.heap.size := by obtain ⟨m, hm⟩ := k2; exact DataW.trod_lt m _ _ _ hm
  obtain ⟨x3, len3, cap3, rfl⟩ := okWide_slice Try.underlying46 (hval 3 46 v3 rfl rfl)
  have hx3 := wordsArg h3
  have k3 := h3
  have lt3 : ∀ x ∈ p3, x.block < W.heap.size := by obtain ⟨m, hm⟩ := k3; exact DataW.trod_lt m _ _ _ hm
  clear hA0 hval0
  refine (walk a0 a1 q2 ub2 x3 len3 cap3 W hx3).mono fun e W' ⟨he, bel⟩ => ?_
  subst he
  exact ⟨_, rfl, _, _, _, [], _, [], hW', trodAll_mk1 (shut_bool Try.underlying4 _), (trodAll_cons_mk (shut_int Try.underlying3 w0) (trodAll_cons_mk (shut_int Try.underlying3 w1) (trodAll_cons_mk (Below.trod laidOut (by kernel_rfl) (of_decide_eq_true (by kernel_rfl)) k2 bel lt2) (trodAll_cons_mk (Below.trod laidOut (by kernel_rfl) (of_decide_eq_true (by kernel_rfl)) k3 bel lt3) trodAll_mk0)))), rfl, bel.frame _, fun h => by cases h⟩

theorem over : Rows.threadTripRow.holds Try.pinned (OpenSpec.ofChange Rows.threadTripSpec) :=
  OpenClaim.holds_of_wide 5 Try.f5 rfl rfl rfl rfl rfl rfl rfl ⟨rfl, rfl, rfl, rfl, rfl⟩ rfl rfl rfl rfl rfl (by kernel_rfl) Try.func5 (by kernel_rfl)
    (of_decide_eq_true (by kernel_rfl)) (by unfold Func.isWrapper; first | (rw [if_pos (by decide +kernel)]; kernel_rfl) | (rw [if_neg (by decide +kernel)]; exact ⟨rfl, rfl⟩))
    (fun os started H enc _ => lifted os started H enc)

theorem proved : Rows.ThreadTripSaid := over
end Go.Proofs.Ytaojiojbpkldkaa.threadTrip
namespace Go.Proofs.Ytaojiojbpkldkaa
theorem threadTrip_holds : Rows.ThreadTripSaid := threadTrip.proved
#print axioms threadTrip_holds
end Go.Proofs.Ytaojiojbpkldkaa
