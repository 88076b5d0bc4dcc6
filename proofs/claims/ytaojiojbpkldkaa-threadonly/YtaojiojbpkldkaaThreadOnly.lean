/- ThreadOnly (20.1, 20.2): a thread that is inactive is but started, one that is ready but blocked, one that waits but woken; each may be stopped. For every input; no condition. -/
import Derived.Test.YtaojiojbpkldkaaToo
import Derived.Test.YtaojiojbpkldkaaArgs
import Derived.ProofKit
import Derived.OpenShut
import Derived.ShutString
import Derived.ChangeOld
import Derived.Below
import Derived.Deep.Slices
namespace Go.Proofs.Ytaojiojbpkldkaa.threadOnly
open Go.ChangeShapes Go.WideShapes Go.ChangeAt Go.RowKit
set_option linter.unusedVariables false

theorem own : ownKnob Try.prog.godebug = none := by kernel_rfl
theorem laidOut : laidOutB Try.prog = true := by kernel_rfl

set_option maxHeartbeats 2000000 in
set_option maxRecDepth 10000 in
theorem core_no (t : T) (q : A) (w : World)
    (v : Int) (hv : (v != 0) = true)
    (HC : ∀ w, Calls Try.prog 14 #[.agg (tc t)] w fun e w' => e = .returned (.int .i64 v) ∧ w.grownBy w' none) :
    Calls Try.prog 4 #[.agg (tc t), .agg (ac q)] w fun e w' => e = .returned (.bool true) ∧ w.grownBy w' none := by
  have G := gbRefl w none
  go_enter Try.func4, Try.ntmps4
  go_upto_region 1 with (first | (refine wpList_boxD rfl _ rfl rfl ?_; intro V0 x0 K k0 l0) | (refine wpList_boxA rfl _ rfl rfl ?_; intro V1 x1 K1 k1 l1))
  replace G := gbTrans (gbTrans G k0) k1
  replace K := K.kept k1
  clear k0 l0 k1 l1 K1
  go_wp2_with fail
  refine (works_is _).mono ?_
  rintro e w0 ⟨rfl, g0⟩
  replace G := gbTrans G g0
  replace K := K.kept g0
  clear g0
  go_wp2_with (refine wpList_loadD rfl _ rfl rfl K ?_)
  refine (to_is t _).mono ?_
  rintro e w1 ⟨rfl, g1⟩
  replace G := gbTrans G g1
  clear g1 K
  go_upto_region 4 with (first | (refine wpList_allocT rfl rfl ?_; intro V2 x2 X2 k2 l2) | (refine wpList_storeT rfl _ _ rfl rfl rfl X2 ?_; intro W2 B h2))
  replace G := gbMade G k2 l2 h2
  clear k2 l2 h2 X2
  go_wp2_with (refine wpList_loadT rfl _ rfl rfl B ?_)
  refine (HC _).mono ?_
  rintro e w3 ⟨rfl, g3⟩
  replace G := gbTrans G g3
  replace B := B.kept g3
  clear g3
  go_wp2
  go_ret
  exact ⟨rfl, G⟩

set_option maxHeartbeats 2000000 in
set_option maxRecDepth 10000 in
theorem core0 (t : T) (q : A) (w : World)
    (u1 u2 u3 u4 : T) (h4 : u4.s = 0) (hs : t.s = 0)
    (HC : ∀ w, Calls Try.prog 14 #[.agg (tc t)] w fun e w' => e = .returned (.int .i64 0) ∧ w.grownBy w' none)
    (H1 : ∀ w, Calls Try.prog 9 #[.agg (tc t)] w fun e w' => e = .returned (.tuple #[.agg (tc u1), .int .i64 0]) ∧ w.grownBy w' none)
    (H2 : ∀ w, Calls Try.prog 11 #[.agg (tc t), .int .i64 3, .int .i64 3, .int .u64 0, .bool false] w fun e w' => e = .returned (.tuple #[.agg (tc u2), .int .i64 8]) ∧ w.grownBy w' none)
    (H3 : ∀ w, Calls Try.prog 12 #[.agg (tc t), .agg (rc nil8)] w fun e w' => e = .returned (.tuple #[.agg (tc u3), .int .i64 8]) ∧ w.grownBy w' none)
    (H4 : ∀ w, Calls Try.prog 10 #[.agg (tc t)] w fun e w' => e = .returned (.agg (tc u4)) ∧ w.grownBy w' none)
    (H5 : ∀ w, Calls Try.prog 14 #[.agg (tc u4)] w fun e w' => e = .returned (.int .i64 0) ∧ w.grownBy w' none) :
    Calls Try.prog 4 #[.agg (tc t), .agg (ac q)] w fun e w' => e = .returned (.bool true) ∧ w.grownBy w' none := by
  have G := gbRefl w none
  go_enter Try.func4, Try.ntmps4
  go_upto_region 1 with (first | (refine wpList_boxD rfl _ rfl rfl ?_; intro V0 x0 K k0 l0) | (refine wpList_boxA rfl _ rfl rfl ?_; intro V1 x1 K1 k1 l1))
  replace G := gbTrans (gbTrans G k0) k1
  replace K := K.kept k1
  clear k0 l0 k1 l1 K1
  go_wp2_with fail
  refine (works_is _).mono ?_
  rintro e w0 ⟨rfl, g0⟩
  replace G := gbTrans G g0
  replace K := K.kept g0
  clear g0
  go_wp2_with (refine wpList_loadD rfl _ rfl rfl K ?_)
  refine (to_is t _).mono ?_
  rintro e w1 ⟨rfl, g1⟩
  replace G := gbTrans G g1
  clear g1 K
  go_upto_region 4 with (first | (refine wpList_allocT rfl rfl ?_; intro V2 x2 X2 k2 l2) | (refine wpList_storeT rfl _ _ rfl rfl rfl X2 ?_; intro W2 B h2))
  replace G := gbMade G k2 l2 h2
  clear k2 l2 h2 X2
  go_wp2_with (refine wpList_loadT rfl _ rfl rfl B ?_)
  refine (HC _).mono ?_
  rintro e w3 ⟨rfl, g3⟩
  replace G := gbTrans G g3
  replace B := B.kept g3
  clear g3
  clear HC
  go_wp2_with (first | (refine wpList_loadT rfl _ rfl rfl B ?_))
  refine (H1 _).mono ?_
  rintro e v4 ⟨rfl, g4⟩
  replace G := gbTrans G g4
  replace B := B.kept g4
  clear g4
  go_upto_region 7 with (first | (refine wpList_allocT rfl rfl ?_; intro V4 x4 X4 k4 l4) | (refine wpList_storeT rfl _ _ rfl rfl rfl X4 ?_; intro W4 B4 h4))
  replace B := B.past k4 l4 h4
  replace G := gbMade G k4 l4 h4
  clear k4 l4 h4 X4 B4
  clear H1
  go_wp2_with (first | (refine wpList_loadT rfl _ rfl rfl B ?_))
  refine (H2 _).mono ?_
  rintro e v5 ⟨rfl, g5⟩
  replace G := gbTrans G g5
  replace B := B.kept g5
  clear g5
  go_upto_region 8 with (first | (refine wpList_allocT rfl rfl ?_; intro V5 x5 X5 k5 l5) | (refine wpList_storeT rfl _ _ rfl rfl rfl X5 ?_; intro W5 B5 h5))
  replace B := B.past k5 l5 h5
  replace G := gbMade G k5 l5 h5
  clear k5 l5 h5 X5 B5
  clear H2
  go_wp2_with (first | (refine wpList_loadT rfl _ rfl rfl B ?_) | (refine wpList_nilR rfl rfl ?_))
  refine (H3 _).mono ?_
  rintro e v6 ⟨rfl, g6⟩
  replace G := gbTrans G g6
  replace B := B.kept g6
  clear g6
  go_upto_region 9 with (first | (refine wpList_allocT rfl rfl ?_; intro V6 x6 X6 k6 l6) | (refine wpList_storeT rfl _ _ rfl rfl rfl X6 ?_; intro W6 B6 h6))
  replace B := B.past k6 l6 h6
  replace G := gbMade G k6 l6 h6
  clear k6 l6 h6 X6 B6
  clear H3
  have c0 : W6.cell? ⟨x2, 0, none⟩ = some (.int .i64 0) := by rw [← hs]; exact B.eight.at0
  go_wp2_with (refine wpList_loadTg rfl _ rfl rfl B ?_)
  refine (H4 _).mono ?_
  rintro e v7 ⟨rfl, g7⟩
  replace G := gbTrans G g7
  replace B := B.kept g7
  clear g7 c0
  go_wp2_with (first | (refine wpList_fieldS rfl _ rfl rfl ?_) | (refine wpList_loadTg rfl _ rfl rfl B ?_))
  refine (H4 _).mono ?_
  rintro e v8 ⟨rfl, g8⟩
  replace G := gbTrans G g8
  clear g8 B
  go_wp2_with fail
  refine (H5 _).mono ?_
  rintro e v9 ⟨rfl, g9⟩
  replace G := gbTrans G g9
  clear g9
  go_wp2
  go_ret
  exact ⟨rfl, G⟩

set_option maxHeartbeats 2000000 in
set_option maxRecDepth 10000 in
theorem core1 (t : T) (q : A) (w : World)
    (u1 u2 u3 u4 : T) (h4 : u4.s = 0) (hs : t.s = 1)
    (HC : ∀ w, Calls Try.prog 14 #[.agg (tc t)] w fun e w' => e = .returned (.int .i64 0) ∧ w.grownBy w' none)
    (H1 : ∀ w, Calls Try.prog 9 #[.agg (tc t)] w fun e w' => e = .returned (.tuple #[.agg (tc u1), .int .i64 8]) ∧ w.grownBy w' none)
    (H2 : ∀ w, Calls Try.prog 11 #[.agg (tc t), .int .i64 3, .int .i64 3, .int .u64 0, .bool false] w fun e w' => e = .returned (.tuple #[.agg (tc u2), .int .i64 0]) ∧ w.grownBy w' none)
    (H3 : ∀ w, Calls Try.prog 12 #[.agg (tc t), .agg (rc nil8)] w fun e w' => e = .returned (.tuple #[.agg (tc u3), .int .i64 8]) ∧ w.grownBy w' none)
    (H4 : ∀ w, Calls Try.prog 10 #[.agg (tc t)] w fun e w' => e = .returned (.agg (tc u4)) ∧ w.grownBy w' none)
    (H5 : ∀ w, Calls Try.prog 14 #[.agg (tc u4)] w fun e w' => e = .returned (.int .i64 0) ∧ w.grownBy w' none) :
    Calls Try.prog 4 #[.agg (tc t), .agg (ac q)] w fun e w' => e = .returned (.bool true) ∧ w.grownBy w' none := by
  have G := gbRefl w none
  go_enter Try.func4, Try.ntmps4
  go_upto_region 1 with (first | (refine wpList_boxD rfl _ rfl rfl ?_; intro V0 x0 K k0 l0) | (refine wpList_boxA rfl _ rfl rfl ?_; intro V1 x1 K1 k1 l1))
  replace G := gbTrans (gbTrans G k0) k1
  replace K := K.kept k1
  clear k0 l0 k1 l1 K1
  go_wp2_with fail
  refine (works_is _).mono ?_
  rintro e w0 ⟨rfl, g0⟩
  replace G := gbTrans G g0
  replace K := K.kept g0
  clear g0
  go_wp2_with (refine wpList_loadD rfl _ rfl rfl K ?_)
  refine (to_is t _).mono ?_
  rintro e w1 ⟨rfl, g1⟩
  replace G := gbTrans G g1
  clear g1 K
  go_upto_region 4 with (first | (refine wpList_allocT rfl rfl ?_; intro V2 x2 X2 k2 l2) | (refine wpList_storeT rfl _ _ rfl rfl rfl X2 ?_; intro W2 B h2))
  replace G := gbMade G k2 l2 h2
  clear k2 l2 h2 X2
  go_wp2_with (refine wpList_loadT rfl _ rfl rfl B ?_)
  refine (HC _).mono ?_
  rintro e w3 ⟨rfl, g3⟩
  replace G := gbTrans G g3
  replace B := B.kept g3
  clear g3
  clear HC
  go_wp2_with (first | (refine wpList_loadT rfl _ rfl rfl B ?_))
  refine (H1 _).mono ?_
  rintro e v4 ⟨rfl, g4⟩
  replace G := gbTrans G g4
  replace B := B.kept g4
  clear g4
  go_upto_region 7 with (first | (refine wpList_allocT rfl rfl ?_; intro V4 x4 X4 k4 l4) | (refine wpList_storeT rfl _ _ rfl rfl rfl X4 ?_; intro W4 B4 h4))
  replace B := B.past k4 l4 h4
  replace G := gbMade G k4 l4 h4
  clear k4 l4 h4 X4 B4
  clear H1
  go_wp2_with (first | (refine wpList_loadT rfl _ rfl rfl B ?_))
  refine (H2 _).mono ?_
  rintro e v5 ⟨rfl, g5⟩
  replace G := gbTrans G g5
  replace B := B.kept g5
  clear g5
  go_upto_region 8 with (first | (refine wpList_allocT rfl rfl ?_; intro V5 x5 X5 k5 l5) | (refine wpList_storeT rfl _ _ rfl rfl rfl X5 ?_; intro W5 B5 h5))
  replace B := B.past k5 l5 h5
  replace G := gbMade G k5 l5 h5
  clear k5 l5 h5 X5 B5
  clear H2
  go_wp2_with (first | (refine wpList_loadT rfl _ rfl rfl B ?_) | (refine wpList_nilR rfl rfl ?_))
  refine (H3 _).mono ?_
  rintro e v6 ⟨rfl, g6⟩
  replace G := gbTrans G g6
  replace B := B.kept g6
  clear g6
  go_upto_region 9 with (first | (refine wpList_allocT rfl rfl ?_; intro V6 x6 X6 k6 l6) | (refine wpList_storeT rfl _ _ rfl rfl rfl X6 ?_; intro W6 B6 h6))
  replace B := B.past k6 l6 h6
  replace G := gbMade G k6 l6 h6
  clear k6 l6 h6 X6 B6
  clear H3
  have c0 : W6.cell? ⟨x2, 0, none⟩ = some (.int .i64 1) := by rw [← hs]; exact B.eight.at0
  go_wp2_with (refine wpList_loadTg rfl _ rfl rfl B ?_)
  refine (H4 _).mono ?_
  rintro e v7 ⟨rfl, g7⟩
  replace G := gbTrans G g7
  replace B := B.kept g7
  clear g7 c0
  go_wp2_with (first | (refine wpList_fieldS rfl _ rfl rfl ?_) | (refine wpList_loadTg rfl _ rfl rfl B ?_))
  refine (H4 _).mono ?_
  rintro e v8 ⟨rfl, g8⟩
  replace G := gbTrans G g8
  clear g8 B
  go_wp2_with fail
  refine (H5 _).mono ?_
  rintro e v9 ⟨rfl, g9⟩
  replace G := gbTrans G g9
  clear g9
  go_wp2
  go_ret
  exact ⟨rfl, G⟩

set_option maxHeartbeats 2000000 in
set_option maxRecDepth 10000 in
theorem core2 (t : T) (q : A) (w : World)
    (u1 u2 u3 u4 : T) (h4 : u4.s = 0) (s : Int) (hs : t.s = s) (d0 : (s == 0) = false) (d1 : (s == 1) = false) (d2 : 1 < s)
    (HC : ∀ w, Calls Try.prog 14 #[.agg (tc t)] w fun e w' => e = .returned (.int .i64 0) ∧ w.grownBy w' none)
    (H1 : ∀ w, Calls Try.prog 9 #[.agg (tc t)] w fun e w' => e = .returned (.tuple #[.agg (tc u1), .int .i64 8]) ∧ w.grownBy w' none)
    (H2 : ∀ w, Calls Try.prog 11 #[.agg (tc t), .int .i64 3, .int .i64 3, .int .u64 0, .bool false] w fun e w' => e = .returned (.tuple #[.agg (tc u2), .int .i64 8]) ∧ w.grownBy w' none)
    (H3 : ∀ w, Calls Try.prog 12 #[.agg (tc t), .agg (rc nil8)] w fun e w' => e = .returned (.tuple #[.agg (tc u3), .int .i64 0]) ∧ w.grownBy w' none)
    (H4 : ∀ w, Calls Try.prog 10 #[.agg (tc t)] w fun e w' => e = .returned (.agg (tc u4)) ∧ w.grownBy w' none)
    (H5 : ∀ w, Calls Try.prog 14 #[.agg (tc u4)] w fun e w' => e = .returned (.int .i64 0) ∧ w.grownBy w' none) :
    Calls Try.prog 4 #[.agg (tc t), .agg (ac q)] w fun e w' => e = .returned (.bool true) ∧ w.grownBy w' none := by
  have G := gbRefl w none
  go_enter Try.func4, Try.ntmps4
  go_upto_region 1 with (first | (refine wpList_boxD rfl _ rfl rfl ?_; intro V0 x0 K k0 l0) | (refine wpList_boxA rfl _ rfl rfl ?_; intro V1 x1 K1 k1 l1))
  replace G := gbTrans (gbTrans G k0) k1
  replace K := K.kept k1
  clear k0 l0 k1 l1 K1
  go_wp2_with fail
  refine (works_is _).mono ?_
  rintro e w0 ⟨rfl, g0⟩
  replace G := gbTrans G g0
  replace K := K.kept g0
  clear g0
  go_wp2_with (refine wpList_loadD rfl _ rfl rfl K ?_)
  refine (to_is t _).mono ?_
  rintro e w1 ⟨rfl, g1⟩
  replace G := gbTrans G g1
  clear g1 K
  go_upto_region 4 with (first | (refine wpList_allocT rfl rfl ?_; intro V2 x2 X2 k2 l2) | (refine wpList_storeT rfl _ _ rfl rfl rfl X2 ?_; intro W2 B h2))
  replace G := gbMade G k2 l2 h2
  clear k2 l2 h2 X2
  go_wp2_with (refine wpList_loadT rfl _ rfl rfl B ?_)
  refine (HC _).mono ?_
  rintro e w3 ⟨rfl, g3⟩
  replace G := gbTrans G g3
  replace B := B.kept g3
  clear g3
  clear HC
  go_wp2_with (first | (refine wpList_loadT rfl _ rfl rfl B ?_))
  refine (H1 _).mono ?_
  rintro e v4 ⟨rfl, g4⟩
  replace G := gbTrans G g4
  replace B := B.kept g4
  clear g4
  go_upto_region 7 with (first | (refine wpList_allocT rfl rfl ?_; intro V4 x4 X4 k4 l4) | (refine wpList_storeT rfl _ _ rfl rfl rfl X4 ?_; intro W4 B4 h4))
  replace B := B.past k4 l4 h4
  replace G := gbMade G k4 l4 h4
  clear k4 l4 h4 X4 B4
  clear H1
  go_wp2_with (first | (refine wpList_loadT rfl _ rfl rfl B ?_))
  refine (H2 _).mono ?_
  rintro e v5 ⟨rfl, g5⟩
  replace G := gbTrans G g5
  replace B := B.kept g5
  clear g5
  go_upto_region 8 with (first | (refine wpList_allocT rfl rfl ?_; intro V5 x5 X5 k5 l5) | (refine wpList_storeT rfl _ _ rfl rfl rfl X5 ?_; intro W5 B5 h5))
  replace B := B.past k5 l5 h5
  replace G := gbMade G k5 l5 h5
  clear k5 l5 h5 X5 B5
  clear H2
  go_wp2_with (first | (refine wpList_loadT rfl _ rfl rfl B ?_) | (refine wpList_nilR rfl rfl ?_))
  refine (H3 _).mono ?_
  rintro e v6 ⟨rfl, g6⟩
  replace G := gbTrans G g6
  replace B := B.kept g6
  clear g6
  go_upto_region 9 with (first | (refine wpList_allocT rfl rfl ?_; intro V6 x6 X6 k6 l6) | (refine wpList_storeT rfl _ _ rfl rfl rfl X6 ?_; intro W6 B6 h6))
  replace B := B.past k6 l6 h6
  replace G := gbMade G k6 l6 h6
  clear k6 l6 h6 X6 B6
  clear H3
  have c0 : W6.cell? ⟨x2, 0, none⟩ = some (.int .i64 s) := by rw [← hs]; exact B.eight.at0
  go_wp2_with (refine wpList_loadTg rfl _ rfl rfl B ?_)
  refine (H4 _).mono ?_
  rintro e v7 ⟨rfl, g7⟩
  replace G := gbTrans G g7
  replace B := B.kept g7
  clear g7 c0
  go_wp2_with (first | (refine wpList_fieldS rfl _ rfl rfl ?_) | (refine wpList_loadTg rfl _ rfl rfl B ?_))
  refine (H4 _).mono ?_
  rintro e v8 ⟨rfl, g8⟩
  replace G := gbTrans G g8
  clear g8 B
  go_wp2_with fail
  refine (H5 _).mono ?_
  rintro e v9 ⟨rfl, g9⟩
  replace G := gbTrans G g9
  clear g9
  go_wp2
  go_ret
  exact ⟨rfl, G⟩

theorem walk (t : T) (ub : t.b < 18446744073709551616) (q : A) (uq : q.b < 18446744073709551616) (w : World) :
    Calls Try.prog 4 #[.agg (tc t), .agg (ac q)] w fun e w' => e = .returned (.bool true) ∧ Below w.heap.size w w' := by
  refine endWalk ?_
  by_cases c : M.ck t = 0
  · have R := (ck_iff t).1 c
    have HC := check_is t ub 0 c
    have H4 := stop_is t _ rfl
    have H5 := check_is (M.sp t) R.stop.b64 0 R.stop.ck
    by_cases c0 : t.s = 0
    · exact core0 t q w _ _ _ _ rfl c0 HC (start_is t _ _ ub (st_yes R c0)) (block_is t _ _ _ 0 _ _ ub (by decide) (bl_no R (by omega) _ _ _ _)) (wake_is t _ _ _ ub (wk_no R (.inl c0) _)) H4 H5
    by_cases c1 : t.s = 1
    · exact core1 t q w _ _ _ _ rfl c1 HC (start_is t _ _ ub (st_no R c0)) (block_is t _ _ _ 0 _ _ ub (by decide) (bl_yes R c1)) (wake_is t _ _ _ ub (wk_no R (.inr c1) _)) H4 H5
    · have := R.s0
      exact core2 t q w _ _ _ _ rfl _ rfl (by simpa using c0) (by simpa using c1) (by omega) HC (start_is t _ _ ub (st_no R c0)) (block_is t _ _ _ 0 _ _ ub (by decide) (bl_no R c1 _ _ _ _)) (wake_is t _ _ _ ub (wk_yes _ (cw_yes R c0 c1))) H4 H5
  · exact core_no t q w _ (by simpa using c) (check_is t ub _ rfl)

set_option maxRecDepth 100000 in
theorem lifted (os : Os) (started : os.Started) (H : Type) (enc : TypeId × Value → H) :
    ReturnsInHanded {} Try.checked os 4 .any (Rows.threadOnlySpec.pre6 enc Try.prog Try.f4 Rows.threadOnlyRow.domain false) (Rows.threadOnlySpec.post enc Try.prog Try.f4 false true false false) := by
  refine returnsInHanded_of_change (C := Try.checked) own started (by kernel_rfl) Try.func4
    (ChangeSpec.witness6 (enc := enc) (C := Try.checked) false ⟨#[], #[.agg #[.int .i64 0, .int .i64 0, .int .u64 0, .bool false, .int .i64 0, .int .i64 0, .int .i64 0, .int .i64 0, .int .u64 0, .int .u64 0, .int .u64 0, .int .u64 0, .int .u64 0, .int .u64 0, .int .u64 0, .int .u64 0], .agg #[.int .i64 0, .int .i64 0, .int .u64 0, .bool false, .int .i64 0, .int .i64 0, .int .i64 0]], []⟩ 8 (by kernel_rfl) (by kernel_rfl) (by kernel_rfl) (by kernel_rfl)) ?_
  intro W base args ds gs before hval0 hW hcnd _
  have hval : ∀ (j : Nat) t v, Try.f4.params[j]? = some t → args[j]? = some v → Value.okWide Try.prog W .any base t v := hval0
  have hW' := hW
  obtain ⟨p, q, hA0, hV, rfl, hfz, hnd⟩ := hW
  have hA : DataW.TrodAll enc Try.prog W 0 (fun _ => true) true Try.f4.params.toList args.toList ds p := hA0
  rw [Try.params4] at hA hval
  obtain ⟨v0, vs0, d0, ds0, p0, q0, hargs, rfl, rfl, h0, r0⟩ := trodAll_cons hA
  obtain ⟨v1, vs1, d1, ds1, p1, q1, rfl, rfl, rfl, h1, r1⟩ := trodAll_cons r0
  obtain ⟨rfl, rfl, rfl⟩ := trodAll_nil r1
  obtain rfl : args = #[v0, v1] := by cases args; simp_all
  obtain ⟨rfl, rfl⟩ := trodVars_none hV
  obtain ⟨t0, rfl, ub0⟩ := threadArg (hval 0 43 v0 rfl rfl) h0
  have k0 := h0
  have lt0 : ∀ x ∈ p0, x.block < W.heap.size := by obtain ⟨m, hm⟩ := k0; exact DataW.trod_lt m _ _ _ hm
  obtain ⟨q1, rfl, ub1⟩ := actArg (hval 1 37 v1 rfl rfl) h1
  have k1 := h1
  have lt1 : ∀ x ∈ p1, x.block < W.heap.size := by obtain ⟨m, hm⟩ := k1; exact DataW.trod_lt m _ _ _ hm
  clear hA0 hval0
  refine (walk t0 ub0 q1 ub1 W).mono fun e W' ⟨he, bel⟩ => ?_
  subst he
  exact ⟨_, rfl, _, _, _, [], _, [], hW', trodAll_mk1 (shut_bool Try.underlying4 _), (trodAll_cons_mk (Below.trod laidOut (by kernel_rfl) (of_decide_eq_true (by kernel_rfl)) k0 bel lt0) (trodAll_cons_mk (Below.trod laidOut (by kernel_rfl) (of_decide_eq_true (by kernel_rfl)) k1 bel lt1) trodAll_mk0)), rfl, bel.frame _, fun h => by cases h⟩

theorem over : Rows.threadOnlyRow.holds Try.pinned (OpenSpec.ofChange Rows.threadOnlySpec) :=
  OpenClaim.holds_of_wide 4 Try.f4 rfl rfl rfl rfl rfl rfl rfl ⟨rfl, rfl, rfl, rfl, rfl⟩ rfl rfl rfl rfl rfl (by kernel_rfl) Try.func4 (by kernel_rfl)
    (of_decide_eq_true (by kernel_rfl)) (by unfold Func.isWrapper; first | (rw [if_pos (by decide +kernel)]; kernel_rfl) | (rw [if_neg (by decide +kernel)]; exact ⟨rfl, rfl⟩))
    (fun os started H enc _ => lifted os started H enc)

theorem proved : Rows.ThreadOnlySaid := over
end Go.Proofs.Ytaojiojbpkldkaa.threadOnly
namespace Go.Proofs.Ytaojiojbpkldkaa
theorem threadOnly_holds : Rows.ThreadOnlySaid := threadOnly.proved
#print axioms threadOnly_holds
end Go.Proofs.Ytaojiojbpkldkaa
