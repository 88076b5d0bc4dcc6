/-
  WHAT THE LAWS' WALKS WANT: threads made one behind another; works (written by mkwrk.py).
-/
import Derived.Test.YtaojiojbpkldkaaWak
namespace Go.Proofs.Ytaojiojbpkldkaa
set_option maxRecDepth 10000
open Go.RowKit
set_option linter.unusedVariables false

/-- A thread was made and stored into: seen from before nothing was written. -/
theorem gbMade {w w1 V W : World} {x : Nat} (G : w.grownBy w1 none) (k : w1.grownBy V none) (l : w1.heap.size ≤ x) (h : V.grownBy W (some x)) : w.grownBy W none :=
  gbNew (gbTrans (gbAny (gbTrans G k) _) h) (Nat.le_trans G.size l)
theorem TB.past {w1 V W : World} {x y : Nat} {t : T} (B : TB w1 y t) (k : w1.grownBy V none) (l : w1.heap.size ≤ x) (h : V.grownBy W (some x)) : TB W y t :=
  (B.kept k).aside h (apartT B l)
theorem RB.past {w1 V W : World} {x y : Nat} {f : Nat → Int} (B : RB w1 y f) (k : w1.grownBy V none) (l : w1.heap.size ≤ x) (h : V.grownBy W (some x)) : RB W y f :=
  (B.kept k).aside h (by have := B.lt; omega)
/-- A thread loaded, whatever guards it. -/
theorem wpList_loadTg {w : World} {ops : Array Oper} {rest : List Oper} {o : Oper} {a : Act} {Q : Exit → Act → World → Prop} (hw : Region.wanted o (yielded ops a.tmps) = true) (z : Operand) (ho : o.op = .load 29 z) {x : Nat} {t : T} (hx : a.eval z = .pointer (some ⟨x, 0, none⟩)) (B : TB w x t)
    (h : wpList Try.prog ops Q rest (a.put o.dst (.agg (tc t))) w) : wpList Try.prog ops Q (o :: rest) a w :=
  BigFrame.wpList_want hw fun K' hK' => by
    unfold Oper.wp execOp
    simp only [ho, hx, Sem.run_bind, B.load, Result.andThen_ok, Sem.run_pure]
    exact hK' _ _ h
theorem wakeLit (t u : T) (n v : Int) (hb : t.b < 18446744073709551616) (h : M.wk t (upd nil8 0 n) = (u, v)) (w : World) :
    Calls Try.prog 12 #[.agg (tc t), .agg #[.int .u64 n, .int .u64 0, .int .u64 0, .int .u64 0, .int .u64 0, .int .u64 0, .int .u64 0, .int .u64 0]] w fun e w' => e = .returned (.tuple #[.agg (tc u), .int .i64 v]) ∧ w.grownBy w' none :=
  wake_is t u (upd nil8 0 n) v hb h w

/-! ### works -/
def k1 : T := tn 3 1
def k2 : T := ⟨1, 0, 0, false, -1, 3, 1, 0, nil8⟩
def k3 : T := ⟨2, 5, 7, true, -1, 3, 1, 0, nil8⟩
def k4 : T := ⟨1, 0, 0, false, -1, 3, 1, 0, upd nil8 0 9⟩
def k5 : T := ⟨1, 0, 0, false, 4, 3, 1, 0, upd nil8 0 9⟩
theorem f1 : M.nw 3 1 = (k1, 0) := by unfold M.nw; rw [if_pos (by decide)]; rfl
theorem f2 : M.st k1 = (k2, 0) := by unfold M.st; rw [if_pos (by decide), if_pos (by decide)]; rfl
theorem f3 : M.bl k2 2 5 7 true = (k3, 0) := by unfold M.bl; rw [if_pos (by decide), if_pos (by decide), if_pos (by decide)]; rfl
theorem f4 : M.st k3 = (T0, 8) := by unfold M.st; rw [if_pos (by decide), if_neg (by decide)]
theorem f5 : M.wk k3 (upd nil8 0 9) = (k4, 0) := by unfold M.wk; rw [if_pos (by decide)]; rfl
theorem f6 : M.ak k4 4 = (k5, 0) := by unfold M.ak; rw [if_pos (by decide), if_pos (by decide), if_pos (by decide)]; rfl
theorem f7 : M.ak k5 5 = (T0, 4) := by unfold M.ak; rw [if_pos (by decide), if_pos (by decide), if_neg (by decide)]

set_option maxHeartbeats 2000000 in
theorem works_is (w : World) : Calls Try.prog 7 #[] w fun e w' => e = .returned (.bool true) ∧ w.grownBy w' none := by
  have G := gbRefl w none
  go_enter Try.func7, Try.ntmps7
  go_wp2_with fail
  refine (new_is 3 1 _ _ f1 _).mono ?_
  rintro e w1 ⟨rfl, g1⟩
  replace G := gbTrans G g1
  clear g1
  go_upto_region 2 with (first | (refine wpList_allocT rfl rfl ?_; intro V1 x1 X1 k1 l1) | (refine wpList_storeT rfl _ _ rfl rfl rfl X1 ?_; intro W1 B1 h1))
  replace G := gbMade G k1 l1 h1
  clear k1 l1 h1 X1
  go_wp2_with (refine wpList_loadT rfl _ rfl rfl B1 ?_)
  refine (start_is k1 _ _ (by decide) f2 _).mono ?_
  rintro e w2 ⟨rfl, g2⟩
  replace G := gbTrans G g2
  replace B1 := B1.kept g2
  clear g2
  go_upto_region 3 with (first | (refine wpList_allocT rfl rfl ?_; intro V2 x2 X2 k2 l2) | (refine wpList_storeT rfl _ _ rfl rfl rfl X2 ?_; intro W2 B2 h2))
  replace B1 := B1.past k2 l2 h2
  replace G := gbMade G k2 l2 h2
  clear k2 l2 h2 X2
  go_wp2_with (refine wpList_loadT rfl _ rfl rfl B2 ?_)
  refine (block_is k2 _ 2 5 7 true _ (by decide) (by decide) f3 _).mono ?_
  rintro e w3 ⟨rfl, g3⟩
  replace G := gbTrans G g3
  replace B1 := B1.kept g3
  replace B2 := B2.kept g3
  clear g3
  go_upto_region 4 with (first | (refine wpList_allocT rfl rfl ?_; intro V3 x3 X3 k3 l3) | (refine wpList_storeT rfl _ _ rfl rfl rfl X3 ?_; intro W3 B3 h3))
  replace B1 := B1.past k3 l3 h3
  replace B2 := B2.past k3 l3 h3
  replace G := gbMade G k3 l3 h3
  clear k3 l3 h3 X3
  go_wp2_with (refine wpList_loadT rfl _ rfl rfl B3 ?_)
  refine (start_is k3 _ _ (by decide) f4 _).mono ?_
  rintro e w4 ⟨rfl, g4⟩
  replace G := gbTrans G g4
  replace B1 := B1.kept g4
  replace B2 := B2.kept g4
  replace B3 := B3.kept g4
  clear g4
  go_upto_region 5 with (first | (refine wpList_allocT rfl rfl ?_; intro V4 x4 X4 k4 l4) | (refine wpList_storeT rfl _ _ rfl rfl rfl X4 ?_; intro W4 B4 h4))
  replace B1 := B1.past k4 l4 h4
  replace B2 := B2.past k4 l4 h4
  replace B3 := B3.past k4 l4 h4
  replace G := gbMade G k4 l4 h4
  clear k4 l4 h4 X4
  clear B4
  go_wp2_with (refine wpList_loadT rfl _ rfl rfl B3 ?_)
  refine (wakeLit k3 _ 9 _ (by decide) f5 _).mono ?_
  rintro e w5 ⟨rfl, g5⟩
  replace G := gbTrans G g5
  replace B1 := B1.kept g5
  replace B2 := B2.kept g5
  replace B3 := B3.kept g5
  clear g5
  go_upto_region 6 with (first | (refine wpList_allocT rfl rfl ?_; intro V5 x5 X5 k5 l5) | (refine wpList_storeT rfl _ _ rfl rfl rfl X5 ?_; intro W5 B5 h5))
  replace B1 := B1.past k5 l5 h5
  replace B2 := B2.past k5 l5 h5
  replace B3 := B3.past k5 l5 h5
  replace G := gbMade G k5 l5 h5
  clear k5 l5 h5 X5
  go_wp2_with (refine wpList_loadT rfl _ rfl rfl B5 ?_)
  refine (ask_is k4 _ 4 _ (by decide) f6 _).mono ?_
  rintro e w6 ⟨rfl, g6⟩
  replace G := gbTrans G g6
  replace B1 := B1.kept g6
  replace B2 := B2.kept g6
  replace B3 := B3.kept g6
  replace B5 := B5.kept g6
  clear g6
  go_upto_region 7 with (first | (refine wpList_allocT rfl rfl ?_; intro V6 x6 X6 k6 l6) | (refine wpList_storeT rfl _ _ rfl rfl rfl X6 ?_; intro W6 B6 h6))
  replace B1 := B1.past k6 l6 h6
  replace B2 := B2.past k6 l6 h6
  replace B3 := B3.past k6 l6 h6
  replace B5 := B5.past k6 l6 h6
  replace G := gbMade G k6 l6 h6
  clear k6 l6 h6 X6
  go_wp2_with (refine wpList_loadT rfl _ rfl rfl B6 ?_)
  refine (ask_is k5 _ 5 _ (by decide) f7 _).mono ?_
  rintro e w7 ⟨rfl, g7⟩
  replace G := gbTrans G g7
  replace B1 := B1.kept g7
  replace B2 := B2.kept g7
  replace B3 := B3.kept g7
  replace B5 := B5.kept g7
  replace B6 := B6.kept g7
  clear g7
  go_wp2_with (first | (refine wpList_allocT rfl rfl ?_; intro V7 x7 X7 k7 l7) | (refine wpList_storeT rfl _ _ rfl rfl rfl X7 ?_; intro W7 B7 h7; replace B1 := B1.past k7 l7 h7; replace B2 := B2.past k7 l7 h7; replace B3 := B3.past k7 l7 h7; replace B5 := B5.past k7 l7 h7; replace B6 := B6.past k7 l7 h7; replace G := gbMade G k7 l7 h7; clear k7 l7 h7 X7; have c1 : W7.cell? ⟨x1, 4, none⟩ = some (.int .i64 (-1)) := B1.eight.at4; have c2 : W7.cell? ⟨x2, 0, none⟩ = some (.int .i64 1) := B2.eight.at0; have c3 : W7.cell? ⟨x3, 1, none⟩ = some (.int .i64 5) := B3.eight.at1; have c4 : W7.cell? ⟨x3, 2, none⟩ = some (.int .u64 7) := B3.eight.at2; have c5 : W7.cell? ⟨x5, 0, none⟩ = some (.int .i64 1) := B5.eight.at0; have c6 : W7.cell? ⟨x5, 1, none⟩ = some (.int .i64 0) := B5.eight.at1; have c7 : W7.cell? ⟨x5, 8, none⟩ = some (.int .u64 9) := B5.eight.at8; have c8 : W7.cell? ⟨x6, 4, none⟩ = some (.int .i64 4) := B6.eight.at4))
  go_ret
  exact ⟨rfl, G⟩
end Go.Proofs.Ytaojiojbpkldkaa
