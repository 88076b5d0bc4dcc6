/-
  THE CONTRACTS of package thread's Wake and New.
-/
import Derived.Test.YtaojiojbpkldkaaThr
import Derived.Deep.RegionHeld3
namespace Go.Proofs.Ytaojiojbpkldkaa
set_option maxRecDepth 10000
open Go.RowKit
set_option linter.unusedVariables false
theorem exec_loadR {w : World} {o : Oper} {a : Act} {zz : Operand} {z : Nat} {f : Nat → Int} (ho : o.op = .load 27 zz) (hx : a.eval zz = .pointer (some ⟨z, 0, none⟩)) (h : RB w z f) : (execOp a.eval o).run Try.prog w = .ok (.value (.agg (rc f))) w := by
  unfold execOp
  simp only [ho, hx, Sem.run_bind, h.load, Result.andThen_ok, Sem.run_pure]
set_option maxHeartbeats 1000000 in
theorem wake_no (t : T) (f : Nat → Int) (v : Int) (hne : (v != 0) = true) (HC : ∀ w, Calls Try.prog 17 #[.agg (tc t)] w fun e w' => e = .returned (.int .i64 v) ∧ w.grownBy w' none) (w : World) :
    Calls Try.prog 12 #[.agg (tc t), .agg (rc f)] w fun e w' => e = .returned (.tuple #[.agg (tc T0), .int .i64 v]) ∧ w.grownBy w' none := by
  go_enter Try.func12, Try.ntmps12
  go_upto_region 1 with (first | (refine wpList_boxT rfl _ rfl rfl ?_; intro W1 x B g1 l1) | (refine wpList_boxR rfl _ rfl rfl ?_; intro W2 z R g2 l2) | (refine wpList_allocT rfl rfl ?_; intro W3 y C g3 l3))
  have ly : w.heap.size ≤ y := Nat.le_trans (gbTrans g1 g2).size l3
  have G := gbTrans (gbTrans g1 g2) g3
  replace B := (B.kept g2).kept g3
  clear g1 g2 l2 g3 l3 R
  go_wp2_with (refine wpList_loadT rfl _ rfl rfl B ?_)
  refine (HC _).mono ?_
  rintro e w3 ⟨rfl, g3⟩
  replace C := C.kept g3
  replace G := gbTrans G g3
  clear g3
  go_wp2_with (first | (refine wpList_nilT rfl rfl ?_) | (refine wpList_storeT rfl _ _ rfl rfl rfl C ?_; intro W9 C9 g9))
  exact bodyPost_ret (results_Te Try.results12 rfl rfl C9) rfl ⟨rfl, gbNew (gbTrans (gbAny G _) g9) ly⟩

set_option maxHeartbeats 1000000 in
theorem wake_yes (t : T) (f : Nat → Int) (HC : ∀ w, Calls Try.prog 17 #[.agg (tc t)] w fun e w' => e = .returned (.int .i64 0) ∧ w.grownBy w' none) (w : World) :
    Calls Try.prog 12 #[.agg (tc t), .agg (rc f)] w fun e w' => e = .returned (.tuple #[.agg (tc (M.own { t with s := 1, f := f })), .int .i64 0]) ∧ w.grownBy w' none := by
  have HO := own_is { t with s := 1, f := f } _ rfl
  go_enter Try.func12, Try.ntmps12
  go_upto_region 1 with (first | (refine wpList_boxT rfl _ rfl rfl ?_; intro W1 x B g1 l1) | (refine wpList_boxR rfl _ rfl rfl ?_; intro W2 z R g2 l2) | (refine wpList_allocT rfl rfl ?_; intro W3 y C g3 l3))
  have xz := apartT B l2
  have xy := apartT (B.kept g2) l3
  have ly : w.heap.size ≤ y := Nat.le_trans (gbTrans g1 g2).size l3
  have G := gbTrans (gbTrans g1 g2) g3
  replace B := (B.kept g2).kept g3
  replace R := R.kept g3
  clear g1 g2 l2 g3 l3
  go_wp2_with (refine wpList_loadT rfl _ rfl rfl B ?_)
  refine (HC _).mono ?_
  rintro e w3 ⟨rfl, g3⟩
  replace B := B.kept g3
  replace C := C.kept g3
  replace R := R.kept g3
  replace G := gbTrans G g3
  clear g3
  go_upto_region 4 with fail
  have a0 := B.eight.at0
  have bf := B.fr 0
  refine wp_region_noPanic ?_
  refine wp_region_held_drew (S := fun w' => RB w' z f) (by as_aux_lemma => kernel_rfl) (R.kept (gbDrew (gbRefl w3 none))) (fun hHeld => ?_)
  refine wpAnyH_take (i := 0) (v := .agg (rc f)) rfl (by as_aux_lemma => kernel_rfl) (by as_aux_lemma => kernel_rfl) (by as_aux_lemma => kernel_rfl) (fun _ _ _ h => h) (Or.inl ⟨by rfl, fun w h => exec_loadR rfl rfl h⟩) (by assumption) ?re0
  simp only [Act.put, List.setIfInBounds_toArray]
  refine wpAnyH_take (i := 1) (v := ?v1) rfl (by as_aux_lemma => kernel_rfl) (by as_aux_lemma => kernel_rfl) (by as_aux_lemma => kernel_rfl) (fun _ _ _ h => h) (Or.inl ⟨by rfl, ?hy1⟩) (by assumption) ?re1
  case hy1 => (intro w hSw; go_simp; (try with_reducible rfl))
  simp only [Act.put]
  refine wpAnyH_ready (rs := [2]) (by as_aux_lemma => kernel_rfl) (by simp) ?_
  refine AllReadyH.cons rfl (fun K hK => ?st2) ?mo2
  case mo2 => exact AllReadyH.nil
  go_simp
  obtain ⟨W4, e5, B4, g4⟩ := B.set0 1
  rw [e5]
  have B5 := B4.kept (gbDrew (gbRefl W4 none))
  have g5 : w3.grownBy W4.drew (some x) := gbTrans g4 (gbAny (gbDrew (gbRefl W4 none)) _)
  generalize W4.drew = W5 at B5 g5 ⊢
  clear B4 g4
  have R5 := R.aside g5 (Ne.symm xz)
  refine hK.out _ _ R5 (fun hHeld2 => ?_)
  clear hK K hHeld e5
  refine wpAnyH_take (i := 3) (v := ?v3) rfl (by as_aux_lemma => kernel_rfl) (by as_aux_lemma => kernel_rfl) (by as_aux_lemma => kernel_rfl) (fun _ _ _ h => h) (Or.inl ⟨by rfl, ?hy3⟩) R5 ?re3
  case hy3 => (intro w hSw; go_simp; (try with_reducible rfl))
  simp only [Act.put, List.setIfInBounds_toArray]
  refine wpAnyH_ready (rs := [4]) (by as_aux_lemma => kernel_rfl) (by simp) ?_
  refine AllReadyH.cons rfl (fun K hK => ?st4) ?mo4
  case mo4 => exact AllReadyH.nil
  rw [if_pos (by rfl)]
  refine wp_store_mid 27 _ _ rfl x 8 (rc f) rfl rfl B5.there (by rw [sizeR, rc_size]) (rc_one f) ?_
  have B6 := B5.setF f
  have g6 := gbSetCells x (rl f) 8 W5
  rw [show (rc f).toList = rl f from rfl]
  generalize W5.setCells x 8 (rl f) = W6 at B6 g6
  refine hK.out _ _ (R5.aside g6 (Ne.symm xz)) (fun hHeld3 => ?_)
  clear hK K
  simp only [Act.put]
  refine wpAnyH_done (by as_aux_lemma => kernel_rfl) ?_ _
  refine NoPanic.normal ?_
  replace C := (C.aside g5 (Ne.symm xy)).aside g6 (Ne.symm xy)
  replace G := gbNew (gbTrans (gbAny G _) (gbTrans g5 g6)) l1
  replace B := B6
  clear B5 B6 g5 g6 R5 R hHeld2 hHeld3 a0 bf
  go_wp2_with (refine wpList_loadT rfl _ rfl rfl B ?_)
  refine (HO _).mono ?_
  rintro e w7 ⟨rfl, g7⟩
  replace C := C.kept g7
  replace G := gbTrans G g7
  clear g7
  go_wp2_with (refine wpList_storeT rfl _ _ rfl rfl rfl C ?_; intro W9 C9 g9)
  exact bodyPost_ret (results_Te Try.results12 rfl rfl C9) rfl ⟨rfl, gbNew (gbTrans (gbAny G _) g9) ly⟩

theorem wake_is (t u : T) (f : Nat → Int) (v : Int) (hb : t.b < 18446744073709551616) (h : M.wk t f = (u, v)) (w : World) :
    Calls Try.prog 12 #[.agg (tc t), .agg (rc f)] w fun e w' => e = .returned (.tuple #[.agg (tc u), .int .i64 v]) ∧ w.grownBy w' none := by
  unfold M.wk at h
  by_cases c : M.cw t = 0
  · rw [if_pos c] at h; cases h; exact wake_yes t f (waits_is t hb 0 c) w
  · rw [if_neg c] at h; cases h; exact wake_no t f _ (by simpa using c) (waits_is t hb _ rfl) w

set_option maxHeartbeats 1000000 in
theorem new_no (l d : Int) (v : Int) (hne : (v != 0) = true) (HC : ∀ w, Calls Try.prog 14 #[.agg (tc (tn l d))] w fun e w' => e = .returned (.int .i64 v) ∧ w.grownBy w' none) (w : World) :
    Calls Try.prog 8 #[.int .i64 l, .int .i64 d] w fun e w' => e = .returned (.tuple #[.agg (tc T0), .int .i64 1]) ∧ w.grownBy w' none := by
  go_enter Try.func8, Try.ntmps8
  go_upto_region 1 with (refine wpList_allocT rfl rfl ?_; intro W1 y C g1 ly)
  go_upto_region 2 with (first | (refine wpList_allocT rfl rfl ?_; intro W2 x B g2 l2) | (refine wpList_storeT (u := tn l d) rfl _ _ rfl rfl rfl B ?_; intro W3 B3 g3))
  have xy := apartT C l2
  have lx : w.heap.size ≤ x := Nat.le_trans g1.size l2
  replace C := (C.kept g2).aside g3 xy
  have G := gbNew (gbTrans (gbAny (gbTrans g1 g2) _) g3) lx
  replace B := B3
  clear g1 g2 g3 B3 l2
  go_wp2_with (refine wpList_loadT rfl _ rfl rfl B ?_)
  refine (HC _).mono ?_
  rintro e w4 ⟨rfl, g4⟩
  replace B := B.kept g4
  replace C := C.kept g4
  replace G := gbTrans G g4
  clear g4
  go_wp2_with (first | (refine wpList_nilT rfl rfl ?_) | (refine wpList_loadT rfl _ rfl rfl B ?_) | (refine wpList_storeT rfl _ _ rfl rfl rfl C ?_; intro W9 C9 g9))
  exact bodyPost_ret (results_Te Try.results8 rfl rfl C9) rfl ⟨rfl, gbNew (gbTrans (gbAny G _) g9) ly⟩

set_option maxHeartbeats 1000000 in
theorem new_yes (l d : Int)  (HC : ∀ w, Calls Try.prog 14 #[.agg (tc (tn l d))] w fun e w' => e = .returned (.int .i64 0) ∧ w.grownBy w' none) (w : World) :
    Calls Try.prog 8 #[.int .i64 l, .int .i64 d] w fun e w' => e = .returned (.tuple #[.agg (tc (tn l d)), .int .i64 0]) ∧ w.grownBy w' none := by
  go_enter Try.func8, Try.ntmps8
  go_upto_region 1 with (refine wpList_allocT rfl rfl ?_; intro W1 y C g1 ly)
  go_upto_region 2 with (first | (refine wpList_allocT rfl rfl ?_; intro W2 x B g2 l2) | (refine wpList_storeT (u := tn l d) rfl _ _ rfl rfl rfl B ?_; intro W3 B3 g3))
  have xy := apartT C l2
  have lx : w.heap.size ≤ x := Nat.le_trans g1.size l2
  replace C := (C.kept g2).aside g3 xy
  have G := gbNew (gbTrans (gbAny (gbTrans g1 g2) _) g3) lx
  replace B := B3
  clear g1 g2 g3 B3 l2
  go_wp2_with (refine wpList_loadT rfl _ rfl rfl B ?_)
  refine (HC _).mono ?_
  rintro e w4 ⟨rfl, g4⟩
  replace B := B.kept g4
  replace C := C.kept g4
  replace G := gbTrans G g4
  clear g4
  go_wp2_with (first | (refine wpList_nilT rfl rfl ?_) | (refine wpList_loadT rfl _ rfl rfl B ?_) | (refine wpList_storeT rfl _ _ rfl rfl rfl C ?_; intro W9 C9 g9))
  exact bodyPost_ret (results_Te Try.results8 rfl rfl C9) rfl ⟨rfl, gbNew (gbTrans (gbAny G _) g9) ly⟩

theorem new_is (l d : Int) (u : T) (v : Int) (h : M.nw l d = (u, v)) (w : World) :
    Calls Try.prog 8 #[.int .i64 l, .int .i64 d] w fun e w' => e = .returned (.tuple #[.agg (tc u), .int .i64 v]) ∧ w.grownBy w' none := by
  have hb : (tn l d).b < 18446744073709551616 := by show 0 < _; decide
  unfold M.nw at h
  by_cases c : M.ck (tn l d) = 0
  · rw [if_pos c] at h; cases h; exact new_yes l d (check_is _ hb 0 c) w
  · rw [if_neg c] at h; cases h; exact new_no l d _ (by simpa using c) (check_is _ hb _ rfl) w
end Go.Proofs.Ytaojiojbpkldkaa
