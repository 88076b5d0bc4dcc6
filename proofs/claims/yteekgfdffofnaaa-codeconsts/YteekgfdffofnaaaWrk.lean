/-
  WHAT THE LAWS' WALKS WANT: works.
-/
import Derived.Test.YteekgfdffofnaaaRun
import Derived.Test.YteekgfdffofnaaaDrw
namespace Go.Proofs.Yteekgfdffofnaaa
set_option maxRecDepth 10000
open Go.RowKit
set_option linter.unusedVariables false

theorem rowMade (w : World) (c : Array Value) (t : TypeId) : ∃ W, w.alloc (.cells c t) = W ∧ Rw W w.heap.size t c ∧ w.grownBy W none ∧ w.heap.size ≤ w.heap.size := ⟨_, rfl, Rw.made w c t, gbAlloc _ _ _, Nat.le_refl _⟩
theorem nil8_pos : ∀ j, 0 ≤ nil8 j := fun j => Int.le_refl 0
theorem upd_pos {f : Nat → Int} {i : Nat} {v : Int} (h : ∀ j, 0 ≤ f j) (hv : 0 ≤ v) : ∀ j, 0 ≤ upd f i v j := fun j => by
  unfold upd; split
  · exact hv
  · exact h j

/-! ### works -/
abbrev i1 : I := ⟨1, 2, 0, 7⟩
abbrev i2 : I := ⟨16, 0, 0, 9⟩
def u1 : E := ⟨upd nil8 2 7, 1, 0, 0, 0, 0⟩
def u2 : E := ⟨upd nil8 0 1, 0, 3, 0, 0, 9⟩
theorem wpk : M.pk i1 = (14401, 0) := by rfl
theorem wup : M.up 14401 = (i1, 0) := by simp [M.up, M.pk, M.fe, M.rt, M.bel, M.wd]
theorem wun : M.up 18 = (I.zero, 10) := by simp [M.up, M.pk, M.fe, M.rt, M.bel]
theorem wr1 : M.run i1 nil8 0 = (u1, 0) := by rfl
theorem wr2 : M.run i2 (upd nil8 0 1) 4095 = (u2, 0) := by
  have e : M.ex i2 (upd nil8 0 1) 4095 = u2 := by
    show (⟨upd (upd nil8 0 1) 0 1, 0, 3, 0, 0, 9⟩ : E) = ⟨upd nil8 0 1, 0, 3, 0, 0, 9⟩
    have h : upd (upd nil8 0 1) 0 1 = upd nil8 0 1 := upd_self (upd nil8 0 1) 0
    rw [h]
  rw [← e]; rfl
theorem wrun1 (w : World) : Calls Try.prog 15 #[iv i1, .agg #[.int .u64 0, .int .u64 0, .int .u64 0, .int .u64 0, .int .u64 0, .int .u64 0, .int .u64 0, .int .u64 0], .int .i64 0] w fun e w' => e = .returned (.tuple #[.agg (ec u1), .int .i64 0]) ∧ w.grownBy w' none :=
  run_is i1 nil8 0 u1 0 nil8_pos wr1 w
theorem wrun2 (w : World) : Calls Try.prog 15 #[iv i2, .agg #[.int .u64 1, .int .u64 0, .int .u64 0, .int .u64 0, .int .u64 0, .int .u64 0, .int .u64 0, .int .u64 0], .int .i64 4095] w fun e w' => e = .returned (.tuple #[.agg (ec u2), .int .i64 0]) ∧ w.grownBy w' none :=
  run_is i2 (upd nil8 0 1) 4095 u2 0 (upd_pos nil8_pos (by decide)) wr2 w
theorem weqr (w : World) : (binOp .eql 39 (.agg (rc (upd nil8 2 7))) (.agg #[.int .u64 0, .int .u64 0, .int .u64 7, .int .u64 0, .int .u64 0, .int .u64 0, .int .u64 0, .int .u64 0])).run Try.prog w = .ok (.bool true) w :=
  run_eql_R w (upd nil8 2 7) (upd nil8 2 7) rfl

set_option maxHeartbeats 4000000 in
theorem works_is (w : World) : Calls Try.prog 18 #[] w fun e w' => e = .returned (.bool true) ∧ w.grownBy w' none := by
  go_enter Try.func18, Try.ntmps18
  go_upto_region 2 with fail
  obtain ⟨W1, e1, A, G, _⟩ := rowMade w (ic i1) 28
  rw [e1]
  clear e1
  generalize w.heap.size = x1 at A
  go_wp2_with (refine wpList_loadW rfl _ rfl rfl A tkI rfl ?_)
  refine (pack_is i1 _ _ wpk _).mono ?_
  rintro e w2 ⟨rfl, g2⟩
  replace A := A.kept g2
  replace G := gbTrans G g2
  clear g2
  go_wp2_with fail
  refine (unpack_is 14401 _ _ (by decide) wup _).mono ?_
  rintro e w3 ⟨rfl, g3⟩
  replace A := A.kept g3
  replace G := gbTrans G g3
  clear g3
  go_upto_region 4 with (first | (refine wpList_allocW rfl rfl zI ?_; intro V1 x2 X1 k1 l1) | (refine wpList_storeW rfl _ _ rfl rfl rfl X1 tkI rfl rfl (ic_one _) ?_; intro W4 B h1))
  replace A := A.past k1 l1 h1
  replace G := gbMade G k1 l1 h1
  clear k1 l1 h1 X1
  go_wp2_with (refine wpList_loadW rfl _ rfl rfl A tkI rfl ?_)
  refine (wrun1 _).mono ?_
  rintro e w5 ⟨rfl, g5⟩
  replace A := A.kept g5
  replace B := B.kept g5
  replace G := gbTrans G g5
  clear g5
  go_upto_region 5 with (first | (refine wpList_allocW rfl rfl zE ?_; intro V1 x3 X1 k1 l1) | (refine wpList_storeW rfl _ _ rfl rfl rfl X1 tkE rfl rfl (ec_one _) ?_; intro W6 C h1))
  replace A := A.past k1 l1 h1
  replace B := B.past k1 l1 h1
  replace G := gbMade G k1 l1 h1
  clear k1 l1 h1 X1
  go_wp2_with fail
  refine (unpack_is 18 _ _ (by decide) wun _).mono ?_
  rintro e w7 ⟨rfl, g7⟩
  replace A := A.kept g7
  replace B := B.kept g7
  replace C := C.kept g7
  replace G := gbTrans G g7
  clear g7
  go_upto_region 6 with (first | (refine wpList_allocW rfl rfl zI ?_; intro V1 x4 X1 k1 l1) | (refine wpList_storeW rfl _ _ rfl rfl rfl X1 tkI rfl rfl (ic_one _) ?_; intro W8 D h1))
  replace A := A.past k1 l1 h1
  replace B := B.past k1 l1 h1
  replace C := C.past k1 l1 h1
  replace G := gbMade G k1 l1 h1
  clear k1 l1 h1 X1 D
  go_wp2_with fail
  refine (wrun2 _).mono ?_
  rintro e w9 ⟨rfl, g9⟩
  replace A := A.kept g9
  replace B := B.kept g9
  replace C := C.kept g9
  replace G := gbTrans G g9
  clear g9
  go_upto_region 7 with (first | (refine wpList_allocW rfl rfl zE ?_; intro V1 x5 X1 k1 l1) | (refine wpList_storeW rfl _ _ rfl rfl rfl X1 tkE rfl rfl (ec_one _) ?_; intro W10 D h1))
  replace A := A.past k1 l1 h1
  replace B := B.past k1 l1 h1
  replace C := C.past k1 l1 h1
  replace G := gbMade G k1 l1 h1
  clear k1 l1 h1 X1
  have qi := fun w => run_eql_I w i1
  have gi := eqGuardI
  have qr := weqr
  have gr := eqGuardR
  have c1 : W10.cell? ⟨x3, 8, none⟩ = some (.int .i64 1) := C.cell 8
  have d1 : W10.cell? ⟨x5, 8, none⟩ = some (.int .i64 0) := D.cell 8
  have d2 : W10.cell? ⟨x5, 9, none⟩ = some (.int .i64 3) := D.cell 9
  have d3 : W10.cell? ⟨x5, 12, none⟩ = some (.int .u64 9) := D.cell 12
  go_wp2_with (first | (refine wpList_loadW rfl _ rfl rfl B tkI rfl ?_) | (refine wpList_loadW rfl _ rfl rfl A tkI rfl ?_) | (refine wpList_loadM rfl _ rfl (rc (upd nil8 2 7)) rfl C tkR rfl (ec_regs u1) ?_))
  go_ret
  exact ⟨rfl, G⟩
end Go.Proofs.Yteekgfdffofnaaa
