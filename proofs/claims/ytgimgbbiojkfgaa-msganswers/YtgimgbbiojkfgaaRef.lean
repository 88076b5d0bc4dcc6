/-
  THE CONTRACTS of the document's side: donjonref16's Pack, Unpack, Carry, Answer, by the same plain functions.
-/
import Derived.Test.YtgimgbbiojkfgaaRgs
namespace Go.Proofs.Ytgimgbbiojkfgaa
set_option maxRecDepth 10000
open Go.RowKit
set_option linter.unusedVariables false

set_option maxHeartbeats 400000 in
theorem rpack_low (l n : Int) (c : Bool) (h : n < 0) (w : World) :
    Calls Try.prog 10 #[iv ⟨l, n, c⟩] w fun e w' => e = .returned (.tuple #[.int .u64 0, .int .i64 1]) ∧ w.grownBy w' none := by
  go_enter Try.func10, Try.ntmps10
  go_wp2
  go_ret2
  exact ⟨rfl, gbAlloc _ _ _⟩
set_option maxHeartbeats 400000 in
theorem rpack_high (l n : Int) (c : Bool) (h0 : ¬ n < 0) (h : 4 < n) (w : World) :
    Calls Try.prog 10 #[iv ⟨l, n, c⟩] w fun e w' => e = .returned (.tuple #[.int .u64 0, .int .i64 1]) ∧ w.grownBy w' none := by
  go_enter Try.func10, Try.ntmps10
  go_wp2
  go_ret2
  exact ⟨rfl, gbAlloc _ _ _⟩
set_option maxHeartbeats 400000 in
theorem rpack_label (l n : Int) (c : Bool) (h0 : ¬ n < 0) (h : ¬ 4 < n) (k : 65536 ≤ l) (w : World) :
    Calls Try.prog 10 #[iv ⟨l, n, c⟩] w fun e w' => e = .returned (.tuple #[.int .u64 0, .int .i64 10]) ∧ w.grownBy w' none := by
  go_enter Try.func10, Try.ntmps10
  go_wp2
  go_ret2
  exact ⟨rfl, gbAlloc _ _ _⟩
set_option maxHeartbeats 800000 in
theorem rpack_yes (l n y z : Int) (c : Bool) (h0 : 0 ≤ n) (h : n ≤ 4) (l0 : 0 ≤ l) (k : l < 65536) (hy : 16 * l = y) (y0 : 0 ≤ y) (y1 : y < 1048576) (hz : n + y = z) (z0 : 0 ≤ z) (z1 : z < 1048580) (w : World) :
    Calls Try.prog 10 #[iv ⟨l, n, c⟩] w fun e w' => e = .returned (.tuple #[.int .u64 (z + (if c then 8 else 0)), .int .i64 0]) ∧ w.grownBy w' none := by
  cases c
  · go_enter Try.func10, Try.ntmps10
    go_wp2
    go_ret2
    exact ⟨ret_int2 (by simp), gbAlloc _ _ _⟩
  · go_enter Try.func10, Try.ntmps10
    go_wp2
    go_ret2
    exact ⟨ret_int2 (by simp), gbAlloc _ _ _⟩

theorem rpack_is (l n : Int) (c : Bool) (x f : Int) (h0 : 0 ≤ l) (h : M.pk ⟨l, n, c⟩ = (x, f)) (w : World) :
    Calls Try.prog 10 #[iv ⟨l, n, c⟩] w fun e w' => e = .returned (.tuple #[.int .u64 x, .int .i64 f]) ∧ w.grownBy w' none := by
  by_cases c1 : n < 0 ∨ 4 < n
  · obtain ⟨rfl, rfl⟩ : 0 = x ∧ 1 = f := by simpa using (M.pk_range c1).symm.trans h
    by_cases c2 : n < 0
    · exact rpack_low l n c c2 w
    · exact rpack_high l n c c2 (by omega) w
  · by_cases c2 : 65536 ≤ l
    · obtain ⟨rfl, rfl⟩ : 0 = x ∧ 10 = f := by simpa using (M.pk_field c1 c2).symm.trans h
      exact rpack_label l n c (by omega) (by omega) c2 w
    · have e := (M.pk_ok (c := c) c1 c2).symm.trans h
      simp only [Prod.mk.injEq] at e
      obtain ⟨rfl, rfl⟩ := e
      have ez : n + (if c = true then 8 else 0) + 16 * l = n + 16 * l + (if c = true then 8 else 0) := by omega
      rw [ez]
      exact rpack_yes l n _ _ c (by omega) (by omega) h0 (by omega) rfl (by omega) (by omega) rfl (by omega) (by omega) w

set_option maxHeartbeats 800000 in
theorem runpack_big (W : Int) (c1 : 1048576 ≤ W) (w : World) :
    Calls Try.prog 12 #[.int .u64 W] w fun e w' => e = .returned (.tuple #[iv I.zero, .int .i64 10]) ∧ w.grownBy w' none := by
  have G0 := gbAlloc w (.cells #[.int .u64 0, .int .i64 0, .bool false] 24) none
  go_enter Try.func12, Try.ntmps12
  go_wp2
  exact bodyPost_ret (v := .tuple #[iv I.zero, .int .i64 10]) (by simp [results, Try.results12, go_sem]) rfl ⟨rfl, by repeat (first | with_reducible exact G0 | refine gbSetNew ?_ _ _ _ (by omega))⟩
set_option maxHeartbeats 800000 in
theorem runpack_rem (W R : Int) (h0 : 0 ≤ W) (c1 : W < 1048576) (hR : W % 8 = R) (c2 : 4 < R) (w : World) :
    Calls Try.prog 12 #[.int .u64 W] w fun e w' => e = .returned (.tuple #[iv I.zero, .int .i64 10]) ∧ w.grownBy w' none := by
  have G0 := gbAlloc w (.cells #[.int .u64 0, .int .i64 0, .bool false] 24) none
  go_enter Try.func12, Try.ntmps12
  go_wp2
  exact bodyPost_ret (v := .tuple #[iv I.zero, .int .i64 10]) (by simp [results, Try.results12, go_sem]) rfl ⟨rfl, by repeat (first | with_reducible exact G0 | refine gbSetNew ?_ _ _ _ (by omega))⟩
set_option maxHeartbeats 800000 in
theorem runpack_yes (W R l q r : Int) (b : Bool) (h0 : 0 ≤ W) (c1 : W < 1048576) (hR : W % 8 = R) (c2 : R ≤ 4) (r0 : 0 ≤ R) (hl : W / 16 = l) (hq : W / 8 = q) (hr : q % 2 = r) (hb : (r == 1) = b) (q0 : 0 ≤ q) (w : World) :
    Calls Try.prog 12 #[.int .u64 W] w fun e w' => e = .returned (.tuple #[iv ⟨l, R, b⟩, .int .i64 0]) ∧ w.grownBy w' none := by
  have G0 := gbAlloc w (.cells #[.int .u64 l, .int .i64 R, .bool b] 24) none
  go_enter Try.func12, Try.ntmps12
  go_wp2
  exact bodyPost_ret (v := .tuple #[iv ⟨l, R, b⟩, .int .i64 0]) (by simp [results, Try.results12, go_sem]) rfl ⟨rfl, by repeat (first | with_reducible exact G0 | refine gbSetNew ?_ _ _ _ (by omega))⟩

theorem runpack_is (W : Nat) (c : I) (f : Int) (h : M.up W = (c, f)) (w : World) :
    Calls Try.prog 12 #[.int .u64 W] w fun e w' => e = .returned (.tuple #[iv c, .int .i64 f]) ∧ w.grownBy w' none := by
  by_cases k : W < 1048576 ∧ W % 8 ≤ 4
  · have e := (M.up_yes k.1 k.2).symm.trans h
    simp only [Prod.mk.injEq] at e
    obtain ⟨rfl, rfl⟩ := e
    exact runpack_yes W _ _ (((W / 8 : Nat) : Int)) (((W / 8 % 2 : Nat) : Int)) _ (by omega) (by omega) (by omega) (by omega) (by omega) (by omega) (by omega) (by omega) (by rw [Bool.eq_iff_iff]; simp only [beq_iff_eq]; omega) (by omega) w
  · have e := (M.up_no k).symm.trans h
    simp only [Prod.mk.injEq] at e
    obtain ⟨rfl, rfl⟩ := e
    by_cases k1 : W < 1048576
    · exact runpack_rem W _ (by omega) (by omega) rfl (by omega) w
    · exact runpack_big W (by omega) w
end Go.Proofs.Ytgimgbbiojkfgaa
