/-
  THE CONTRACTS of package msg's flag and Pack.
-/
import Derived.Test.YtgimgbbiojkfgaaLeaf
namespace Go.Proofs.Ytgimgbbiojkfgaa
set_option maxRecDepth 10000
open Go.RowKit

/-- A flag's bit. -/
def M.fl (b : Bool) : Nat := if b then 1 else 0

set_option maxHeartbeats 400000 in
theorem flag_any (b : Bool) (w : World) : Calls Try.prog 20 #[.bool b] w fun e w' => e = .returned (.int .u64 (M.fl b)) ∧ w' = w := by
  cases b
  all_goals
    go_enter Try.func20, Try.ntmps20
    go_wp2
    go_ret
    exact ⟨rfl, rfl⟩

theorem put1 (V : Nat) (w : World) (hV : V < 8) :
    Calls Try.prog 19 #[.int .u64 0, .int .i64 0, .int .i64 3, .int .u64 V] w fun e w' => e = .returned (.tuple #[.int .u64 V, .int .i64 0]) ∧ w.grownBy w' none :=
  putW 0 0 3 V V w ((M.putN_add 0 0 3 V (by omega) (by omega) hV).trans (by omega)) (by omega) (by omega) (by omega) hV
theorem put2 (W V x : Nat) (w : World) (hW : W < 8) (hV : V < 2) (hx : W + V * 8 = x) :
    Calls Try.prog 19 #[.int .u64 W, .int .i64 3, .int .i64 1, .int .u64 V] w fun e w' => e = .returned (.tuple #[.int .u64 x, .int .i64 0]) ∧ w.grownBy w' none :=
  putW W 3 1 V x w ((M.putN_add W 3 1 V hW (by omega) hV).trans hx) (by omega) (by omega) (by omega) hV
theorem put3 (W V x : Nat) (w : World) (hW : W < 16) (hV : V < 65536) (hx : W + V * 16 = x) :
    Calls Try.prog 19 #[.int .u64 W, .int .i64 4, .int .i64 16, .int .u64 V] w fun e w' => e = .returned (.tuple #[.int .u64 x, .int .i64 0]) ∧ w.grownBy w' none :=
  putW W 4 16 V x w ((M.putN_add W 4 16 V hW (by omega) hV).trans hx) (by omega) (by omega) (by omega) hV

set_option maxHeartbeats 400000 in
theorem pack_low (l n : Int) (c : Bool) (h : n < 0) (w : World) :
    Calls Try.prog 9 #[iv ⟨l, n, c⟩] w fun e w' => e = .returned (.tuple #[.int .u64 0, .int .i64 1]) ∧ w.grownBy w' none := by
  go_enter Try.func9, Try.ntmps9
  go_wp2
  go_ret2
  exact ⟨rfl, gbAlloc _ _ _⟩
set_option maxHeartbeats 400000 in
theorem pack_high (l n : Int) (c : Bool) (h0 : ¬ n < 0) (h : 4 < n) (w : World) :
    Calls Try.prog 9 #[iv ⟨l, n, c⟩] w fun e w' => e = .returned (.tuple #[.int .u64 0, .int .i64 1]) ∧ w.grownBy w' none := by
  go_enter Try.func9, Try.ntmps9
  go_wp2
  go_ret2
  exact ⟨rfl, gbAlloc _ _ _⟩
set_option maxHeartbeats 400000 in
theorem pack_label (l : Int) (n : Nat) (c : Bool) (h : n ≤ 4) (k : 65536 ≤ l) (w : World) :
    Calls Try.prog 9 #[iv ⟨l, (n : Int), c⟩] w fun e w' => e = .returned (.tuple #[.int .u64 0, .int .i64 10]) ∧ w.grownBy w' none := by
  go_enter Try.func9, Try.ntmps9
  go_wp2
  go_ret2
  exact ⟨rfl, gbAlloc _ _ _⟩

set_option maxHeartbeats 800000 in
theorem pack_yes (l : Int) (n : Nat) (c : Bool) (f y z : Nat) (hn : n ≤ 4) (hl : l < 65536)
    (HF : ∀ w, Calls Try.prog 20 #[.bool c] w fun e w' => e = .returned (.int .u64 f) ∧ w' = w)
    (H1 : ∀ w, Calls Try.prog 19 #[.int .u64 0, .int .i64 0, .int .i64 3, .int .u64 n] w fun e w' => e = .returned (.tuple #[.int .u64 n, .int .i64 0]) ∧ w.grownBy w' none)
    (H2 : ∀ w, Calls Try.prog 19 #[.int .u64 n, .int .i64 3, .int .i64 1, .int .u64 f] w fun e w' => e = .returned (.tuple #[.int .u64 y, .int .i64 0]) ∧ w.grownBy w' none)
    (H3 : ∀ w, Calls Try.prog 19 #[.int .u64 y, .int .i64 4, .int .i64 16, .int .u64 l] w fun e w' => e = .returned (.tuple #[.int .u64 z, .int .i64 0]) ∧ w.grownBy w' none) (w : World) :
    Calls Try.prog 9 #[iv ⟨l, (n : Int), c⟩] w fun e w' => e = .returned (.tuple #[.int .u64 z, .int .i64 0]) ∧ w.grownBy w' none := by
  have X0 := Box.made w ⟨l, (n : Int), c⟩ 28
  have G0 := gbAlloc w (.cells #[.int .u64 l, .int .i64 (n : Int), .bool c] 28) none
  go_enter Try.func9, Try.ntmps9
  go_wp2_with fail
  refine (H1 _).mono ?_
  rintro e w1 ⟨rfl, g1⟩
  obtain ⟨a0, a1, a2, _, _⟩ := X0.kept g1
  have G1 := gbTrans G0 g1
  have X1 := X0.kept g1
  clear X0 G0 g1
  go_wp2_with fail
  refine (HF _).mono ?_
  rintro e w1 ⟨rfl, rfl⟩
  go_wp2_with fail
  refine (H2 _).mono ?_
  rintro e w2 ⟨rfl, g2⟩
  clear a0 a1 a2
  obtain ⟨a0, a1, a2, _, _⟩ := X1.kept g2
  have G2 := gbTrans G1 g2
  clear X1 G1 g2
  go_wp2_with fail
  refine (H3 _).mono ?_
  rintro e w3 ⟨rfl, g3⟩
  go_wp2
  go_ret2
  exact ⟨rfl, gbTrans G2 g3⟩

theorem pack_is (l n : Int) (c : Bool) (x f : Int) (h0 : 0 ≤ l) (h : M.pk ⟨l, n, c⟩ = (x, f)) (w : World) :
    Calls Try.prog 9 #[iv ⟨l, n, c⟩] w fun e w' => e = .returned (.tuple #[.int .u64 x, .int .i64 f]) ∧ w.grownBy w' none := by
  by_cases c1 : n < 0 ∨ 4 < n
  · obtain ⟨rfl, rfl⟩ : 0 = x ∧ 1 = f := by simpa using (M.pk_range c1).symm.trans h
    rcases c1 with c1 | c1
    · exact pack_low l n c c1 w
    · exact pack_high l n c (by omega) c1 w
  · obtain ⟨m, rfl⟩ : ∃ m : Nat, n = m := ⟨n.toNat, by omega⟩
    have hm : m ≤ 4 := by omega
    by_cases c2 : 65536 ≤ l
    · obtain ⟨rfl, rfl⟩ : 0 = x ∧ 10 = f := by simpa using (M.pk_field c1 c2).symm.trans h
      exact pack_label l m c hm c2 w
    · have e := (M.pk_ok (c := c) c1 c2).symm.trans h
      simp only [Prod.mk.injEq] at e
      obtain ⟨rfl, rfl⟩ := e
      obtain ⟨L, rfl⟩ : ∃ L : Nat, l = L := ⟨l.toNat, by omega⟩
      have ez : (m : Int) + (if c = true then 8 else 0) + 16 * (L : Int) = ((m + M.fl c * 8 + L * 16 : Nat) : Int) := by
        cases c <;> simp [M.fl] <;> omega
      rw [ez]
      have hf : M.fl c < 2 := by cases c <;> decide
      exact pack_yes L m c (M.fl c) _ _ hm (by omega) (fun w => flag_any c w) (fun w => put1 m w (by omega)) (fun w => put2 m _ _ w (by omega) hf rfl) (fun w => put3 _ L _ w (by omega) (by omega) rfl) w
end Go.Proofs.Ytgimgbbiojkfgaa
