/-
  THE CONTRACTS of Up (package bits' and the document's), and of package untyped's length, isUsed, Left, and the document's Left.
-/
import Derived.Test.YtadllapdhdjpbaaBits
import Derived.Test.YtadllapdhdjpbaaRef
namespace Go.Proofs.Ytadllapdhdjpbaa
open Go.RowKit

theorem ret_int2 {k l : IntKind} {a b : Int} {c : Int} (h : a = b) : Ending.returned (.tuple #[.int k a, .int l c]) = .returned (.tuple #[.int k b, .int l c]) := by rw [h]

set_option maxHeartbeats 400000 in
theorem up_is (n k f : Nat) (w : World) (hn : n ≤ 1099511627776) (hk : k ≤ 40) (hf : M.upN n k = f) :
    Calls Try.prog 21 #[.int .i64 n, .int .i64 k] w fun e w' => e = .returned (.tuple #[.int .i64 f, .int .i64 0]) ∧ w' = w := by
  subst hf
  go_enter Try.func21, Try.ntmps21
  go_wp2
  go_ret2
  exact ⟨ret_int2 (M.up_val n k hn hk), rfl⟩

set_option maxHeartbeats 400000 in
theorem rup_is (n k f : Nat) (w : World) (hn : n ≤ 1099511627776) (hk : k ≤ 40) (hf : M.upN n k = f) :
    Calls Try.prog 24 #[.int .i64 n, .int .i64 k] w fun e w' => e = .returned (.tuple #[.int .i64 f, .int .i64 0]) ∧ w' = w := by
  subst hf
  have hp := M.pow_le40 k hk
  have h1 : 1 ≤ 2 ^ k := Nat.one_le_two_pow
  have hu : Hid (M.upN n k = (n + (2 ^ k - 1)) / 2 ^ k * 2 ^ k) := (rfl : _ = _)
  have hb := M.upN_bd n k
  have e0 : ((2 : Int) ^ k) = ((2 ^ k : Nat) : Int) := by simp
  obtain ⟨m, hm⟩ : ∃ m, 2 ^ k = m := ⟨_, rfl⟩
  have hw : wrap64 (2 ^ k) = (m : Int) := by rw [e0, hm]; unfold wrap64; omega
  rw [hm] at hp h1 hb
  have HM : Hid (2 ^ k = m) := hm
  clear e0 hm
  have hend : wrap64 (((n : Int) + (m : Int) - 1) / (m : Int) * (m : Int)) = ((M.upN n k : Nat) : Int) := by
    have e1 : ((n : Int) + (m : Int) - 1) / (m : Int) * (m : Int) = ((M.upN n k : Nat) : Int) := by
      rw [hu.out, HM.out, Int.natCast_mul, Int.natCast_ediv, show (n : Int) + (m : Int) - 1 = ((n + (m - 1) : Nat) : Int) by omega]
    rw [e1]
    unfold wrap64
    omega
  have HE : Hid (wrap64 (((n : Int) + (m : Int) - 1) / (m : Int) * (m : Int)) = ((M.upN n k : Nat) : Int)) := hend
  clear hend
  go_enter Try.func24, Try.ntmps24
  go_wp2
  go_ret2
  exact ⟨ret_int2 HE.out, rfl⟩

set_option maxHeartbeats 400000 in
theorem ulen_any (A : Int) (b m : Nat) (w : World) (hb : b ≤ 16) (hm : 2 ^ b = m) :
    Calls Try.prog 22 #[sp A b] w fun e w' => e = .returned (.int .i64 (m : Int)) ∧ w.grownBy w' none := by
  have h2 := M.shl_val b m hb hm
  clear hm
  go_enter Try.func22, Try.ntmps22
  go_wp2
  go_ret
  exact ⟨ret_int h2, gbAlloc _ _ _⟩

theorem check_right (A B : Int) (v : Bool) (h : M.rgt A B = v) : ∃ c : Int, (c == 0) = v ∧ ∀ w, Calls Try.prog 16 #[sp A B, .int .i64 65536] w fun e w' => e = .returned (.int .i64 c) ∧ w.grownBy w' none := by
  refine ⟨M.chk A B 65536, ?_, fun w => check_any A B 65536 w⟩
  rw [← h]
  cases e : M.rgt A B
  · have := chk_right (A := A) (B := B); rw [e] at this; simpa using this
  · have := chk_right (A := A) (B := B); rw [e] at this; simpa using this

set_option maxHeartbeats 800000 in
theorem used_is (A B u : Int) (v : Bool) (h : M.usd A B u = v) (w : World) :
    Calls Try.prog 20 #[sp A B, .int .i64 u] w fun e w' => e = .returned (.bool v) ∧ w.grownBy w' none := by
  have B0 := Box.made w A B
  rcases M.usd_ways A B u with ⟨h1, h2⟩ | ⟨a, b, m, rfl, rfl, hb, hm, m1, m2, m3, h1, hpw, ⟨c1, h2⟩ | ⟨c1, c2, h2⟩ | ⟨c1, c2, h2⟩⟩
  · rw [h2] at h
    subst h
    obtain ⟨c, hc, HC⟩ := check_right A B false h1
    clear h1 h2
    go_enter Try.func20, Try.ntmps20
    go_wp2_with fail
    refine (HC _).mono ?_
    rintro e w1 ⟨rfl, g1⟩
    go_wp2
    go_ret
    exact ⟨rfl, gbTrans (gbAlloc _ _ _) g1⟩
  · rw [h2] at h
    subst h
    obtain ⟨c, hc, HC⟩ := check_right a b true h1
    clear h1 h2 hm hpw
    have d1 : decide (0 ≤ u) = false := decide_eq_false (by omega)
    go_enter Try.func20, Try.ntmps20
    go_wp2_with fail
    refine (HC _).mono ?_
    rintro e w1 ⟨rfl, g1⟩
    go_wp2
    go_ret
    exact ⟨rfl, gbTrans (gbAlloc _ _ _) g1⟩
  · rw [h2] at h
    subst h
    obtain ⟨c, hc, HC⟩ := check_right a b true h1
    have HL := fun w => ulen_any a b m w hb hm
    clear h1 h2 hm hpw
    have d1 : decide (0 ≤ u) = true := decide_eq_true (by omega)
    have d2 : decide (u ≤ (m : Int)) = false := decide_eq_false (by omega)
    go_enter Try.func20, Try.ntmps20
    go_wp2_with fail
    refine (HC _).mono ?_
    rintro e w1 ⟨rfl, g1⟩
    have B1 := B0.kept g1
    have e0 := B1.at0
    have e1 := B1.at1
    go_wp2_with fail
    refine (HL _).mono ?_
    rintro e w2 ⟨rfl, g2⟩
    go_wp2
    go_ret
    exact ⟨rfl, gbTrans (gbTrans (gbAlloc _ _ _) g1) g2⟩
  · rw [h2] at h
    subst h
    obtain ⟨c, hc, HC⟩ := check_right a b true h1
    have HL := fun w => ulen_any a b m w hb hm
    clear h1 h2 hm hpw
    have d1 : decide (0 ≤ u) = true := decide_eq_true (by omega)
    have d2 : decide (u ≤ (m : Int)) = true := decide_eq_true (by omega)
    go_enter Try.func20, Try.ntmps20
    go_wp2_with fail
    refine (HC _).mono ?_
    rintro e w1 ⟨rfl, g1⟩
    have B1 := B0.kept g1
    have e0 := B1.at0
    have e1 := B1.at1
    go_wp2_with fail
    refine (HL _).mono ?_
    rintro e w2 ⟨rfl, g2⟩
    go_wp2
    go_ret
    exact ⟨rfl, gbTrans (gbTrans (gbAlloc _ _ _) g1) g2⟩

set_option maxHeartbeats 800000 in
theorem left_is (A B u r : Int) (h : M.lft A B u = r) (w : World) :
    Calls Try.prog 13 #[sp A B, .int .i64 u] w fun e w' => e = .returned (.int .i64 r) ∧ w.grownBy w' none := by
  have B0 := Box.made w A B
  cases k : M.usd A B u
  · rw [M.lft_no k] at h
    subst h
    have HU := fun w => used_is A B u false k w
    clear k
    go_enter Try.func13, Try.ntmps13
    go_wp2_with fail
    refine (HU _).mono ?_
    rintro e w1 ⟨rfl, g1⟩
    go_wp2
    go_ret
    exact ⟨rfl, gbTrans (gbAlloc _ _ _) g1⟩
  · have HU := fun w => used_is A B u true k w
    obtain ⟨a, b, m, s, rfl, rfl, rfl, hb, hm, hpw, m1, m2, m3, hr, hs⟩ := M.usd_nat k
    rw [M.lft_yes m s k hpw rfl] at h
    have HL := fun w => ulen_any a b m w hb hm
    subst h
    clear k hm hpw hr
    go_enter Try.func13, Try.ntmps13
    go_wp2_with fail
    refine (HU _).mono ?_
    rintro e w1 ⟨rfl, g1⟩
    have B1 := B0.kept g1
    have e0 := B1.at0
    have e1 := B1.at1
    go_wp2_with fail
    refine (HL _).mono ?_
    rintro e w2 ⟨rfl, g2⟩
    go_wp2
    go_ret
    exact ⟨rfl, gbTrans (gbTrans (gbAlloc _ _ _) g1) g2⟩

set_option maxHeartbeats 800000 in
theorem rleft_is (A B u r : Int) (h : M.lft A B u = r) (w : World) :
    Calls Try.prog 14 #[sp A B, .int .i64 u] w fun e w' => e = .returned (.int .i64 r) ∧ w.grownBy w' none := by
  have B0 := Box.made w A B
  rcases M.usd_ways A B u with ⟨h1, h2⟩ | ⟨a, b, m, rfl, rfl, hb, hm, m1, m2, m3, h1, hpw, ⟨c1, h2⟩ | ⟨c1, c2, h2⟩ | ⟨c1, c2, h2⟩⟩
  · rw [M.lft_no h2] at h
    subst h
    have HR := fun w => rright_is A B false h1 w
    clear h1 h2
    go_enter Try.func14, Try.ntmps14
    go_wp2_with fail
    refine (HR _).mono ?_
    rintro e w1 ⟨rfl, g1⟩
    go_wp2
    go_ret
    exact ⟨rfl, gbTrans (gbAlloc _ _ _) g1⟩
  · rw [M.lft_no h2] at h
    subst h
    have HR := fun w => rright_is a b true h1 w
    clear h1 h2 hm hpw
    have d1 : decide (u < 0) = true := decide_eq_true (by omega)
    go_enter Try.func14, Try.ntmps14
    go_wp2_with fail
    refine (HR _).mono ?_
    rintro e w1 ⟨rfl, g1⟩
    go_wp2
    go_ret
    exact ⟨rfl, gbTrans (gbAlloc _ _ _) g1⟩
  · rw [M.lft_no h2] at h
    subst h
    have HR := fun w => rright_is a b true h1 w
    have hsh := M.shl_val b m hb hm
    clear h1 h2 hm hpw
    have d1 : decide (u < 0) = false := decide_eq_false (by omega)
    have d2 : decide ((m : Int) < u) = true := decide_eq_true (by omega)
    go_enter Try.func14, Try.ntmps14
    go_wp2_with fail
    refine (HR _).mono ?_
    rintro e w1 ⟨rfl, g1⟩
    have B1 := B0.kept g1
    have e0 := B1.at0
    have e1 := B1.at1
    go_wp2
    go_ret
    exact ⟨rfl, gbTrans (gbAlloc _ _ _) g1⟩
  · obtain ⟨s, rfl⟩ : ∃ s : Nat, u = (s : Int) := ⟨u.toNat, by omega⟩
    rw [M.lft_yes m s h2 hpw rfl] at h
    subst h
    have HR := fun w => rright_is a b true h1 w
    have hsh := M.shl_val b m hb hm
    clear h1 h2 hm hpw
    have d1 : decide ((s : Int) < 0) = false := decide_eq_false (by omega)
    have d2 : decide ((m : Int) < (s : Int)) = false := decide_eq_false (by omega)
    go_enter Try.func14, Try.ntmps14
    go_wp2_with fail
    refine (HR _).mono ?_
    rintro e w1 ⟨rfl, g1⟩
    have B1 := B0.kept g1
    have e0 := B1.at0
    have e1 := B1.at1
    go_wp2
    go_ret
    exact ⟨rfl, gbTrans (gbAlloc _ _ _) g1⟩

end Go.Proofs.Ytadllapdhdjpbaa
