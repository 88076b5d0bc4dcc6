/-
  THE CONTRACTS of package span's functions.
-/
import Derived.Test.YtadllapdhdjpbaaMath
namespace Go.Proofs.Ytadllapdhdjpbaa
open Go.RowKit

/-- A span as a value. -/
abbrev sp (A B : Int) : Value := .agg #[.int .i64 A, .int .i64 B]

set_option maxHeartbeats 400000 in
theorem length_any (A : Int) (b m : Nat) (w : World) (hb : b ≤ 16) (hm : 2 ^ b = m) :
    Calls Try.prog 26 #[sp A b] w fun e w' => e = .returned (.int .i64 (m : Int)) ∧ w.grownBy w' none := by
  have h2 := M.shl_val b m hb hm
  clear hm
  go_enter Try.func26, Try.ntmps26
  go_wp2
  go_ret
  exact ⟨ret_int h2, gbAlloc _ _ _⟩

set_option maxHeartbeats 400000 in
theorem end_any (A : Int) (b m : Nat) (w : World) (hb : b ≤ 16) (hm : 2 ^ b = m) (h0 : 0 ≤ A) (h1 : A ≤ 65536) :
    Calls Try.prog 27 #[sp A b] w fun e w' => e = .returned (.int .i64 (A + (m : Int))) ∧ w.grownBy w' none := by
  have hp := M.pow_le16 b hb
  have HL := fun w => length_any A b m w hb hm
  rw [hm] at hp
  clear hm
  have bx := (Box.made w A b).all
  obtain ⟨c0, c1⟩ := bx
  go_enter Try.func27, Try.ntmps27
  go_wp2
  refine wp_region_grown (by kernel_rfl) (by kernel_rfl) fun _ => ?_
  repeat (go_big_quiet_step ((go_at_call 26; with_reducible exact callsGr (HL _))))
  refine wpQuiet_nil ?_
  rintro _ ⟨x, rfl⟩
  go_wp2
  go_ret
  exact ⟨rfl, gbTrans (gbAlloc _ _ _) x.g⟩

set_option maxHeartbeats 400000 in
theorem check_bits (A B n : Int) (w : World) (h : ¬ (0 ≤ B ∧ B ≤ 16)) :
    Calls Try.prog 16 #[sp A B, .int .i64 n] w fun e w' => e = .returned (.int .i64 1) ∧ w.grownBy w' none := by
  by_cases c1 : B < 0
  · clear h
    go_enter Try.func16, Try.ntmps16
    go_wp2
    go_ret
    exact ⟨rfl, gbAlloc _ _ _⟩
  · have c2 : 16 < B := by omega
    clear h
    go_enter Try.func16, Try.ntmps16
    go_wp2
    go_ret
    exact ⟨rfl, gbAlloc _ _ _⟩

set_option maxHeartbeats 400000 in
theorem check_at (A n : Int) (b m : Nat) (w : World) (hb : b ≤ 16) (hm : 2 ^ b = m) (h : ¬ (0 ≤ A ∧ A + (m : Int) ≤ 65536)) :
    Calls Try.prog 16 #[sp A b, .int .i64 n] w fun e w' => e = .returned (.int .i64 1) ∧ w.grownBy w' none := by
  have hp := M.pow_le16 b hb
  have HL := fun w => length_any A b m w hb hm
  rw [hm] at hp
  clear hm
  obtain ⟨c0, c1⟩ := (Box.made w A b).all
  have z0 : (0 : Int) ≤ (b : Int) := by omega
  have z1 : (b : Int) ≤ 16 := by omega
  by_cases k1 : A < 0
  · have hd : decide (A < 0) = true := by simpa using k1
    clear h
    go_enter Try.func16, Try.ntmps16
    go_wp2
    refine wp_region_grown (by kernel_rfl) (by kernel_rfl) fun _ => ?_
    repeat (go_big_quiet_step ((go_at_call 26; with_reducible exact callsGr (HL _))))
    refine wpQuiet_nil ?_
    rintro _ ⟨⟨w1, g1⟩, rfl⟩
    go_wp2
    go_ret
    exact ⟨rfl, gbTrans (gbAlloc _ _ _) g1⟩
  · have hd : decide (A < 0) = false := by simpa using k1
    have k2 : 65536 - (m : Int) < A := by omega
    clear h
    go_enter Try.func16, Try.ntmps16
    go_wp2
    refine wp_region_grown (by kernel_rfl) (by kernel_rfl) fun _ => ?_
    repeat (go_big_quiet_step ((go_at_call 26; with_reducible exact callsGr (HL _))))
    refine wpQuiet_nil ?_
    rintro _ ⟨⟨w1, g1⟩, rfl⟩
    go_wp2
    go_ret
    exact ⟨rfl, gbTrans (gbAlloc _ _ _) g1⟩

set_option maxHeartbeats 800000 in
theorem check_align (a : Nat) (n : Int) (b m r : Nat) (w : World) (hb : b ≤ 16) (hm : 2 ^ b = m) (h : a + m ≤ 65536) (hr : (a : Int) % (m : Int) = (r : Int)) (hr0 : r ≠ 0) :
    Calls Try.prog 16 #[sp a b, .int .i64 n] w fun e w' => e = .returned (.int .i64 9) ∧ w.grownBy w' none := by
  have hp := M.pow_le16 b hb
  have HL := fun w => length_any a b m w hb hm
  rw [hm] at hp
  clear hm
  have B0 := Box.made w a b
  obtain ⟨c0, c1⟩ := B0.all
  have z0 : (0 : Int) ≤ (b : Int) := by omega
  have z1 : (b : Int) ≤ 16 := by omega
  have hd : decide ((a : Int) < 0) = false := by simp
  have k2 : ¬ 65536 - (m : Int) < (a : Int) := by omega
  have k3 : ¬ (r : Int) = 0 := by omega
  go_enter Try.func16, Try.ntmps16
  go_wp2
  refine wp_region_grown (by kernel_rfl) (by kernel_rfl) fun _ => ?_
  repeat (go_big_quiet_step ((go_at_call 26; with_reducible exact callsGr (HL _))))
  refine wpQuiet_nil ?_
  rintro _ ⟨⟨w1, g1⟩, rfl⟩
  go_wp2
  obtain ⟨d0, d1⟩ := (B0.kept g1).all
  refine wp_region_grown (by kernel_rfl) (by kernel_rfl) fun _ => ?_
  repeat (go_big_quiet_step ((go_at_call 26; with_reducible exact callsGr (HL _))))
  refine wpQuiet_nil ?_
  rintro _ ⟨⟨w2, g2⟩, rfl⟩
  go_wp2
  go_ret
  exact ⟨rfl, gbTrans (gbTrans (gbAlloc _ _ _) g1) g2⟩

set_option maxHeartbeats 800000 in
theorem check_tail (a : Nat) (n : Int) (b m : Nat) (w : World) (hb : b ≤ 16) (hm : 2 ^ b = m) (h : a + m ≤ 65536) (hr : (a : Int) % (m : Int) = 0) :
    Calls Try.prog 16 #[sp a b, .int .i64 n] w fun e w' => e = .returned (.int .i64 (if n < (a : Int) + (m : Int) then 7 else 0)) ∧ w.grownBy w' none := by
  have hp := M.pow_le16 b hb
  have HL := fun w => length_any a b m w hb hm
  have HE := fun w => end_any a b m w hb hm (by omega) (by omega)
  rw [hm] at hp
  clear hm
  have B0 := Box.made w a b
  obtain ⟨c0, c1⟩ := B0.all
  have z0 : (0 : Int) ≤ (b : Int) := by omega
  have z1 : (b : Int) ≤ 16 := by omega
  have hd : decide ((a : Int) < 0) = false := by simp
  have k2 : ¬ 65536 - (m : Int) < (a : Int) := by omega
  go_enter Try.func16, Try.ntmps16
  go_wp2
  refine wp_region_grown (by kernel_rfl) (by kernel_rfl) fun _ => ?_
  repeat (go_big_quiet_step ((go_at_call 26; with_reducible exact callsGr (HL _))))
  refine wpQuiet_nil ?_
  rintro _ ⟨⟨w1, g1⟩, rfl⟩
  go_wp2
  obtain ⟨d0, d1⟩ := (B0.kept g1).all
  refine wp_region_grown (by kernel_rfl) (by kernel_rfl) fun _ => ?_
  repeat (go_big_quiet_step ((go_at_call 26; with_reducible exact callsGr (HL _))))
  refine wpQuiet_nil ?_
  rintro _ ⟨⟨w2, g2⟩, rfl⟩
  have B2 := (B0.kept g1).kept g2
  have e0 := B2.at0
  have e1 := B2.at1
  by_cases hc : n < (a : Int) + (m : Int)
  all_goals
    go_wp2_with fail
    refine (HE _).mono ?_
    rintro e w3 ⟨rfl, g3⟩
    go_wp2
    go_ret
    exact ⟨ret_int (by simp), gbTrans (gbTrans (gbTrans (gbAlloc _ _ _) g1) g2) g3⟩

theorem check_any (A B n : Int) (w : World) :
    Calls Try.prog 16 #[sp A B, .int .i64 n] w fun e w' => e = .returned (.int .i64 (M.chk A B n)) ∧ w.grownBy w' none := by
  rcases M.ways A B with ⟨h, k⟩ | ⟨b, m, rfl, hb, hm, h, k⟩ | ⟨a, b, m, rfl, rfl, hb, hm, h, hpw, k, ⟨hr, k2⟩ | ⟨r, hr, hr0, k2⟩⟩
  · have e : M.chk A B n = 1 := by unfold M.chk; rw [k]; rfl
    rw [e]; exact check_bits A B n w h
  · have e : M.chk A b n = 1 := by unfold M.chk; rw [k]; rfl
    rw [e]; exact check_at A n b m w hb hm h
  · have e : M.chk a b n = if n < (a : Int) + (m : Int) then 7 else 0 := by unfold M.chk; rw [k, k2, hpw]; rfl
    rw [e]; exact check_tail a n b m w hb hm h hr
  · have e : M.chk a b n = 9 := by unfold M.chk; rw [k, k2]; rfl
    rw [e]; exact check_align a n b m r w hb hm h hr hr0

theorem chk_right {A B : Int} : M.chk A B 65536 = 0 ↔ M.rgt A B = true := by
  unfold M.chk
  cases k2 : M.rgt A B
  · cases k1 : M.rng A B <;> simp
  · have k1 := M.rgt_rng k2
    have := M.rng_iff.1 k1
    rw [k1, if_pos rfl, if_pos rfl, if_neg (by omega)]; simp

set_option maxHeartbeats 400000 in
theorem right_is (A B : Int) (v : Bool) (h : M.rgt A B = v) (w : World) :
    Calls Try.prog 29 #[sp A B] w fun e w' => e = .returned (.bool v) ∧ w.grownBy w' none := by
  obtain ⟨c, hc⟩ : ∃ c, M.chk A B 65536 = c := ⟨_, rfl⟩
  have HC := fun w => check_any A B 65536 w
  rw [hc] at HC
  have hv : decide (c = 0) = v := by
    rw [← h, ← hc]
    cases e : M.rgt A B
    · simpa [e] using chk_right (A := A) (B := B)
    · simpa [e] using chk_right (A := A) (B := B)
  clear h hc
  go_enter Try.func29, Try.ntmps29
  go_wp2_with fail
  refine (HC _).mono ?_
  rintro e w1 ⟨rfl, g1⟩
  go_wp2
  go_ret
  exact ⟨ret_bool hv, gbTrans (gbAlloc _ _ _) g1⟩

end Go.Proofs.Ytadllapdhdjpbaa
