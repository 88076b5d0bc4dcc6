/-
  THE CONTRACTS of the document's answer (donjonref03): Right, End, Check, Has, In, Apart: the same plain functions as package span's.
-/
import Derived.Test.YtadllapdhdjpbaaTells
namespace Go.Proofs.Ytadllapdhdjpbaa
open Go.RowKit

set_option maxHeartbeats 800000 in
theorem ranges_is (A B : Int) (v : Bool) (h : M.rng A B = v) (w : World) :
    Calls Try.prog 28 #[sp A B] w fun e w' => e = .returned (.bool v) ∧ w.grownBy w' none := by
  subst h
  obtain ⟨c0, c1⟩ := (Box.made w A B).all
  rcases M.ways A B with ⟨h, k⟩ | ⟨b, m, rfl, hb, hm, h, k⟩ | ⟨a, b, m, rfl, rfl, hb, hm, h, hpw, k, _⟩
  · rw [k]
    clear k
    by_cases k1 : 0 ≤ B
    · have d1 : decide (0 ≤ B) = true := decide_eq_true k1
      have d2 : decide (B ≤ 16) = false := decide_eq_false (by omega)
      clear h
      go_enter Try.func28, Try.ntmps28
      go_wp2
      refine wp_region_grown (by kernel_rfl) (by kernel_rfl) fun _ => ?_
      repeat (go_big_quiet_step (fail))
      refine wpQuiet_nil ?_
      rintro _ ⟨⟨w1, g1⟩, rfl⟩
      go_wp2
      go_ret
      exact ⟨rfl, gbTrans (gbAlloc _ _ _) g1⟩
    · have d1 : decide (0 ≤ B) = false := decide_eq_false k1
      clear h
      go_enter Try.func28, Try.ntmps28
      go_wp2
      refine wp_region_grown (by kernel_rfl) (by kernel_rfl) fun _ => ?_
      repeat (go_big_quiet_step (fail))
      refine wpQuiet_nil ?_
      rintro _ ⟨⟨w1, g1⟩, rfl⟩
      go_wp2
      go_ret
      exact ⟨rfl, gbTrans (gbAlloc _ _ _) g1⟩
  · rw [k]
    clear k
    have hp := M.pow_le16 b hb
    have h2 := M.shl_val b m hb hm
    rw [hm] at hp
    have d1 : decide ((0 : Int) ≤ (b : Int)) = true := decide_eq_true (by omega)
    have d2 : decide ((b : Int) ≤ 16) = true := decide_eq_true (by omega)
    clear hm
    by_cases k1 : 0 ≤ A
    · have d3 : decide (0 ≤ A) = true := decide_eq_true k1
      have d4 : decide (A ≤ 65536 - (m : Int)) = false := decide_eq_false (by omega)
      clear h
      go_enter Try.func28, Try.ntmps28
      go_wp2
      refine wp_region_grown (by kernel_rfl) (by kernel_rfl) fun _ => ?_
      repeat (go_big_quiet_step (fail))
      refine wpQuiet_nil ?_
      rintro _ ⟨⟨w1, g1⟩, rfl⟩
      go_wp2
      go_ret
      exact ⟨rfl, gbTrans (gbAlloc _ _ _) g1⟩
    · have d3 : decide (0 ≤ A) = false := decide_eq_false k1
      clear h
      go_enter Try.func28, Try.ntmps28
      go_wp2
      refine wp_region_grown (by kernel_rfl) (by kernel_rfl) fun _ => ?_
      repeat (go_big_quiet_step (fail))
      refine wpQuiet_nil ?_
      rintro _ ⟨⟨w1, g1⟩, rfl⟩
      go_wp2
      go_ret
      exact ⟨rfl, gbTrans (gbAlloc _ _ _) g1⟩
  · rw [k]
    clear k hpw
    have hp := M.pow_le16 b hb
    have h2 := M.shl_val b m hb hm
    rw [hm] at hp
    have d1 : decide ((0 : Int) ≤ (b : Int)) = true := decide_eq_true (by omega)
    have d2 : decide ((b : Int) ≤ 16) = true := decide_eq_true (by omega)
    have d3 : decide ((0 : Int) ≤ (a : Int)) = true := decide_eq_true (by omega)
    have k2 : (a : Int) ≤ 65536 - (m : Int) := by omega
    clear hm
    go_enter Try.func28, Try.ntmps28
    go_wp2
    refine wp_region_grown (by kernel_rfl) (by kernel_rfl) fun _ => ?_
    repeat (go_big_quiet_step (fail))
    refine wpQuiet_nil ?_
    rintro _ ⟨⟨w1, g1⟩, rfl⟩
    go_wp2
    go_ret
    exact ⟨rfl, gbTrans (gbAlloc _ _ _) g1⟩

set_option maxHeartbeats 800000 in
theorem rright_is (A B : Int) (v : Bool) (h : M.rgt A B = v) (w : World) :
    Calls Try.prog 17 #[sp A B] w fun e w' => e = .returned (.bool v) ∧ w.grownBy w' none := by
  subst h
  obtain ⟨c0, c1⟩ := (Box.made w A B).all
  cases k : M.rng A B
  · rw [M.rgt_no k]
    have HR := fun w => ranges_is A B false k w
    clear k
    go_enter Try.func17, Try.ntmps17
    go_wp2
    refine wp_region_grown (by kernel_rfl) (by kernel_rfl) fun _ => ?_
    repeat (go_big_quiet_step ((go_at_call 28; with_reducible exact callsGr (HR _))))
    refine wpQuiet_nil ?_
    rintro _ ⟨⟨w1, g1⟩, rfl⟩
    go_wp2
    go_ret
    exact ⟨rfl, gbTrans (gbAlloc _ _ _) g1⟩
  · have HR := fun w => ranges_is A B true k w
    have k2 := M.rng_nat k
    have e : M.rgt A B = decide (A % M.pw B = 0) := by unfold M.rgt; rw [k]; rfl
    obtain ⟨a, b, m, rfl, rfl, hb, hm, hpw, m1, m2, m3⟩ := k2
    rw [e, hpw]
    have h2 := M.shl_val b m hb hm
    clear k e hpw hm
    go_enter Try.func17, Try.ntmps17
    go_wp2
    refine wp_region_grown (by kernel_rfl) (by kernel_rfl) fun _ => ?_
    repeat (go_big_quiet_step ((go_at_call 28; with_reducible exact callsGr (HR _))))
    refine wpQuiet_nil ?_
    rintro _ ⟨⟨w1, g1⟩, rfl⟩
    go_wp2
    go_ret
    exact ⟨rfl, gbTrans (gbAlloc _ _ _) g1⟩

set_option maxHeartbeats 400000 in
theorem rend_any (A : Int) (b m : Nat) (w : World) (hb : b ≤ 16) (hm : 2 ^ b = m) (h0 : 0 ≤ A) (h1 : A ≤ 65536) :
    Calls Try.prog 25 #[sp A b] w fun e w' => e = .returned (.int .i64 (A + (m : Int))) ∧ w.grownBy w' none := by
  have hp := M.pow_le16 b hb
  have h2 := M.shl_val b m hb hm
  rw [hm] at hp
  clear hm
  obtain ⟨c0, c1⟩ := (Box.made w A b).all
  go_enter Try.func25, Try.ntmps25
  go_wp2
  refine wp_region_grown (by kernel_rfl) (by kernel_rfl) fun _ => ?_
  repeat (go_big_quiet_step (fail))
  refine wpQuiet_nil ?_
  rintro _ ⟨x, rfl⟩
  go_wp2
  go_ret
  exact ⟨rfl, gbTrans (gbAlloc _ _ _) x.g⟩

end Go.Proofs.Ytadllapdhdjpbaa
