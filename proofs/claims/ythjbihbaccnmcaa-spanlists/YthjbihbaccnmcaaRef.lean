/-
  THE CONTRACTS of the document's answer (donjonref03): Right, End, Check, Has, In, Apart: the same plain functions as package span's.
-/
import Derived.Test.YthjbihbaccnmcaaTells
namespace Go.Proofs.Ythjbihbaccnmcaa
open Go.RowKit

set_option maxHeartbeats 800000 in
theorem ranges_is (A B : Int) (v : Bool) (h : M.rng A B = v) (w : World) :
    Calls Try.prog 29 #[sp A B] w fun e w' => e = .returned (.bool v) ∧ w.grownBy w' none := by
  subst h
  obtain ⟨c0, c1⟩ := (Box.made w A B).all
  rcases M.ways A B with ⟨h, k⟩ | ⟨b, m, rfl, hb, hm, h, k⟩ | ⟨a, b, m, rfl, rfl, hb, hm, h, hpw, k, _⟩
  · rw [k]
    clear k
    by_cases k1 : 0 ≤ B
    · have d1 : decide (0 ≤ B) = true := decide_eq_true k1
      have d2 : decide (B ≤ 16) = false := decide_eq_false (by omega)
      clear h
      go_enter Try.func29, Try.ntmps29
      go_wp2
      refine wp_region_grown (by kernel_rfl) (by kernel_rfl) fun _ => ?_
      repeat (go_big_quiet_step (fail))
      refine wpQuiet_nil ?_
      rintro _ ⟨⟨w1, g1⟩, rfl⟩
      go_wp2
      go_ret
      exact ⟨rfl, gbTrans (gbAlloc _ _ _) g1⟩
    · have d1 : decide (0 ≤ B) = false := decide_eq_false k1
      clear h
      go_enter Try.func29, Try.ntmps29
      go_wp2
      refine wp_region_grown (by kernel_rfl) (by kernel_rfl) fun _ => ?_
      repeat (go_big_quiet_step (fail))
      refine wpQuiet_nil ?_
      rintro _ ⟨⟨w1, g1⟩, rfl⟩
      go_wp2
      go_ret
      exact ⟨rfl, gbTrans (gbAlloc _ _ _) g1⟩
  · rw [k]
    clear k
    have hp := M.pow_le16 b hb
    have h2 := M.shl_val b m hb hm
    rw [hm] at hp
    have d1 : decide ((0 : Int) ≤ (b : Int)) = true := decide_eq_true (by omega)
    have d2 : decide ((b : Int) ≤ 16) = true := decide_eq_true (by omega)
    clear hm
    by_cases k1 : 0 ≤ A
    · have d3 : decide (0 ≤ A) = true := decide_eq_true k1
      have d4 : decide (A ≤ 65536 - (m : Int)) = false := decide_eq_false (by omega)
      clear h
      go_enter Try.func29, Try.ntmps29
      go_wp2
      refine wp_region_grown (by kernel_rfl) (by kernel_rfl) fun _ => ?_
      repeat (go_big_quiet_step (fail))
      refine wpQuiet_nil ?_
      rintro _ ⟨⟨w1, g1⟩, rfl⟩
      go_wp2
      go_ret
      exact ⟨rfl, gbTrans (gbAlloc _ _ _) g1⟩
    · have d3 : decide (0 ≤ A) = false := decide_eq_false k1
      clear h
      go_enter Try.func29, Try.ntmps29
      go_wp2
      refine wp_region_grown (by kernel_rfl) (by kernel_rfl) fun _ => ?_
      repeat (go_big_quiet_step (fail))
      refine wpQuiet_nil ?_
      rintro _ ⟨⟨w1, g1⟩, rfl⟩
      go_wp2
      go_ret
      exact ⟨rfl, gbTrans (gbAlloc _ _ _) g1⟩
  · rw [k]
    clear k hpw
    have hp := M.pow_le16 b hb
    have h2 := M.shl_val b m hb hm
    rw [hm] at hp
    have d1 : decide ((0 : Int) ≤ (b : Int)) = true := decide_eq_true (by omega)
    have d2 : decide ((b : Int) ≤ 16) = true := decide_eq_true (by omega)
    have d3 : decide ((0 : Int) ≤ (a : Int)) = true := decide_eq_true (by omega)
    have k2 : (a : Int) ≤ 65536 - (m : Int) := by omega
    clear hm
    go_enter Try.func29, Try.ntmps29
    go_wp2
    refine wp_region_grown (by kernel_rfl) (by kernel_rfl) fun _ => ?_
    repeat (go_big_quiet_step (fail))
    refine wpQuiet_nil ?_
    rintro _ ⟨⟨w1, g1⟩, rfl⟩
    go_wp2
    go_ret
    exact ⟨rfl, gbTrans (gbAlloc _ _ _) g1⟩

set_option maxHeartbeats 800000 in
theorem rright_is (A B : Int) (v : Bool) (h : M.rgt A B = v) (w : World) :
    Calls Try.prog 25 #[sp A B] w fun e w' => e = .returned (.bool v) ∧ w.grownBy w' none := by
  subst h
  obtain ⟨c0, c1⟩ := (Box.made w A B).all
  cases k : M.rng A B
  · rw [M.rgt_no k]
    have HR := fun w => ranges_is A B false k w
    clear k
    go_enter Try.func25, Try.ntmps25
    go_wp2
    refine wp_region_grown (by kernel_rfl) (by kernel_rfl) fun _ => ?_
    repeat (go_big_quiet_step ((go_at_call 29; with_reducible exact callsGr (HR _))))
    refine wpQuiet_nil ?_
    rintro _ ⟨⟨w1, g1⟩, rfl⟩
    go_wp2
    go_ret
    exact ⟨rfl, gbTrans (gbAlloc _ _ _) g1⟩
  · have HR := fun w => ranges_is A B true k w
    have k2 := M.rng_nat k
    have e : M.rgt A B = decide (A % M.pw B = 0) := by unfold M.rgt; rw [k]; rfl
    obtain ⟨a, b, m, rfl, rfl, hb, hm, hpw, m1, m2, m3⟩ := k2
    rw [e, hpw]
    have h2 := M.shl_val b m hb hm
    clear k e hpw hm
    go_enter Try.func25, Try.ntmps25
    go_wp2
    refine wp_region_grown (by kernel_rfl) (by kernel_rfl) fun _ => ?_
    repeat (go_big_quiet_step ((go_at_call 29; with_reducible exact callsGr (HR _))))
    refine wpQuiet_nil ?_
    rintro _ ⟨⟨w1, g1⟩, rfl⟩
    go_wp2
    go_ret
    exact ⟨rfl, gbTrans (gbAlloc _ _ _) g1⟩

set_option maxHeartbeats 400000 in
theorem rend_any (A : Int) (b m : Nat) (w : World) (hb : b ≤ 16) (hm : 2 ^ b = m) (h0 : 0 ≤ A) (h1 : A ≤ 65536) :
    Calls Try.prog 30 #[sp A b] w fun e w' => e = .returned (.int .i64 (A + (m : Int))) ∧ w.grownBy w' none := by
  have hp := M.pow_le16 b hb
  have h2 := M.shl_val b m hb hm
  rw [hm] at hp
  clear hm
  obtain ⟨c0, c1⟩ := (Box.made w A b).all
  go_enter Try.func30, Try.ntmps30
  go_wp2
  refine wp_region_grown (by kernel_rfl) (by kernel_rfl) fun _ => ?_
  repeat (go_big_quiet_step (fail))
  refine wpQuiet_nil ?_
  rintro _ ⟨x, rfl⟩
  go_wp2
  go_ret
  exact ⟨rfl, gbTrans (gbAlloc _ _ _) x.g⟩

set_option maxHeartbeats 800000 in
theorem rcheck_any (A B n : Int) (w : World) :
    Calls Try.prog 12 #[sp A B, .int .i64 n] w fun e w' => e = .returned (.int .i64 (M.chk A B n)) ∧ w.grownBy w' none := by
  have B0 := Box.made w A B
  cases k : M.rng A B
  · have HR := fun w => ranges_is A B false k w
    have e : M.chk A B n = 1 := by unfold M.chk; rw [k]; rfl
    rw [e]
    clear k e
    go_enter Try.func12, Try.ntmps12
    go_wp2_with fail
    refine (HR _).mono ?_
    rintro e w1 ⟨rfl, g1⟩
    go_wp2
    go_ret
    exact ⟨rfl, gbTrans (gbAlloc _ _ _) g1⟩
  · have HR := fun w => ranges_is A B true k w
    cases k2 : M.rgt A B
    · have HS := fun w => rright_is A B false k2 w
      have e : M.chk A B n = 9 := by unfold M.chk; rw [k, k2]; rfl
      rw [e]
      clear k k2 e
      go_enter Try.func12, Try.ntmps12
      go_wp2_with fail
      refine (HR _).mono ?_
      rintro e w1 ⟨rfl, g1⟩
      have B1 := B0.kept g1
      have e0 := B1.at0
      have e1 := B1.at1
      go_wp2_with fail
      refine (HS _).mono ?_
      rintro e w2 ⟨rfl, g2⟩
      go_wp2
      go_ret
      exact ⟨rfl, gbTrans (gbTrans (gbAlloc _ _ _) g1) g2⟩
    · have HS := fun w => rright_is A B true k2 w
      obtain ⟨a, b, m, rfl, rfl, hb, hm, hpw, m1, m2, m3, hr⟩ := M.rgt_nat k2
      have HE := fun w => rend_any a b m w hb hm (by omega) (by omega)
      have e : M.chk a b n = if n < (a : Int) + (m : Int) then 7 else 0 := by unfold M.chk; rw [k, k2, hpw]; rfl
      rw [e]
      clear k k2 e hm hpw hr
      by_cases hc : n < (a : Int) + (m : Int)
      all_goals
        go_enter Try.func12, Try.ntmps12
        go_wp2_with fail
        refine (HR _).mono ?_
        rintro e w1 ⟨rfl, g1⟩
        have B1 := B0.kept g1
        have e0 := B1.at0
        have e1 := B1.at1
        go_wp2_with fail
        refine (HS _).mono ?_
        rintro e w2 ⟨rfl, g2⟩
        have B2 := B1.kept g2
        have f0 := B2.at0
        have f1 := B2.at1
        go_wp2_with fail
        refine (HE _).mono ?_
        rintro e w3 ⟨rfl, g3⟩
        go_wp2
        go_ret
        exact ⟨ret_int (by simp), gbTrans (gbTrans (gbTrans (gbAlloc _ _ _) g1) g2) g3⟩

set_option maxHeartbeats 800000 in
theorem rhas_any (A B x : Int) (w : World) :
    Calls Try.prog 14 #[sp A B, .int .i64 x] w fun e w' => e = .returned (.bool (M.has A B x)) ∧ w.grownBy w' none := by
  have B0 := Box.made w A B
  cases h1 : M.rgt A B
  · have HR := fun w => rright_is A B false h1 w
    have e : M.has A B x = false := by unfold M.has; rw [h1]; rfl
    rw [e]
    clear h1 e
    go_enter Try.func14, Try.ntmps14
    go_wp2_with fail
    refine (HR _).mono ?_
    rintro e w1 ⟨rfl, g1⟩
    go_wp2
    go_ret
    exact ⟨rfl, gbTrans (gbAlloc _ _ _) g1⟩
  · have HR := fun w => rright_is A B true h1 w
    obtain ⟨a, b, m, rfl, rfl, hb, hm, hpw, m1, m2, m3, hr⟩ := M.rgt_nat h1
    have HE := fun w => rend_any a b m w hb hm (by omega) (by omega)
    have e : M.has a b x = (decide ((a : Int) ≤ x) && decide (x < (a : Int) + (m : Int))) := by unfold M.has; rw [h1, hpw]; rfl
    rw [e]
    clear h1 e hm hpw hr
    by_cases c1 : (a : Int) ≤ x
    · rw [decide_eq_true c1, Bool.true_and]
      go_enter Try.func14, Try.ntmps14
      go_wp2_with fail
      refine (HR _).mono ?_
      rintro e w1 ⟨rfl, g1⟩
      have B1 := B0.kept g1
      have e0 := B1.at0
      have e1 := B1.at1
      go_wp2_with fail
      refine (HE _).mono ?_
      rintro e w2 ⟨rfl, g2⟩
      go_wp2
      go_ret
      exact ⟨rfl, gbTrans (gbTrans (gbAlloc _ _ _) g1) g2⟩
    · rw [decide_eq_false c1, Bool.false_and]
      go_enter Try.func14, Try.ntmps14
      go_wp2_with fail
      refine (HR _).mono ?_
      rintro e w1 ⟨rfl, g1⟩
      have B1 := B0.kept g1
      have e0 := B1.at0
      have e1 := B1.at1
      go_wp2
      go_ret
      exact ⟨rfl, gbTrans (gbAlloc _ _ _) g1⟩

set_option maxHeartbeats 800000 in
theorem rin_any (A B C D : Int) (w : World) :
    Calls Try.prog 16 #[sp A B, sp C D] w fun e w' => e = .returned (.bool (M.inn A B C D)) ∧ w.grownBy w' none := by
  have BB := boxTwo w A B C D
  obtain ⟨c0, c1⟩ := BB.1.all
  obtain ⟨d0, d1⟩ := BB.2.all
  cases h1 : M.rgt A B
  · have HR := fun w => rright_is A B false h1 w
    have e : M.inn A B C D = false := by unfold M.inn; rw [h1]; rfl
    rw [e]
    clear h1 e
    go_enter Try.func16, Try.ntmps16
    go_wp2
    refine wp_region_grown (by kernel_rfl) (by kernel_rfl) fun _ => ?_
    repeat (go_big_quiet_step ((go_at_call 25; with_reducible exact callsGr (HR _))))
    refine wpQuiet_nil ?_
    rintro _ ⟨⟨w1, g1⟩, rfl⟩
    go_wp2
    go_ret
    exact ⟨rfl, gbTrans (gbTwo _ _ _ _) g1⟩
  · have HR := fun w => rright_is A B true h1 w
    obtain ⟨a, b, m, rfl, rfl, hb, hm, hpw, m1, m2, m3, hr⟩ := M.rgt_nat h1
    have HE := fun w => rend_any a b m w hb hm (by omega) (by omega)
    cases h2 : M.rgt C D
    · have HS := fun w => rright_is C D false h2 w
      have e : M.inn a b C D = false := by unfold M.inn; rw [h1, h2]; rfl
      rw [e]
      clear h1 h2 e hm hpw hr HE
      go_enter Try.func16, Try.ntmps16
      go_wp2
      refine wp_region_grown (by kernel_rfl) (by kernel_rfl) fun _ => ?_
      repeat (go_big_quiet_step ((go_at_call 25; first | with_reducible exact callsGr (HR _) | with_reducible exact callsGr (HS _))))
      refine wpQuiet_nil ?_
      rintro _ ⟨⟨w1, g1⟩, rfl⟩
      go_wp2
      go_ret
      exact ⟨rfl, gbTrans (gbTwo _ _ _ _) g1⟩
    · have HS := fun w => rright_is C D true h2 w
      obtain ⟨c, d, n, rfl, rfl, hd, hn, hpn, n1, n2, n3, hs⟩ := M.rgt_nat h2
      have HF := fun w => rend_any c d n w hd hn (by omega) (by omega)
      have e : M.inn a b c d = (decide ((c : Int) ≤ (a : Int)) && decide ((a : Int) + (m : Int) ≤ (c : Int) + (n : Int))) := by unfold M.inn; rw [h1, h2, hpw, hpn]; rfl
      rw [e]
      clear h1 h2 e hm hpw hr hn hpn hs
      by_cases k : c ≤ a
      · have k' : decide ((c : Int) ≤ (a : Int)) = true := by simpa using k
        rw [k', Bool.true_and]
        go_enter Try.func16, Try.ntmps16
        go_wp2
        refine wp_region_grown (by kernel_rfl) (by kernel_rfl) fun _ => ?_
        repeat (go_big_quiet_step ((first | (go_at_call 25; first | with_reducible exact callsGr (HR _) | with_reducible exact callsGr (HS _)) | (go_at_call 30; first | with_reducible exact callsGr (HE _) | with_reducible exact callsGr (HF _)))))
        refine wpQuiet_nil ?_
        rintro _ ⟨⟨w1, g1⟩, rfl⟩
        go_wp2
        go_ret
        exact ⟨rfl, gbTrans (gbTwo _ _ _ _) g1⟩
      · have k' : decide ((c : Int) ≤ (a : Int)) = false := by simpa using k
        rw [k', Bool.false_and]
        go_enter Try.func16, Try.ntmps16
        go_wp2
        refine wp_region_grown (by kernel_rfl) (by kernel_rfl) fun _ => ?_
        repeat (go_big_quiet_step ((first | (go_at_call 25; first | with_reducible exact callsGr (HR _) | with_reducible exact callsGr (HS _)) | (go_at_call 30; first | with_reducible exact callsGr (HE _) | with_reducible exact callsGr (HF _)))))
        refine wpQuiet_nil ?_
        rintro _ ⟨⟨w1, g1⟩, rfl⟩
        go_wp2
        go_ret
        exact ⟨rfl, gbTrans (gbTwo _ _ _ _) g1⟩

set_option maxHeartbeats 800000 in
theorem rapart_any (A B C D : Int) (w : World) :
    Calls Try.prog 18 #[sp A B, sp C D] w fun e w' => e = .returned (.bool (M.apt A B C D)) ∧ w.grownBy w' none := by
  have BB := boxTwo w A B C D
  obtain ⟨c0, c1⟩ := BB.1.all
  obtain ⟨d0, d1⟩ := BB.2.all
  cases h1 : M.rgt A B
  · have HR := fun w => rright_is A B false h1 w
    have e : M.apt A B C D = false := by unfold M.apt; rw [h1]; rfl
    rw [e]
    clear h1 e
    go_enter Try.func18, Try.ntmps18
    go_wp2
    refine wp_region_grown (by kernel_rfl) (by kernel_rfl) fun _ => ?_
    repeat (go_big_quiet_step ((go_at_call 25; with_reducible exact callsGr (HR _))))
    refine wpQuiet_nil ?_
    rintro _ ⟨⟨w1, g1⟩, rfl⟩
    go_wp2
    go_ret
    exact ⟨rfl, gbTrans (gbTwo _ _ _ _) g1⟩
  · have HR := fun w => rright_is A B true h1 w
    obtain ⟨a, b, m, rfl, rfl, hb, hm, hpw, m1, m2, m3, hr⟩ := M.rgt_nat h1
    have HE := fun w => rend_any a b m w hb hm (by omega) (by omega)
    cases h2 : M.rgt C D
    · have HS := fun w => rright_is C D false h2 w
      have e : M.apt a b C D = false := by unfold M.apt; rw [h1, h2]; rfl
      rw [e]
      clear h1 h2 e hm hpw hr HE
      go_enter Try.func18, Try.ntmps18
      go_wp2
      refine wp_region_grown (by kernel_rfl) (by kernel_rfl) fun _ => ?_
      repeat (go_big_quiet_step ((go_at_call 25; first | with_reducible exact callsGr (HR _) | with_reducible exact callsGr (HS _))))
      refine wpQuiet_nil ?_
      rintro _ ⟨⟨w1, g1⟩, rfl⟩
      go_wp2
      go_ret
      exact ⟨rfl, gbTrans (gbTwo _ _ _ _) g1⟩
    · have HS := fun w => rright_is C D true h2 w
      obtain ⟨c, d, n, rfl, rfl, hd, hn, hpn, n1, n2, n3, hs⟩ := M.rgt_nat h2
      have HF := fun w => rend_any c d n w hd hn (by omega) (by omega)
      have e : M.apt a b c d = (decide ((a : Int) + (m : Int) ≤ (c : Int)) || decide ((c : Int) + (n : Int) ≤ (a : Int))) := by unfold M.apt; rw [h1, h2, hpw, hpn]; rfl
      rw [e]
      clear h1 h2 e hm hpw hr hn hpn hs
      by_cases k : (a : Int) + (m : Int) ≤ (c : Int)
      · have k' : decide ((a : Int) + (m : Int) ≤ (c : Int)) = true := by simpa using k
        rw [k', Bool.true_or]
        go_enter Try.func18, Try.ntmps18
        go_wp2
        refine wp_region_grown (by kernel_rfl) (by kernel_rfl) fun _ => ?_
        repeat (go_big_quiet_step ((first | (go_at_call 25; first | with_reducible exact callsGr (HR _) | with_reducible exact callsGr (HS _)) | (go_at_call 30; first | with_reducible exact callsGr (HE _) | with_reducible exact callsGr (HF _)))))
        refine wpQuiet_nil ?_
        rintro _ ⟨⟨w1, g1⟩, rfl⟩
        go_wp2
        go_ret
        exact ⟨rfl, gbTrans (gbTwo _ _ _ _) g1⟩
      · have k' : decide ((a : Int) + (m : Int) ≤ (c : Int)) = false := by simpa using k
        rw [k', Bool.false_or]
        go_enter Try.func18, Try.ntmps18
        go_wp2
        refine wp_region_grown (by kernel_rfl) (by kernel_rfl) fun _ => ?_
        repeat (go_big_quiet_step ((first | (go_at_call 25; first | with_reducible exact callsGr (HR _) | with_reducible exact callsGr (HS _)) | (go_at_call 30; first | with_reducible exact callsGr (HE _) | with_reducible exact callsGr (HF _)))))
        refine wpQuiet_nil ?_
        rintro _ ⟨⟨w1, g1⟩, rfl⟩
        go_wp2
        go_ret
        exact ⟨rfl, gbTrans (gbTwo _ _ _ _) g1⟩

end Go.Proofs.Ythjbihbaccnmcaa
