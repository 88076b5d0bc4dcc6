/- Two fields that have no bit in common, put in either order, make the same word, and both together are got as one: the law BitsApart returns true for every input. No condition. -/
import Derived.Test.YtenakllafignmabRows
import Derived.WalkKit
import Derived.ProofKit
import Derived.OpenShut
import Derived.Test.YtenakllafignmabWorks
namespace Go.Proofs.Ytenakllafignmab.bitsApart
open Go.ChangeShapes Go.WideShapes Go.ChangeAt Go.RowKit
set_option linter.unusedVariables false

theorem own : ownKnob Try.prog.godebug = none := by kernel_rfl

theorem arg (a : Int) : ∃ U n : Nat, IntKind.u64.wrap a = (U : Int) ∧ 1 + (U : Int) % 32 = (n : Int) ∧ 1 ≤ n ∧ n ≤ 32 := by
  obtain ⟨U, hU, _⟩ := M.wrap_nat a
  have h1 : U % 32 < 32 := Nat.mod_lt _ (by decide)
  exact ⟨U, 1 + U % 32, hU, by omega, by omega, by omega⟩

theorem cut (n v : Nat) (h : n < 64) : ∃ P v' : Nat, IntKind.u64.wrap (2 ^ n) = (P : Int) ∧ (v : Int) % (P : Int) = (v' : Int) ∧ 1 ≤ P ∧ v' < 2 ^ n := by
  have h1 : 1 ≤ 2 ^ n := Nat.one_le_two_pow
  have h2 : 2 ^ n < 2 ^ 64 := Nat.pow_lt_pow_right (by omega) h
  refine ⟨2 ^ n, v % 2 ^ n, ?_, (Int.natCast_emod v (2 ^ n)).symm, h1, Nat.mod_lt _ (by omega)⟩
  rw [IntKind.wrap_u64, show ((2 : Int) ^ n) = ((2 ^ n : Nat) : Int) by simp]
  generalize 2 ^ n = P at h1 h2
  omega

set_option maxHeartbeats 1000000 in
theorem core (a1 a2 : Int) (U V W n m u0 v0 u v P Q X Y Z S : Nat) (w : World)
    (hU : IntKind.u64.wrap a1 = (U : Int)) (hV : IntKind.u64.wrap a2 = (V : Int)) (hn : 1 + (U : Int) % 32 = (n : Int)) (hm : 1 + (V : Int) % 32 = (m : Int))
    (b1 : 1 ≤ n) (b2 : n ≤ 32) (b3 : 1 ≤ m) (b4 : m ≤ 32)
    (hP : IntKind.u64.wrap (2 ^ n) = (P : Int)) (hu : (u0 : Int) % (P : Int) = (u : Int)) (hP1 : 1 ≤ P)
    (hQ : IntKind.u64.wrap (2 ^ m) = (Q : Int)) (hv : (v0 : Int) % (Q : Int) = (v : Int)) (hQ1 : 1 ≤ Q)
    (hS : IntKind.u64.wrap ((v : Int) * 2 ^ n) = (S : Int)) (hs : S + u < 18446744073709551616)
    (c1 : ∀ w, Calls Try.prog 9 #[.int .u64 W, .int .i64 0, .int .i64 n, .int .u64 u] w fun e w' => e = .returned (.tuple #[.int .u64 X, .int .i64 0]) ∧ ∃ q, w' = w.drewN q)
    (c2 : ∀ w, Calls Try.prog 9 #[.int .u64 X, .int .i64 n, .int .i64 m, .int .u64 v] w fun e w' => e = .returned (.tuple #[.int .u64 Z, .int .i64 0]) ∧ ∃ q, w' = w.drewN q)
    (c3 : ∀ w, Calls Try.prog 9 #[.int .u64 W, .int .i64 n, .int .i64 m, .int .u64 v] w fun e w' => e = .returned (.tuple #[.int .u64 Y, .int .i64 0]) ∧ ∃ q, w' = w.drewN q)
    (c4 : ∀ w, Calls Try.prog 9 #[.int .u64 Y, .int .i64 0, .int .i64 n, .int .u64 u] w fun e w' => e = .returned (.tuple #[.int .u64 Z, .int .i64 0]) ∧ ∃ q, w' = w.drewN q)
    (c5 : ∀ w, Calls Try.prog 8 #[.int .u64 Z, .int .i64 0, .int .i64 ((n : Int) + (m : Int))] w fun e w' => e = .returned (.tuple #[.int .u64 ((S : Int) + (u : Int)), .int .i64 0]) ∧ ∃ q, w' = w.drewN q) :
    Calls Try.prog 4 #[.int .u64 W, .int .i64 a1, .int .i64 a2, .int .u64 u0, .int .u64 v0] w fun e w' => e = .returned (.bool true) ∧ Grown w w' := by
  have C1 := hideIt c1
  have C2 := hideIt c2
  have C3 := hideIt c3
  have C4 := hideIt c4
  have C5 := hideIt c5
  clear c1 c2 c3 c4 c5
  go_enter Try.func4, Try.ntmps4
  go_wp2_with fail
  refine (works_any _).mono ?_
  rintro e w1 ⟨rfl, q, rfl⟩
  go_wp2_with fail
  clear hU hV hn hm
  go_quiet (fail)
  go_wp2_with fail
  clear hP hQ
  refine (C1.out _).mono ?_
  rintro e w1 ⟨rfl, q1, rfl⟩
  go_wp2_with fail
  refine (C2.out _).mono ?_
  rintro e w1 ⟨rfl, q2, rfl⟩
  go_wp2_with fail
  refine (C3.out _).mono ?_
  rintro e w1 ⟨rfl, q3, rfl⟩
  go_wp2_with fail
  refine (C4.out _).mono ?_
  rintro e w1 ⟨rfl, q4, rfl⟩
  go_wp2_with fail
  refine (C5.out _).mono ?_
  rintro e w1 ⟨rfl, q5, rfl⟩
  go_wp2
  go_ret
  exact ⟨rfl, Grown.refl w⟩

/-! ### STEP 1: THE WALK: the Go text returns true. 'Grown w w'': the world has at most new blocks (Derived/RowKit3.lean). Part the cases AHEAD of 'go_enter' where a test parts the walk; take each callee by a contract of your own. -/
theorem walk (a0 : Int) (a1 : Int) (a2 : Int) (a3 : Int) (a4 : Int) (w0 : (Lit.int .u64 a0).wf = true) (w1 : (Lit.int .i64 a1).wf = true) (w2 : (Lit.int .i64 a2).wf = true) (w3 : (Lit.int .u64 a3).wf = true) (w4 : (Lit.int .u64 a4).wf = true) (w : World) :
    Calls Try.prog 4 #[.int .u64 a0, .int .i64 a1, .int .i64 a2, .int .u64 a3, .int .u64 a4] w fun e w' => e = .returned (.bool true) ∧ Grown w w' := by
  obtain ⟨b0, c0⟩ := bounds_u64 w0
  obtain ⟨b3, c3⟩ := bounds_u64 w3
  obtain ⟨b4, c4⟩ := bounds_u64 w4
  obtain ⟨W, rfl⟩ := Int.eq_ofNat_of_zero_le b0
  obtain ⟨u0, rfl⟩ := Int.eq_ofNat_of_zero_le b3
  obtain ⟨v0, rfl⟩ := Int.eq_ofNat_of_zero_le b4
  have hW : W < 18446744073709551616 := by omega
  clear w0 w1 w2 w3 w4 b0 b3 b4 c0 c3 c4
  obtain ⟨U, n, hU, hn, n1, n2⟩ := arg a1
  obtain ⟨V, m, hV, hm, m1, m2⟩ := arg a2
  obtain ⟨P, u, hP, hu, hP1, ul⟩ := cut n u0 (by omega)
  obtain ⟨Q, v, hQ, hv, hQ1, vl⟩ := cut m v0 (by omega)
  have hnm : n + m ≤ 64 := by omega
  have x1 := M.putN_lt W 0 n u (by omega) ul
  have x2 := M.putN_lt W n m v hnm vl
  have x3 := M.putN_lt (M.putN W 0 n u) n m v hnm vl
  refine core a1 a2 U V W n m u0 v0 u v P Q (M.putN W 0 n u) (M.putN W n m v) (M.putN (M.putN W 0 n u) n m v) (v * 2 ^ n) w hU hV hn hm n1 n2 m1 m2 hP hu hP1 hQ hv hQ1 (M.shl_nat v n m hnm vl) (M.sum_lt v n m u hnm ul vl) (fun w => put_yes W 0 n u w hW n1 (by omega) ul) (fun w => put_yes (M.putN W 0 n u) n m v w x1 m1 hnm vl) (fun w => put_yes W n m v w hW m1 hnm vl) (fun w => ?_) (fun w => ?_)
  · have h := put_yes (M.putN W n m v) 0 n u w x2 n1 (by omega) ul
    rw [← M.put_comm W n m u v hW hnm ul vl] at h
    exact h
  · have h := get_yes (M.putN (M.putN W 0 n u) n m v) 0 (n + m) w x3 (by omega) (by omega)
    rw [M.get_both W n m u v hW hnm ul vl] at h
    rw [← Int.natCast_add, ← Int.natCast_add]
    exact h

/-! ### THE ROW's STEP: WRITTEN OUT: LEAVE IT -/
set_option maxRecDepth 100000 in
theorem lifted (os : Os) (started : os.Started) (H : Type) (enc : TypeId × Value → H) :
    ReturnsInHanded {} Try.checked os 4 .any (Rows.bitsApartSpec.pre6 enc Try.prog Try.f4 Rows.bitsApartRow.domain false) (Rows.bitsApartSpec.post enc Try.prog Try.f4 false true false false) := by
  refine returnsInHanded_of_change (C := Try.checked) own started (by kernel_rfl) Try.func4
    (ChangeSpec.witness6 (enc := enc) (C := Try.checked) false ⟨#[], #[.int .u64 0, .int .i64 0, .int .i64 0, .int .u64 0, .int .u64 0], []⟩ 8 (by kernel_rfl) (by kernel_rfl) (by kernel_rfl) (by kernel_rfl)) ?_
  intro W base args ds gs before hval0 hW hcnd _
  have hval : ∀ (j : Nat) t v, Try.f4.params[j]? = some t → args[j]? = some v → Value.okWide Try.prog W .any base t v := hval0
  have hW' := hW
  obtain ⟨p, q, hA0, hV, rfl, hfz, hnd⟩ := hW
  have hA : DataW.TrodAll enc Try.prog W 0 (fun _ => true) true Try.f4.params.toList args.toList ds p := hA0
  rw [Try.params4] at hA hval
  obtain ⟨v0, vs0, d0, ds0, p0, q0, hargs, rfl, rfl, h0, r0⟩ := trodAll_cons hA
  obtain ⟨v1, vs1, d1, ds1, p1, q1, rfl, rfl, rfl, h1, r1⟩ := trodAll_cons r0
  obtain ⟨v2, vs2, d2, ds2, p2, q2, rfl, rfl, rfl, h2, r2⟩ := trodAll_cons r1
  obtain ⟨v3, vs3, d3, ds3, p3, q3, rfl, rfl, rfl, h3, r3⟩ := trodAll_cons r2
  obtain ⟨v4, vs4, d4, ds4, p4, q4, rfl, rfl, rfl, h4, r4⟩ := trodAll_cons r3
  obtain ⟨rfl, rfl, rfl⟩ := trodAll_nil r4
  obtain rfl : args = #[v0, v1, v2, v3, v4] := by cases args; simp_all
  obtain ⟨rfl, rfl⟩ := trodVars_none hV
  obtain ⟨a0, rfl, rfl, rfl, w0⟩ := open_int Try.underlying22 (hval 0 22 v0 rfl rfl) h0
  obtain ⟨a1, rfl, rfl, rfl, w1⟩ := open_int Try.underlying3 (hval 1 3 v1 rfl rfl) h1
  obtain ⟨a2, rfl, rfl, rfl, w2⟩ := open_int Try.underlying3 (hval 2 3 v2 rfl rfl) h2
  obtain ⟨a3, rfl, rfl, rfl, w3⟩ := open_int Try.underlying22 (hval 3 22 v3 rfl rfl) h3
  obtain ⟨a4, rfl, rfl, rfl, w4⟩ := open_int Try.underlying22 (hval 4 22 v4 rfl rfl) h4
  clear hA0 hval0
  simp only [List.append_nil] at hW'
  refine (walk a0 a1 a2 a3 a4 w0 w1 w2 w3 w4 W).mono fun e W' ⟨he, hg⟩ => ?_
  subst he
  exact ⟨_, rfl, post_of_same (pa := []) (pv := []) hW' (fun _ _ _ => (trodAll_cons_mk (shut_bool Try.underlying4 _) trodAll_mk0)) (fun sp _ => (trodAll_cons_mk (shut_int Try.underlying22 w0) (trodAll_cons_mk (shut_int Try.underlying3 w1) (trodAll_cons_mk (shut_int Try.underlying3 w2) (trodAll_cons_mk (shut_int Try.underlying22 w3) (trodAll_cons_mk (shut_int Try.underlying22 w4) trodAll_mk0)))))) (fun _ _ => rfl) rfl
    (hg.frame _) hg.2.1 (ok_one (by kernel_rfl) rfl (okWide_bool_mk Try.underlying4 _))⟩

theorem over : Rows.bitsApartRow.holds Try.pinned (OpenSpec.ofChange Rows.bitsApartSpec) :=
  OpenClaim.holds_of_wide 4 Try.f4 rfl rfl rfl rfl rfl rfl rfl ⟨rfl, rfl, rfl, rfl, rfl⟩ rfl rfl rfl rfl rfl (by kernel_rfl) Try.func4 (by kernel_rfl)
    (of_decide_eq_true (by kernel_rfl)) (by unfold Func.isWrapper; first | (rw [if_pos (by decide +kernel)]; kernel_rfl) | (rw [if_neg (by decide +kernel)]; exact ⟨rfl, rfl⟩))
    (fun os started H enc _ => lifted os started H enc)

theorem proved : Rows.BitsApartSaid :=
  over
end Go.Proofs.Ytenakllafignmab.bitsApart
namespace Go.Proofs.Ytenakllafignmab
theorem bitsApart_holds : Rows.BitsApartSaid := bitsApart.proved
#print axioms bitsApart_holds
end Go.Proofs.Ytenakllafignmab
