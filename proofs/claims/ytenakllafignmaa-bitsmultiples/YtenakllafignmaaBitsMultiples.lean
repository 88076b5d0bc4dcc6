/- For every number and power, brought into the bounds of Up, what Up answers is a multiple of the power, not below the number, less than one power more, and Up of it is itself: the law BitsMultiples returns true for every input. No condition. -/
import Derived.Test.YtenakllafignmaaRows
import Derived.WalkKit
import Derived.ProofKit
import Derived.OpenShut
import Derived.Test.YtenakllafignmaaWorks
namespace Go.Proofs.Ytenakllafignmaa.bitsMultiples
open Go.ChangeShapes Go.WideShapes Go.ChangeAt Go.RowKit
set_option linter.unusedVariables false

theorem own : ownKnob Try.prog.godebug = none := by kernel_rfl

theorem args (a0 a1 : Int) : ∃ U V n k : Nat, IntKind.u64.wrap a0 = (U : Int) ∧ IntKind.u64.wrap a1 = (V : Int) ∧ (U : Int) % 1099511627776 = (n : Int) ∧ (V : Int) % 41 = (k : Int) ∧ n ≤ 1099511627776 ∧ k ≤ 40 := by
  obtain ⟨U, hU, _⟩ := M.wrap_nat a0
  obtain ⟨V, hV, _⟩ := M.wrap_nat a1
  refine ⟨U, V, U % 1099511627776, V % 41, hU, hV, ?_, ?_, ?_, ?_⟩
  · exact (Int.natCast_emod U 1099511627776).symm
  · exact (Int.natCast_emod V 41).symm
  · exact Nat.le_of_lt (Nat.mod_lt _ (by decide))
  · exact Nat.le_of_lt_succ (Nat.mod_lt _ (by decide))

theorem facts (n k : Nat) (bn : n ≤ 1099511627776) (bk : k ≤ 40) : ∃ m u : Nat, wrap64 (2 ^ k) = (m : Int) ∧ M.upN n k = u ∧ M.upN u k = u ∧ 1 ≤ m ∧ m ≤ 1099511627776 ∧ u ≤ 1099511627776 ∧ n ≤ u ∧ u < n + m ∧ u % m = 0 := by
  have hp := M.pow_le40 k bk
  have h1 : 1 ≤ 2 ^ k := Nat.one_le_two_pow
  have hb := M.upN_bd n k
  have e0 : ((2 : Int) ^ k) = ((2 ^ k : Nat) : Int) := by simp
  refine ⟨2 ^ k, M.upN n k, ?_, rfl, M.up_up n k, h1, hp, M.up_le n k bn bk, hb.1, hb.2, M.up_mod n k⟩
  rw [e0]
  generalize 2 ^ k = m at hp h1
  unfold wrap64
  omega

set_option maxHeartbeats 400000 in
theorem core (a0 a1 : Int) (U V n k m u : Nat) (w : World) (hU : IntKind.u64.wrap a0 = (U : Int)) (hV : IntKind.u64.wrap a1 = (V : Int)) (hn : (U : Int) % 1099511627776 = (n : Int)) (hk : (V : Int) % 41 = (k : Int))
    (bn : n ≤ 1099511627776) (bk : k ≤ 40) (hw : wrap64 (2 ^ k) = (m : Int)) (h1 : 1 ≤ m) (hp : m ≤ 1099511627776) (hl : u ≤ 1099511627776) (t2 : n ≤ u) (t3 : (u : Int) - (n : Int) < (m : Int)) (t1 : ((u : Int) % (m : Int) == 0) = true)
    (c1 : ∀ w, Calls Try.prog 19 #[.int .i64 n, .int .i64 k] w fun e w' => e = .returned (.tuple #[.int .i64 u, .int .i64 0]) ∧ w' = w)
    (c2 : ∀ w, Calls Try.prog 19 #[.int .i64 u, .int .i64 k] w fun e w' => e = .returned (.tuple #[.int .i64 u, .int .i64 0]) ∧ w' = w) :
    Calls Try.prog 7 #[.int .i64 a0, .int .i64 a1] w fun e w' => e = .returned (.bool true) ∧ Grown w w' := by
  have C1 : Hid (∀ w, Calls Try.prog 19 #[.int .i64 n, .int .i64 k] w fun e w' => e = .returned (.tuple #[.int .i64 u, .int .i64 0]) ∧ w' = w) := c1
  have C2 : Hid (∀ w, Calls Try.prog 19 #[.int .i64 u, .int .i64 k] w fun e w' => e = .returned (.tuple #[.int .i64 u, .int .i64 0]) ∧ w' = w) := c2
  clear c1 c2
  go_enter Try.func7, Try.ntmps7
  go_wp2_with fail
  refine (works_any _).mono ?_
  rintro e w1 ⟨rfl, q, rfl⟩
  go_wp2_with fail
  refine (C1.out _).mono ?_
  rintro e w1 ⟨rfl, rfl⟩
  go_wp2_with fail
  refine (C2.out _).mono ?_
  rintro e w1 ⟨rfl, rfl⟩
  go_wp2
  go_ret
  exact ⟨rfl, Grown.refl w⟩

/-! ### STEP 1: THE WALK: the Go text returns true. 'Grown w w'': the world has at most new blocks (Derived/RowKit3.lean). Part the cases AHEAD of 'go_enter' where a test parts the walk; take each callee by a contract of your own. -/
theorem walk (a0 : Int) (a1 : Int) (w0 : (Lit.int .i64 a0).wf = true) (w1 : (Lit.int .i64 a1).wf = true) (w : World) :
    Calls Try.prog 7 #[.int .i64 a0, .int .i64 a1] w fun e w' => e = .returned (.bool true) ∧ Grown w w' := by
  obtain ⟨U, V, n, k, hU, hV, hn, hk, bn, bk⟩ := args a0 a1
  obtain ⟨m, u, hw, hu, huu, h1, hp, hl, t2, t3, t1⟩ := facts n k bn bk
  refine core a0 a1 U V n k m u w hU hV hn hk bn bk hw h1 hp hl t2 (by omega) (by rw [beq_iff_eq, ← Int.natCast_emod, t1]; rfl) (fun w => ?_) (fun w => ?_)
  · have h := up_yes n k w bn bk
    rw [hu] at h
    exact h
  · have h := up_yes u k w hl bk
    rw [huu] at h
    exact h

/-! ### THE ROW's STEP: WRITTEN OUT: LEAVE IT -/
set_option maxRecDepth 100000 in
theorem lifted (os : Os) (started : os.Started) (H : Type) (enc : TypeId × Value → H) :
    ReturnsInHanded {} Try.checked os 7 .any (Rows.bitsMultiplesSpec.pre6 enc Try.prog Try.f7 Rows.bitsMultiplesRow.domain false) (Rows.bitsMultiplesSpec.post enc Try.prog Try.f7 false true false false) := by
  refine returnsInHanded_of_change (C := Try.checked) own started (by kernel_rfl) Try.func7
    (ChangeSpec.witness6 (enc := enc) (C := Try.checked) false ⟨#[], #[.int .i64 0, .int .i64 0], []⟩ 8 (by kernel_rfl) (by kernel_rfl) (by kernel_rfl) (by kernel_rfl)) ?_
  intro W base args ds gs before hval0 hW hcnd _
  have hval : ∀ (j : Nat) t v, Try.f7.params[j]? = some t → args[j]? = some v → Value.okWide Try.prog W .any base t v := hval0
  have hW' := hW
  obtain ⟨p, q, hA0, hV, rfl, hfz, hnd⟩ := hW
  have hA : DataW.TrodAll enc Try.prog W 0 (fun _ => true) true Try.f7.params.toList args.toList ds p := hA0
  rw [Try.params7] at hA hval
  obtain ⟨v0, vs0, d0, ds0, p0, q0, hargs, rfl, rfl, h0, r0⟩ := trodAll_cons hA
  obtain ⟨v1, vs1, d1, ds1, p1, q1, rfl, rfl, rfl, h1, r1⟩ := trodAll_cons r0
  obtain ⟨rfl, rfl, rfl⟩ := trodAll_nil r1
  obtain rfl : args = #[v0, v1] := by cases args; simp_all
  obtain ⟨rfl, rfl⟩ := trodVars_none hV
  obtain ⟨a0, rfl, rfl, rfl, w0⟩ := open_int Try.underlying3 (hval 0 3 v0 rfl rfl) h0
  obtain ⟨a1, rfl, rfl, rfl, w1⟩ := open_int Try.underlying3 (hval 1 3 v1 rfl rfl) h1
  clear hA0 hval0
  simp only [List.append_nil] at hW'
  refine (walk a0 a1 w0 w1 W).mono fun e W' ⟨he, hg⟩ => ?_
  subst he
  exact ⟨_, rfl, post_of_same (pa := []) (pv := []) hW' (fun _ _ _ => (trodAll_cons_mk (shut_bool Try.underlying4 _) trodAll_mk0)) (fun sp _ => (trodAll_cons_mk (shut_int Try.underlying3 w0) (trodAll_cons_mk (shut_int Try.underlying3 w1) trodAll_mk0))) (fun _ _ => rfl) rfl
    (hg.frame _) hg.2.1 (ok_one (by kernel_rfl) rfl (okWide_bool_mk Try.underlying4 _))⟩

theorem over : Rows.bitsMultiplesRow.holds Try.pinned (OpenSpec.ofChange Rows.bitsMultiplesSpec) :=
  OpenClaim.holds_of_wide 7 Try.f7 rfl rfl rfl rfl rfl rfl rfl ⟨rfl, rfl, rfl, rfl, rfl⟩ rfl rfl rfl rfl rfl (by kernel_rfl) Try.func7 (by kernel_rfl)
    (of_decide_eq_true (by kernel_rfl)) (by unfold Func.isWrapper; first | (rw [if_pos (by decide +kernel)]; kernel_rfl) | (rw [if_neg (by decide +kernel)]; exact ⟨rfl, rfl⟩))
    (fun os started H enc _ => lifted os started H enc)

theorem proved : Rows.BitsMultiplesSaid :=
  over
end Go.Proofs.Ytenakllafignmaa.bitsMultiples
namespace Go.Proofs.Ytenakllafignmaa
theorem bitsMultiples_holds : Rows.BitsMultiplesSaid := bitsMultiples.proved
#print axioms bitsMultiples_holds
end Go.Proofs.Ytenakllafignmaa
