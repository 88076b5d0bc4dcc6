/- PteFlags (12.1): of one place there are two words, that differ in one bit; none of them is another place's. For every input; no condition. -/
import Derived.Test.YtigcceeoifnlpaaArgs
import Derived.ProofKit
import Derived.OpenShut
import Derived.ShutString
import Derived.ChangeOld
import Derived.Below
import Derived.Deep.Slices
namespace Go.Proofs.Ytigcceeoifnlpaa.pteFlags
open Go.ChangeShapes Go.WideShapes Go.ChangeAt Go.RowKit
set_option linter.unusedVariables false

theorem own : ownKnob Try.prog.godebug = none := by kernel_rfl
theorem laidOut : laidOutB Try.prog = true := by kernel_rfl

theorem M.xor_two (P : Nat) : (16 * P + 1) ^^^ (16 * P + 3) = 2 := by
  have e1 : 16 * P + 1 = 2 ^ 4 * P + 1 := by omega
  have e3 : 16 * P + 3 = 2 ^ 4 * P + 3 := by omega
  apply Nat.eq_of_testBit_eq
  intro i
  rw [Nat.testBit_xor, e1, e3, Nat.testBit_two_pow_mul_add P (by omega), Nat.testBit_two_pow_mul_add P (by omega)]
  by_cases h : i < 4
  · rw [if_pos h, if_pos h]
    match i, h with
    | 0, _ => rfl
    | 1, _ => rfl
    | 2, _ => rfl
    | 3, _ => rfl
  · rw [if_neg h, if_neg h]
    have : Nat.testBit 2 i = false := Nat.testBit_lt_two_pow (Nat.lt_of_lt_of_le (by omega : 2 < 2 ^ 4) (Nat.pow_le_pow_right (by omega) (by omega)))
    rw [this, Bool.xor_self]

set_option maxHeartbeats 2000000 in
theorem inner (A B U V : Int) (P Q a b x y z : Nat) (hU : IntKind.u64.wrap A = U) (hV : IntKind.u64.wrap B = V) (U0 : 0 ≤ U) (V0 : 0 ≤ V) (U1 : U < 18446744073709551616) (V1 : V < 18446744073709551616)
    (hP : U % 4096 = (P : Int)) (hQ : V % 4096 = (Q : Int)) (lP : P < 4096) (lQ : Q < 4096) (ha : 16 * (P : Int) = (a : Int)) (hb : 16 * (Q : Int) = (b : Int)) (la : a ≤ 65520) (lb : b ≤ 65520)
    (lx : x < 65536) (ly : y < 65536) (lz : z < 65536) (hxy : bits .xor .u64 (x : Int) (y : Int) = 2) (t : Bool) (hxz : ((x : Int) == (z : Int)) = t) (hab : ((a : Int) == (b : Int)) = t) (hyz : ((y : Int) != (z : Int)) = true) (hx0 : ((x : Int) != 0) = true)
    (H0 : ∀ w, Calls Try.prog 6 #[ev ⟨true, false, a⟩] w fun e w' => e = .returned (.tuple #[.int .u64 x, .int .i64 0]) ∧ w.grownBy w' none)
    (H1 : ∀ w, Calls Try.prog 6 #[ev ⟨true, true, a⟩] w fun e w' => e = .returned (.tuple #[.int .u64 y, .int .i64 0]) ∧ w.grownBy w' none)
    (H2 : ∀ w, Calls Try.prog 6 #[ev ⟨true, false, b⟩] w fun e w' => e = .returned (.tuple #[.int .u64 z, .int .i64 0]) ∧ w.grownBy w' none) (w : World) :
    Calls Try.prog 5 #[.int .i64 A, .int .i64 B] w fun e w' => e = .returned (.bool true) ∧ w.grownBy w' none := by
  go_enter Try.func5, Try.ntmps5
  go_wp2_with fail
  refine (works_any _).mono ?_
  rintro e w1 ⟨rfl, g1⟩
  go_wp2_with fail
  refine (H0 _).mono ?_
  rintro e w2 ⟨rfl, g2⟩
  clear hU hV hP hQ ha hb U0 V0 U1 V1
  go_wp2_with fail
  refine (H1 _).mono ?_
  rintro e w3 ⟨rfl, g3⟩
  go_wp2_with fail
  refine (H2 _).mono ?_
  rintro e w4 ⟨rfl, g4⟩
  cases t
  all_goals
    go_wp2
    go_ret
    exact ⟨rfl, gbTrans (gbTrans (gbTrans g1 g2) g3) g4⟩

theorem walk (A B : Int) (w : World) :
    Calls Try.prog 5 #[.int .i64 A, .int .i64 B] w fun e w' => e = .returned (.bool true) ∧ Below w.heap.size w w' := by
  refine endWalk ?_
  obtain ⟨U, hU, lU⟩ := M.wrap_nat A
  obtain ⟨V, hV, lV⟩ := M.wrap_nat B
  have lP : U % 4096 < 4096 := Nat.mod_lt _ (by omega)
  have lQ : V % 4096 < 4096 := Nat.mod_lt _ (by omega)
  have eP : (U : Int) % 4096 = ((U % 4096 : Nat) : Int) := by omega
  have eQ : (V : Int) % 4096 = ((V % 4096 : Nat) : Int) := by omega
  generalize U % 4096 = P at lP eP
  generalize V % 4096 = Q at lQ eQ
  have k0 := fun (R : Nat) (l : R < 4096) w => pack_is true false ((16 * R : Nat) : Int) ((16 * R + 1 : Nat) : Int) 0 (by rw [M.pk_valid0 (M.pg_of R l)]; simp only [Prod.mk.injEq, and_true]; omega) w
  have k1 := fun (R : Nat) (l : R < 4096) w => pack_is true true ((16 * R : Nat) : Int) ((16 * R + 3 : Nat) : Int) 0 (by rw [M.pk_valid1 (M.pg_of R l)]; simp only [Prod.mk.injEq, and_true]; omega) w
  refine inner A B U V P Q _ _ _ _ _ hU hV (by omega) (by omega) (by omega) (by omega) eP eQ lP lQ (by omega) (by omega) (by omega) (by omega) (by omega) (by omega) (by omega) ?_ (decide (P = Q)) ?_ ?_ ?_ ?_ (k0 P lP) (k1 P lP) (k0 Q lQ) w
  · rw [u64_xor_nat _ _ (by omega) (by omega), M.xor_two]; rfl
  · rw [Bool.eq_iff_iff]; simp only [beq_iff_eq, decide_eq_true_eq]; omega
  · rw [Bool.eq_iff_iff]; simp only [beq_iff_eq, decide_eq_true_eq]; omega
  · simp only [bne_iff_ne]; omega
  · simp only [bne_iff_ne]; omega

set_option maxRecDepth 100000 in
theorem lifted (os : Os) (started : os.Started) (H : Type) (enc : TypeId × Value → H) :
    ReturnsInHanded {} Try.checked os 5 .any (Rows.pteFlagsSpec.pre6 enc Try.prog Try.f5 Rows.pteFlagsRow.domain false) (Rows.pteFlagsSpec.post enc Try.prog Try.f5 false true false false) := by
  refine returnsInHanded_of_change (C := Try.checked) own started (by kernel_rfl) Try.func5
    (ChangeSpec.witness6 (enc := enc) (C := Try.checked) false ⟨#[], #[.int .i64 0, .int .i64 0], []⟩ 8 (by kernel_rfl) (by kernel_rfl) (by kernel_rfl) (by kernel_rfl)) ?_
  intro W base args ds gs before hval0 hW hcnd _
  have hval : ∀ (j : Nat) t v, Try.f5.params[j]? = some t → args[j]? = some v → Value.okWide Try.prog W .any base t v := hval0
  have hW' := hW
  obtain ⟨p, q, hA0, hV, rfl, hfz, hnd⟩ := hW
  have hA : DataW.TrodAll enc Try.prog W 0 (fun _ => true) true Try.f5.params.toList args.toList ds p := hA0
  rw [Try.params5] at hA hval
  obtain ⟨v0, vs0, d0, ds0, p0, q0, hargs, rfl, rfl, h0, r0⟩ := trodAll_cons hA
  obtain ⟨v1, vs1, d1, ds1, p1, q1, rfl, rfl, rfl, h1, r1⟩ := trodAll_cons r0
  obtain ⟨rfl, rfl, rfl⟩ := trodAll_nil r1
  obtain rfl : args = #[v0, v1] := by cases args; simp_all
  obtain ⟨rfl, rfl⟩ := trodVars_none hV
  obtain ⟨a0, rfl, rfl, rfl, w0⟩ := open_int Try.underlying3 (hval 0 3 v0 rfl rfl) h0
  obtain ⟨a1, rfl, rfl, rfl, w1⟩ := open_int Try.underlying3 (hval 1 3 v1 rfl rfl) h1
  clear hA0 hval0
  refine (walk a0 a1 W).mono fun e W' ⟨he, bel⟩ => ?_
  subst he
  exact ⟨_, rfl, _, _, _, [], _, [], hW', trodAll_mk1 (shut_bool Try.underlying4 _), (trodAll_cons_mk (shut_int Try.underlying3 w0) (trodAll_cons_mk (shut_int Try.underlying3 w1) trodAll_mk0)), rfl, bel.frame _, fun h => by cases h⟩

theorem over : Rows.pteFlagsRow.holds Try.pinned (OpenSpec.ofChange Rows.pteFlagsSpec) :=
  OpenClaim.holds_of_wide 5 Try.f5 rfl rfl rfl rfl rfl rfl rfl ⟨rfl, rfl, rfl, rfl, rfl⟩ rfl rfl rfl rfl rfl (by kernel_rfl) Try.func5 (by kernel_rfl)
    (of_decide_eq_true (by kernel_rfl)) (by unfold Func.isWrapper; first | (rw [if_pos (by decide +kernel)]; kernel_rfl) | (rw [if_neg (by decide +kernel)]; exact ⟨rfl, rfl⟩))
    (fun os started H enc _ => lifted os started H enc)

theorem proved : Rows.PteFlagsSaid := over
end Go.Proofs.Ytigcceeoifnlpaa.pteFlags
namespace Go.Proofs.Ytigcceeoifnlpaa
theorem pteFlags_holds : Rows.PteFlagsSaid := pteFlags.proved
#print axioms pteFlags_holds
end Go.Proofs.Ytigcceeoifnlpaa
