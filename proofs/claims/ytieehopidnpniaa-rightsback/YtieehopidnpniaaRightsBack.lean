/- Rights in letters are the same rights again; letters that are rights are the same letters again; of other letters the answer is 0 with an error. No condition. -/
import Derived.Test.YtieehopidnpniaaWorks
import Derived.ProofKit
import Derived.OpenShut
import Derived.ShutString
import Derived.ChangeOld
import Derived.Below
import Derived.Deep.Slices
namespace Go.Proofs.Ytieehopidnpniaa.rightsBack
open Go.ChangeShapes Go.WideShapes Go.ChangeAt Go.RowKit
open Go.ChangeMaps (open_string shut_string)
set_option linter.unusedVariables false

theorem own : ownKnob Try.prog.godebug = none := by kernel_rfl
theorem laidOut : laidOutB Try.prog = true := by kernel_rfl

theorem again {A : Nat} (h : A < 8) : M.prs (M.txt A) 8 0 = ((A : Int), 0) := by
  rcases M.lt8 h with rfl | rfl | rfl | rfl | rfl | rfl | rfl | rfl
  · kernel_rfl
  · kernel_rfl
  · kernel_rfl
  · kernel_rfl
  · kernel_rfl
  · kernel_rfl
  · kernel_rfl
  · kernel_rfl

theorem found (s : ByteArray) : ∀ g k : Nat, k + g = 8 → M.prs s g k = (0, 10) ∨ ∃ n : Nat, n < 8 ∧ M.prs s g k = ((n : Int), 0) ∧ ((M.txt n).toList == s.toList) = true
  | 0, _, _ => Or.inl rfl
  | g + 1, k, h => by
    rw [M.prs]
    by_cases hb : ((M.txt k).toList == s.toList) = true
    · rw [if_pos hb]
      exact Or.inr ⟨k, by omega, rfl, hb⟩
    · rw [if_neg hb]
      exact found s g (k + 1) (by omega)

theorem neq_self (x : Int) : (x != x) = false := by simp

set_option maxHeartbeats 1000000 in
theorem yes_no (A : Nat) (hA : A < 8) (s : ByteArray) (w : World) (h : M.prs s 8 0 = (0, 10)) :
    Calls Try.prog 6 #[.int .i64 A, .string s] w fun e w' => e = .returned (.bool true) ∧ Below w.heap.size w w' := by
  have h := hideIt h
  have N := neq_self A
  go_enter Try.func6, Try.ntmps6
  go_wp2_with fail
  refine (works_any _).mono ?_
  rintro e w1 ⟨rfl, g1⟩
  go_wp2_with fail
  refine (text_yes A hA _).mono ?_
  rintro e w2 ⟨rfl, g2⟩
  go_wp2_with fail
  refine (parse_is _ _ _ (again hA) _).mono ?_
  rintro e w3 ⟨rfl, g3⟩
  go_wp2_with fail
  refine (parse_is _ _ _ h.out _).mono ?_
  rintro e w4 ⟨rfl, g4⟩
  go_wp2
  go_ret
  exact ⟨rfl, gbEnd (gbTrans g1 (gbTrans g2 (gbTrans g3 g4)))⟩

set_option maxHeartbeats 1000000 in
theorem yes_yes (A : Nat) (hA : A < 8) (s : ByteArray) (n : Nat) (hn : n < 8) (w : World) (h : M.prs s 8 0 = ((n : Int), 0)) (T : ((M.txt n).toList == s.toList) = true) :
    Calls Try.prog 6 #[.int .i64 A, .string s] w fun e w' => e = .returned (.bool true) ∧ Below w.heap.size w w' := by
  have h := hideIt h
  have N := neq_self A
  go_enter Try.func6, Try.ntmps6
  go_wp2_with fail
  refine (works_any _).mono ?_
  rintro e w1 ⟨rfl, g1⟩
  go_wp2_with fail
  refine (text_yes A hA _).mono ?_
  rintro e w2 ⟨rfl, g2⟩
  go_wp2_with fail
  refine (parse_is _ _ _ (again hA) _).mono ?_
  rintro e w3 ⟨rfl, g3⟩
  go_wp2_with fail
  refine (parse_is _ _ _ h.out _).mono ?_
  rintro e w4 ⟨rfl, g4⟩
  go_wp2_with fail
  refine (text_yes n hn _).mono ?_
  rintro e w5 ⟨rfl, g5⟩
  go_wp2
  go_ret
  exact ⟨rfl, gbEnd (gbTrans g1 (gbTrans g2 (gbTrans g3 (gbTrans g4 g5))))⟩

set_option maxHeartbeats 1000000 in
theorem no_no (a : Int) (ha : M.ck a = false) (s : ByteArray) (w : World) (h : M.prs s 8 0 = (0, 10)) :
    Calls Try.prog 6 #[.int .i64 a, .string s] w fun e w' => e = .returned (.bool true) ∧ Below w.heap.size w w' := by
  have h := hideIt h
  go_enter Try.func6, Try.ntmps6
  go_wp2_with fail
  refine (works_any _).mono ?_
  rintro e w1 ⟨rfl, g1⟩
  go_wp2_with fail
  refine (text_no a ha _).mono ?_
  rintro e w2 ⟨rfl, g2⟩
  go_wp2_with fail
  refine (parse_is _ _ _ h.out _).mono ?_
  rintro e w4 ⟨rfl, g4⟩
  go_wp2
  go_ret
  exact ⟨rfl, gbEnd (gbTrans g1 (gbTrans g2 g4))⟩

set_option maxHeartbeats 1000000 in
theorem no_yes (a : Int) (ha : M.ck a = false) (s : ByteArray) (n : Nat) (hn : n < 8) (w : World) (h : M.prs s 8 0 = ((n : Int), 0)) (T : ((M.txt n).toList == s.toList) = true) :
    Calls Try.prog 6 #[.int .i64 a, .string s] w fun e w' => e = .returned (.bool true) ∧ Below w.heap.size w w' := by
  have h := hideIt h
  go_enter Try.func6, Try.ntmps6
  go_wp2_with fail
  refine (works_any _).mono ?_
  rintro e w1 ⟨rfl, g1⟩
  go_wp2_with fail
  refine (text_no a ha _).mono ?_
  rintro e w2 ⟨rfl, g2⟩
  go_wp2_with fail
  refine (parse_is _ _ _ h.out _).mono ?_
  rintro e w4 ⟨rfl, g4⟩
  go_wp2_with fail
  refine (text_yes n hn _).mono ?_
  rintro e w5 ⟨rfl, g5⟩
  go_wp2
  go_ret
  exact ⟨rfl, gbEnd (gbTrans g1 (gbTrans g2 (gbTrans g4 g5)))⟩

theorem walk (a : Int) (s : ByteArray) (w : World) :
    Calls Try.prog 6 #[.int .i64 a, .string s] w fun e w' => e = .returned (.bool true) ∧ Below w.heap.size w w' := by
  by_cases h : M.ck a = true
  · obtain ⟨A, rfl, hA⟩ := M.ck_nat h
    rcases found s 8 0 rfl with k | ⟨n, hn, k, T⟩
    · exact yes_no A hA s w k
    · exact yes_yes A hA s n hn w k T
  · rw [Bool.not_eq_true] at h
    rcases found s 8 0 rfl with k | ⟨n, hn, k, T⟩
    · exact no_no a h s w k
    · exact no_yes a h s n hn w k T

set_option maxRecDepth 100000 in
theorem lifted (os : Os) (started : os.Started) (H : Type) (enc : TypeId × Value → H) :
    ReturnsInHanded {} Try.checked os 6 .any (Rows.rightsBackSpec.pre6 enc Try.prog Try.f6 Rows.rightsBackRow.domain false) (Rows.rightsBackSpec.post enc Try.prog Try.f6 false true false false) := by
  refine returnsInHanded_of_change (C := Try.checked) own started (by kernel_rfl) Try.func6
    (ChangeSpec.witness6 (enc := enc) (C := Try.checked) false ⟨#[], #[.int .i64 0, .string ByteArray.empty], []⟩ 8 (by kernel_rfl) (by kernel_rfl) (by kernel_rfl) (by kernel_rfl)) ?_
  intro W base args ds gs before hval0 hW hcnd _
  have hval : ∀ (j : Nat) t v, Try.f6.params[j]? = some t → args[j]? = some v → Value.okWide Try.prog W .any base t v := hval0
  have hW' := hW
  obtain ⟨p, q, hA0, hV, rfl, hfz, hnd⟩ := hW
  have hA : DataW.TrodAll enc Try.prog W 0 (fun _ => true) true Try.f6.params.toList args.toList ds p := hA0
  rw [Try.params6] at hA hval
  obtain ⟨v0, vs0, d0, ds0, p0, q0, hargs, rfl, rfl, h0, r0⟩ := trodAll_cons hA
  obtain ⟨v1, vs1, d1, ds1, p1, q1, rfl, rfl, rfl, h1, r1⟩ := trodAll_cons r0
  obtain ⟨rfl, rfl, rfl⟩ := trodAll_nil r1
  obtain rfl : args = #[v0, v1] := by cases args; simp_all
  obtain ⟨rfl, rfl⟩ := trodVars_none hV
  obtain ⟨a0, rfl, rfl, rfl, w0⟩ := open_int Try.underlying3 (hval 0 3 v0 rfl rfl) h0
  obtain ⟨a1, rfl, rfl, rfl, w1⟩ := open_string Try.underlying9 (hval 1 9 v1 rfl rfl) h1
  clear hA0 hval0
  refine (walk a0 a1 W).mono fun e W' ⟨he, bel⟩ => ?_
  subst he
  exact ⟨_, rfl, _, _, _, [], _, [], hW', trodAll_mk1 (shut_bool Try.underlying4 _), (trodAll_cons_mk (shut_int Try.underlying3 w0) (trodAll_cons_mk (shut_string Try.underlying9 w1) trodAll_mk0)), rfl, bel.frame _, fun h => by cases h⟩

theorem over : Rows.rightsBackRow.holds Try.pinned (OpenSpec.ofChange Rows.rightsBackSpec) :=
  OpenClaim.holds_of_wide 6 Try.f6 rfl rfl rfl rfl rfl rfl rfl ⟨rfl, rfl, rfl, rfl, rfl⟩ rfl rfl rfl rfl rfl (by kernel_rfl) Try.func6 (by kernel_rfl)
    (of_decide_eq_true (by kernel_rfl)) (by unfold Func.isWrapper; first | (rw [if_pos (by decide +kernel)]; kernel_rfl) | (rw [if_neg (by decide +kernel)]; exact ⟨rfl, rfl⟩))
    (fun os started H enc _ => lifted os started H enc)

theorem proved : Rows.RightsBackSaid := over
end Go.Proofs.Ytieehopidnpniaa.rightsBack
namespace Go.Proofs.Ytieehopidnpniaa
theorem rightsBack_holds : Rows.RightsBackSaid := rightsBack.proved
#print axioms rightsBack_holds
end Go.Proofs.Ytieehopidnpniaa
