/- CapBack (5.3): for every capability and every two words, a right capability in words is the same capability again, words that are one are the same words again, and words that are none give nothing. No condition. -/
import Derived.Test.YtkgjcolimceogaaBoxes
import Derived.Test.YtkgjcolimceogaaArgs
import Derived.ProofKit
import Derived.OpenShut
import Derived.ShutString
import Derived.ChangeOld
import Derived.Below
import Derived.Deep.Slices
namespace Go.Proofs.Ytkgjcolimceogaa.capBack
open Go.ChangeShapes Go.WideShapes Go.ChangeAt Go.RowKit
set_option linter.unusedVariables false

theorem own : ownKnob Try.prog.godebug = none := by kernel_rfl
theorem laidOut : laidOutB Try.prog = true := by kernel_rfl

set_option maxHeartbeats 2000000 in
theorem back_nn (k o r b g n A B x y : Int) (f : Int) (hf : (f == 0) = false) (h : Int) (hh : (h != 0) = true)
    (HW : ∀ w, Calls Try.prog 9 #[cv ⟨k, o, r, b, g, n⟩] w fun e w' => e = .returned (.tuple #[.int .u64 x, .int .u64 y, .int .i64 f]) ∧ w.grownBy w' none)
    (HP : ∀ w, Calls Try.prog 11 #[.int .u64 A, .int .u64 B] w fun e w' => e = .returned (.tuple #[cv C.zero, .int .i64 h]) ∧ w.grownBy w' none) (w : World) :
    Calls Try.prog 5 #[cv ⟨k, o, r, b, g, n⟩, .int .u64 A, .int .u64 B] w fun e w' => e = .returned (.bool true) ∧ w.grownBy w' none := by
  have qe := eqGuardCap
  have qn := run_neq_cap
  have qm := run_eql_cap
  have he : M.eq ⟨k, o, r, b, g, n⟩ ⟨k, o, r, b, g, n⟩ = true := M.eq_refl _
  have hz : M.eq C.zero C.zero = true := M.eq_refl _
  go_enter Try.func5, Try.ntmps5
  go_upto_region 1 with fail
  obtain ⟨W0, hW0, X, G0⟩ := boxNew w ⟨k, o, r, b, g, n⟩
  simp only at hW0
  rw [hW0]
  clear hW0
  go_wp2_with fail
  refine (works_any _).mono ?_
  rintro e w1 ⟨rfl, g1⟩
  replace X := X.kept g1
  have G1 := gbTrans G0 g1
  clear G0 g1
  obtain ⟨a0, a1, a2, a3, a4, a5, _, _⟩ := id X
  go_wp2_with fail
  refine (HW _).mono ?_
  rintro e w2 ⟨rfl, g2⟩
  clear a0 a1 a2 a3 a4 a5
  replace X := X.kept g2
  have G2 := gbTrans G1 g2
  clear G1 g2
  go_wp2_with fail
  refine (HP _).mono ?_
  rintro e w4 ⟨rfl, g4⟩
  go_upto_region 9 with fail
  obtain ⟨W4, hW4, Z, h4⟩ := boxNew w4 C.zero
  simp only at hW4
  rw [hW4]
  clear hW4
  have G4 := gbTrans (gbTrans G2 g4) h4
  clear g4 h4
  obtain ⟨z0, z1, z2, z3, z4, z5, _, _⟩ := Z
  go_wp2
  go_ret
  exact ⟨rfl, G4⟩

set_option maxHeartbeats 2000000 in
theorem back_ny (k o r b g n A B x y d0 d1 d2 d3 d4 d5 : Int) (f : Int) (hf : (f == 0) = false)
    (HW : ∀ w, Calls Try.prog 9 #[cv ⟨k, o, r, b, g, n⟩] w fun e w' => e = .returned (.tuple #[.int .u64 x, .int .u64 y, .int .i64 f]) ∧ w.grownBy w' none)
    (HP : ∀ w, Calls Try.prog 11 #[.int .u64 A, .int .u64 B] w fun e w' => e = .returned (.tuple #[cv ⟨d0, d1, d2, d3, d4, d5⟩, .int .i64 0]) ∧ w.grownBy w' none)
    (HV : ∀ w, Calls Try.prog 9 #[cv ⟨d0, d1, d2, d3, d4, d5⟩] w fun e w' => e = .returned (.tuple #[.int .u64 A, .int .u64 B, .int .i64 0]) ∧ w.grownBy w' none) (w : World) :
    Calls Try.prog 5 #[cv ⟨k, o, r, b, g, n⟩, .int .u64 A, .int .u64 B] w fun e w' => e = .returned (.bool true) ∧ w.grownBy w' none := by
  have qe := eqGuardCap
  have qn := run_neq_cap
  have qm := run_eql_cap
  have he : M.eq ⟨k, o, r, b, g, n⟩ ⟨k, o, r, b, g, n⟩ = true := M.eq_refl _
  have hz : M.eq C.zero C.zero = true := M.eq_refl _
  go_enter Try.func5, Try.ntmps5
  go_upto_region 1 with fail
  obtain ⟨W0, hW0, X, G0⟩ := boxNew w ⟨k, o, r, b, g, n⟩
  simp only at hW0
  rw [hW0]
  clear hW0
  go_wp2_with fail
  refine (works_any _).mono ?_
  rintro e w1 ⟨rfl, g1⟩
  replace X := X.kept g1
  have G1 := gbTrans G0 g1
  clear G0 g1
  obtain ⟨a0, a1, a2, a3, a4, a5, _, _⟩ := id X
  go_wp2_with fail
  refine (HW _).mono ?_
  rintro e w2 ⟨rfl, g2⟩
  clear a0 a1 a2 a3 a4 a5
  replace X := X.kept g2
  have G2 := gbTrans G1 g2
  clear G1 g2
  go_wp2_with fail
  refine (HP _).mono ?_
  rintro e w4 ⟨rfl, g4⟩
  go_upto_region 9 with fail
  obtain ⟨W4, hW4, Z, h4⟩ := boxNew w4 ⟨d0, d1, d2, d3, d4, d5⟩
  simp only at hW4
  rw [hW4]
  clear hW4
  have G4 := gbTrans (gbTrans G2 g4) h4
  clear g4 h4
  obtain ⟨z0, z1, z2, z3, z4, z5, _, _⟩ := Z
  go_wp2_with fail
  refine (HV _).mono ?_
  rintro e w5 ⟨rfl, g5⟩
  go_wp2
  go_ret
  exact ⟨rfl, gbTrans G4 g5⟩

set_option maxHeartbeats 2000000 in
theorem back_yn (k o r b g n A B x y : Int) (h : Int) (hh : (h != 0) = true)
    (HW : ∀ w, Calls Try.prog 9 #[cv ⟨k, o, r, b, g, n⟩] w fun e w' => e = .returned (.tuple #[.int .u64 x, .int .u64 y, .int .i64 0]) ∧ w.grownBy w' none)
    (HO : ∀ w, Calls Try.prog 11 #[.int .u64 x, .int .u64 y] w fun e w' => e = .returned (.tuple #[cv ⟨k, o, r, b, g, n⟩, .int .i64 0]) ∧ w.grownBy w' none)
    (HP : ∀ w, Calls Try.prog 11 #[.int .u64 A, .int .u64 B] w fun e w' => e = .returned (.tuple #[cv C.zero, .int .i64 h]) ∧ w.grownBy w' none) (w : World) :
    Calls Try.prog 5 #[cv ⟨k, o, r, b, g, n⟩, .int .u64 A, .int .u64 B] w fun e w' => e = .returned (.bool true) ∧ w.grownBy w' none := by
  have qe := eqGuardCap
  have qn := run_neq_cap
  have qm := run_eql_cap
  have he : M.eq ⟨k, o, r, b, g, n⟩ ⟨k, o, r, b, g, n⟩ = true := M.eq_refl _
  have hz : M.eq C.zero C.zero = true := M.eq_refl _
  go_enter Try.func5, Try.ntmps5
  go_upto_region 1 with fail
  obtain ⟨W0, hW0, X, G0⟩ := boxNew w ⟨k, o, r, b, g, n⟩
  simp only at hW0
  rw [hW0]
  clear hW0
  go_wp2_with fail
  refine (works_any _).mono ?_
  rintro e w1 ⟨rfl, g1⟩
  replace X := X.kept g1
  have G1 := gbTrans G0 g1
  clear G0 g1
  obtain ⟨a0, a1, a2, a3, a4, a5, _, _⟩ := id X
  go_wp2_with fail
  refine (HW _).mono ?_
  rintro e w2 ⟨rfl, g2⟩
  clear a0 a1 a2 a3 a4 a5
  replace X := X.kept g2
  have G2 := gbTrans G1 g2
  clear G1 g2
  go_wp2_with fail
  refine (HO _).mono ?_
  rintro e w3 ⟨rfl, g3⟩
  go_upto_region 6 with fail
  obtain ⟨W3, hW3, Y, h3⟩ := boxNew w3 ⟨k, o, r, b, g, n⟩
  simp only at hW3
  rw [hW3]
  clear hW3
  replace X := (X.kept g3).kept h3
  have G3 := gbTrans (gbTrans G2 g3) h3
  clear G2 g3 h3
  obtain ⟨a0, a1, a2, a3, a4, a5, _, _⟩ := X
  obtain ⟨y0, y1, y2, y3, y4, y5, _, _⟩ := Y
  go_wp2_with fail
  refine (HP _).mono ?_
  rintro e w4 ⟨rfl, g4⟩
  go_upto_region 9 with fail
  obtain ⟨W4, hW4, Z, h4⟩ := boxNew w4 C.zero
  simp only at hW4
  rw [hW4]
  clear hW4
  have G4 := gbTrans (gbTrans G3 g4) h4
  clear g4 h4
  obtain ⟨z0, z1, z2, z3, z4, z5, _, _⟩ := Z
  go_wp2
  go_ret
  exact ⟨rfl, G4⟩

set_option maxHeartbeats 2000000 in
theorem back_yy (k o r b g n A B x y d0 d1 d2 d3 d4 d5 : Int)
    (HW : ∀ w, Calls Try.prog 9 #[cv ⟨k, o, r, b, g, n⟩] w fun e w' => e = .returned (.tuple #[.int .u64 x, .int .u64 y, .int .i64 0]) ∧ w.grownBy w' none)
    (HO : ∀ w, Calls Try.prog 11 #[.int .u64 x, .int .u64 y] w fun e w' => e = .returned (.tuple #[cv ⟨k, o, r, b, g, n⟩, .int .i64 0]) ∧ w.grownBy w' none)
    (HP : ∀ w, Calls Try.prog 11 #[.int .u64 A, .int .u64 B] w fun e w' => e = .returned (.tuple #[cv ⟨d0, d1, d2, d3, d4, d5⟩, .int .i64 0]) ∧ w.grownBy w' none)
    (HV : ∀ w, Calls Try.prog 9 #[cv ⟨d0, d1, d2, d3, d4, d5⟩] w fun e w' => e = .returned (.tuple #[.int .u64 A, .int .u64 B, .int .i64 0]) ∧ w.grownBy w' none) (w : World) :
    Calls Try.prog 5 #[cv ⟨k, o, r, b, g, n⟩, .int .u64 A, .int .u64 B] w fun e w' => e = .returned (.bool true) ∧ w.grownBy w' none := by
  have qe := eqGuardCap
  have qn := run_neq_cap
  have qm := run_eql_cap
  have he : M.eq ⟨k, o, r, b, g, n⟩ ⟨k, o, r, b, g, n⟩ = true := M.eq_refl _
  have hz : M.eq C.zero C.zero = true := M.eq_refl _
  go_enter Try.func5, Try.ntmps5
  go_upto_region 1 with fail
  obtain ⟨W0, hW0, X, G0⟩ := boxNew w ⟨k, o, r, b, g, n⟩
  simp only at hW0
  rw [hW0]
  clear hW0
  go_wp2_with fail
  refine (works_any _).mono ?_
  rintro e w1 ⟨rfl, g1⟩
  replace X := X.kept g1
  have G1 := gbTrans G0 g1
  clear G0 g1
  obtain ⟨a0, a1, a2, a3, a4, a5, _, _⟩ := id X
  go_wp2_with fail
  refine (HW _).mono ?_
  rintro e w2 ⟨rfl, g2⟩
  clear a0 a1 a2 a3 a4 a5
  replace X := X.kept g2
  have G2 := gbTrans G1 g2
  clear G1 g2
  go_wp2_with fail
  refine (HO _).mono ?_
  rintro e w3 ⟨rfl, g3⟩
  go_upto_region 6 with fail
  obtain ⟨W3, hW3, Y, h3⟩ := boxNew w3 ⟨k, o, r, b, g, n⟩
  simp only at hW3
  rw [hW3]
  clear hW3
  replace X := (X.kept g3).kept h3
  have G3 := gbTrans (gbTrans G2 g3) h3
  clear G2 g3 h3
  obtain ⟨a0, a1, a2, a3, a4, a5, _, _⟩ := X
  obtain ⟨y0, y1, y2, y3, y4, y5, _, _⟩ := Y
  go_wp2_with fail
  refine (HP _).mono ?_
  rintro e w4 ⟨rfl, g4⟩
  go_upto_region 9 with fail
  obtain ⟨W4, hW4, Z, h4⟩ := boxNew w4 ⟨d0, d1, d2, d3, d4, d5⟩
  simp only at hW4
  rw [hW4]
  clear hW4
  have G4 := gbTrans (gbTrans G3 g4) h4
  clear g4 h4
  obtain ⟨z0, z1, z2, z3, z4, z5, _, _⟩ := Z
  go_wp2_with fail
  refine (HV _).mono ?_
  rintro e w5 ⟨rfl, g5⟩
  go_wp2
  go_ret
  exact ⟨rfl, gbTrans G4 g5⟩

theorem M.getN_lit (W a n v p q : Nat) (hp : 2 ^ a = p) (hq : 2 ^ n = q) (h : W / p % q = v) : M.getN W a n = v := by
  unfold M.getN; rw [hp, hq]; exact h

/-- The words of a right one are its own. -/
theorem M.off_wds (K O R B G N : Nat) (hK : K ≤ 11) (hO : O ≤ 63) (hR : R < 8) (hB : B < 268435456) (hG : G < 65536) (hN : N ≤ 16) (h : M.chk ⟨K, O, R, B, G, N⟩ = 0) :
    M.off (K + O * 16 + R * 1024 + N * 8192) (B + G * 4294967296) = (⟨K, O, R, B, G, N⟩, 0) := by
  have hf : M.fds (K + O * 16 + R * 1024 + N * 8192) (B + G * 4294967296) = ⟨K, O, R, B, G, N⟩ := by
    unfold M.fds
    rw [M.getN_lit _ 0 4 K 1 16 rfl rfl (by omega), M.getN_lit _ 4 6 O 16 64 rfl rfl (by omega), M.getN_lit _ 10 3 R 1024 8 rfl rfl (by omega), M.getN_lit _ 13 5 N 8192 32 rfl rfl (by omega),
      M.getN_lit _ 0 28 B 1 268435456 rfl rfl (by omega), M.getN_lit _ 32 16 G 4294967296 65536 rfl rfl (by omega)]
  unfold M.off
  rw [hf]
  refine if_pos ?_
  unfold M.wds
  rw [if_pos h]
  simp only [M.wd1, M.wd2, Prod.mk.injEq, and_true]
  omega

theorem walk (k o r b g n : Int) (ub : U64 b) (ug : U64 g) (a1 : Int) (w1 : (Lit.int .u64 a1).wf = true) (a2 : Int) (w2 : (Lit.int .u64 a2).wf = true) (w : World) :
    Calls Try.prog 5 #[cv ⟨k, o, r, b, g, n⟩, .int .u64 a1, .int .u64 a2] w fun e w' => e = .returned (.bool true) ∧ Below w.heap.size w w' := by
  refine endWalk ?_
  have u1 := u64_wf w1
  have u2 := u64_wf w2
  obtain ⟨A, rfl⟩ : ∃ A : Nat, a1 = A := ⟨a1.toNat, by have := u1.1; omega⟩
  obtain ⟨B, rfl⟩ : ∃ B : Nat, a2 = B := ⟨a2.toNat, by have := u2.1; omega⟩
  have hA : A < 18446744073709551616 := by have := u1.2; omega
  have hB : B < 18446744073709551616 := by have := u2.2; omega
  have HW := fun x y f (h : M.wds ⟨k, o, r, b, g, n⟩ = (x, y, f)) w => words_is k o r b g n x y f ub.1 ug.1 h w
  have HX : ∀ x y, M.wds ⟨k, o, r, b, g, n⟩ = (x, y, 0) → ∀ w, Calls Try.prog 11 #[.int .u64 x, .int .u64 y] w fun e w' => e = .returned (.tuple #[cv ⟨k, o, r, b, g, n⟩, .int .i64 0]) ∧ w.grownBy w' none := by
    intro x y h w
    have c : M.chk ⟨k, o, r, b, g, n⟩ = 0 := by
      unfold M.wds at h
      by_cases c : M.chk ⟨k, o, r, b, g, n⟩ = 0
      · exact c
      · rw [if_neg c] at h; simp only [Prod.mk.injEq] at h; exact h.2.2
    unfold M.wds at h
    rw [if_pos c] at h
    simp only [Prod.mk.injEq, M.wd1, M.wd2] at h
    obtain ⟨h1, h2, _⟩ := h
    obtain ⟨K, O, R, D, G, N, rfl, rfl, rfl, rfl, rfl, rfl, hK, hO, hR, hD, hG, hN⟩ := M.chk_ok ub.1 ug.1 c
    have e1 : x = ((K + O * 16 + R * 1024 + N * 8192 : Nat) : Int) := by omega
    have e2 : y = ((D + G * 4294967296 : Nat) : Int) := by omega
    rw [e1, e2]
    exact of_is _ _ _ 0 (by omega) (by omega) (M.off_wds K O R D G N hK hO hR hD hG hN c) w
  obtain ⟨⟨x, y, f⟩, hw⟩ : ∃ p, M.wds ⟨k, o, r, b, g, n⟩ = p := ⟨_, rfl⟩
  obtain ⟨⟨d, h⟩, ho⟩ : ∃ p, M.off A B = p := ⟨_, rfl⟩
  have HP := fun w => of_is A B d h hA hB ho w
  have hd : (h = 0 ∧ d = M.fds A B ∧ M.wds (M.fds A B) = ((A : Int), (B : Int), 0)) ∨ (h ≠ 0 ∧ d = C.zero) := by
    unfold M.off at ho
    split at ho
    · simp only [Prod.mk.injEq] at ho; exact .inl ⟨ho.2.symm, ho.1.symm, by assumption⟩
    · simp only [Prod.mk.injEq] at ho; exact .inr ⟨by omega, ho.1.symm⟩
  have HW := HW x y f hw
  rcases hd with ⟨rfl, rfl, hv⟩ | ⟨hh, rfl⟩
  · have p0 : 0 ≤ (M.fds A B).b := Int.natCast_nonneg _
    have p1 : 0 ≤ (M.fds A B).g := Int.natCast_nonneg _
    generalize M.fds A B = d at *
    obtain ⟨d0, d1, d2, d3, d4, d5⟩ := d
    have HV := fun w => words_is d0 d1 d2 d3 d4 d5 A B 0 p0 p1 hv w
    by_cases hf : f = 0
    · subst hf
      exact back_yy k o r b g n A B x y d0 d1 d2 d3 d4 d5 HW (HX x y hw) HP HV w
    · exact back_ny k o r b g n A B x y d0 d1 d2 d3 d4 d5 f (by simpa using hf) HW HP HV w
  · by_cases hf : f = 0
    · subst hf
      exact back_yn k o r b g n A B x y h (by simpa using hh) HW (HX x y hw) HP w
    · exact back_nn k o r b g n A B x y f (by simpa using hf) h (by simpa using hh) HW HP w

set_option maxRecDepth 100000 in
theorem lifted (os : Os) (started : os.Started) (H : Type) (enc : TypeId × Value → H) :
    ReturnsInHanded {} Try.checked os 5 .any (Rows.capBackSpec.pre6 enc Try.prog Try.f5 Rows.capBackRow.domain false) (Rows.capBackSpec.post enc Try.prog Try.f5 false true false false) := by
  refine returnsInHanded_of_change (C := Try.checked) own started (by kernel_rfl) Try.func5
    (ChangeSpec.witness6 (enc := enc) (C := Try.checked) false ⟨#[], #[.agg #[.int .i64 0, .int .i64 0, .int .i64 0, .int .u64 0, .int .u64 0, .int .i64 0], .int .u64 0, .int .u64 0], []⟩ 8 (by kernel_rfl) (by kernel_rfl) (by kernel_rfl) (by kernel_rfl)) ?_
  intro W base args ds gs before hval0 hW hcnd _
  have hval : ∀ (j : Nat) t v, Try.f5.params[j]? = some t → args[j]? = some v → Value.okWide Try.prog W .any base t v := hval0
  have hW' := hW
  obtain ⟨p, q, hA0, hV, rfl, hfz, hnd⟩ := hW
  have hA : DataW.TrodAll enc Try.prog W 0 (fun _ => true) true Try.f5.params.toList args.toList ds p := hA0
  rw [Try.params5] at hA hval
  obtain ⟨v0, vs0, d0, ds0, p0, q0, hargs, rfl, rfl, h0, r0⟩ := trodAll_cons hA
  obtain ⟨v1, vs1, d1, ds1, p1, q1, rfl, rfl, rfl, h1, r1⟩ := trodAll_cons r0
  obtain ⟨v2, vs2, d2, ds2, p2, q2, rfl, rfl, rfl, h2, r2⟩ := trodAll_cons r1
  obtain ⟨rfl, rfl, rfl⟩ := trodAll_nil r2
  obtain rfl : args = #[v0, v1, v2] := by cases args; simp_all
  obtain ⟨rfl, rfl⟩ := trodVars_none hV
  obtain ⟨K0, O0, R0, B0, G0, N0, rfl, ub0, ug0⟩ := capArg (hval 0 24 v0 rfl rfl) h0
  have k0 := h0
  have lt0 : ∀ x ∈ p0, x.block < W.heap.size := by obtain ⟨m, hm⟩ := k0; exact DataW.trod_lt m _ _ _ hm
  obtain ⟨a1, rfl, rfl, rfl, w1⟩ := open_int Try.underlying22 (hval 1 22 v1 rfl rfl) h1
  obtain ⟨a2, rfl, rfl, rfl, w2⟩ := open_int Try.underlying22 (hval 2 22 v2 rfl rfl) h2
  clear hA0 hval0
  refine (walk K0 O0 R0 B0 G0 N0 ub0 ug0 a1 w1 a2 w2 W).mono fun e W' ⟨he, bel⟩ => ?_
  subst he
  exact ⟨_, rfl, _, _, _, [], _, [], hW', trodAll_mk1 (shut_bool Try.underlying4 _), (trodAll_cons_mk (Below.trod laidOut (by kernel_rfl) (of_decide_eq_true (by kernel_rfl)) k0 bel lt0) (trodAll_cons_mk (shut_int Try.underlying22 w1) (trodAll_cons_mk (shut_int Try.underlying22 w2) trodAll_mk0))), rfl, bel.frame _, fun h => by cases h⟩

theorem over : Rows.capBackRow.holds Try.pinned (OpenSpec.ofChange Rows.capBackSpec) :=
  OpenClaim.holds_of_wide 5 Try.f5 rfl rfl rfl rfl rfl rfl rfl ⟨rfl, rfl, rfl, rfl, rfl⟩ rfl rfl rfl rfl rfl (by kernel_rfl) Try.func5 (by kernel_rfl)
    (of_decide_eq_true (by kernel_rfl)) (by unfold Func.isWrapper; first | (rw [if_pos (by decide +kernel)]; kernel_rfl) | (rw [if_neg (by decide +kernel)]; exact ⟨rfl, rfl⟩))
    (fun os started H enc _ => lifted os started H enc)

theorem proved : Rows.CapBackSaid := over
end Go.Proofs.Ytkgjcolimceogaa.capBack
namespace Go.Proofs.Ytkgjcolimceogaa
theorem capBack_holds : Rows.CapBackSaid := capBack.proved
#print axioms capBack_holds
end Go.Proofs.Ytkgjcolimceogaa
