/- CapBadges (5.2): for every Endpoint or Notice of the object 1 and whatever rights and badges (each brought into its bounds), one that has a badge keeps it and gets no other, one without gets any that is small enough, and rights only go. No condition. -/
import Derived.Test.YtkgjcolimceogabWorks
import Derived.Test.YtkgjcolimceogabNums
import Derived.ProofKit
import Derived.OpenShut
import Derived.ShutString
import Derived.ChangeOld
import Derived.Below
import Derived.Deep.Slices
namespace Go.Proofs.Ytkgjcolimceogab.capBadges
open Go.ChangeShapes Go.WideShapes Go.ChangeAt Go.RowKit
set_option linter.unusedVariables false

theorem own : ownKnob Try.prog.godebug = none := by kernel_rfl
theorem laidOut : laidOutB Try.prog = true := by kernel_rfl

set_option maxHeartbeats 2000000 in
theorem inner4 (a1 a2 a3 a4 : Int) (U1 U2 R P D E S : Nat) (e1 : IntKind.u64.wrap a1 = (U1 : Int)) (e2 : IntKind.u64.wrap a2 = (U2 : Int))
    (f1 : (U1 : Int) % 8 = (R : Int)) (f2 : (U2 : Int) % 8 = (P : Int)) (f3 : 1 + a3 % 268435455 = (D : Int)) (f4 : 1 + a4 % 268435455 = (E : Int)) (hR : R < 8) (hP : P < 8) (hD : D < 268435456) (hE : E < 268435456)
    (p3 : 0 ≤ a3) (p4 : 0 ≤ a4) (q3 : a3 < 18446744073709551616) (q4 : a4 < 18446744073709551616) (hs : bits BinOp.and IntKind.i64 (R : Int) (P : Int) = (S : Int))
    (H1 : ∀ w, Calls Try.prog 5 #[cv ⟨4, 1, R, 0, 0, 0⟩, .int .i64 P, .int .u64 D, .int .u64 0, .int .i64 0] w fun e w' => e = .returned (.tuple #[cv ⟨4, 1, S, D, 0, 0⟩, .int .i64 0]) ∧ w.grownBy w' none)
    (H2 : ∀ w, Calls Try.prog 5 #[cv ⟨4, 1, S, D, 0, 0⟩, .int .i64 7, .int .u64 E, .int .u64 0, .int .i64 0] w fun e w' => e = .returned (.tuple #[cv C.zero, .int .i64 8]) ∧ w.grownBy w' none)
    (H3 : ∀ w, Calls Try.prog 5 #[cv ⟨4, 1, S, D, 0, 0⟩, .int .i64 7, .int .u64 0, .int .u64 0, .int .i64 0] w fun e w' => e = .returned (.tuple #[cv ⟨4, 1, S, D, 0, 0⟩, .int .i64 0]) ∧ w.grownBy w' none)
    (H4 : ∀ w, Calls Try.prog 5 #[cv ⟨4, 1, R, 0, 0, 0⟩, .int .i64 P, .int .u64 268435456, .int .u64 0, .int .i64 0] w fun e w' => e = .returned (.tuple #[cv C.zero, .int .i64 10]) ∧ w.grownBy w' none) (w : World) :
    Calls Try.prog 3 #[.bool false, .int .i64 a1, .int .i64 a2, .int .u64 a3, .int .u64 a4] w fun e w' => e = .returned (.bool true) ∧ w.grownBy w' none := by
  have qe := eqGuardCap
  have qn := run_eql_cap
  have he : M.eq ⟨4, 1, S, D, 0, 0⟩ ⟨4, 1, S, D, 0, 0⟩ = true := M.eq_refl _
  go_enter Try.func3, Try.ntmps3
  go_wp2_with fail
  refine (works_any _).mono ?_
  rintro e w1 ⟨rfl, G1⟩
  go_upto_region 8 with fail
  obtain ⟨W1, hW1, X, h1⟩ := boxNew w1 ⟨4, 1, R, 0, 0, 0⟩
  simp only at hW1
  rw [hW1]
  clear hW1
  have G2 := gbTrans G1 h1
  clear G1 h1
  obtain ⟨x0, x1, x2, x3, x4, x5, _, _⟩ := id X
  go_wp2_with fail
  refine (H1 _).mono ?_
  rintro e w2 ⟨rfl, g2⟩
  clear x0 x1 x2 x3 x4 x5
  go_upto_region 9 with fail
  obtain ⟨W2, hW2, Y, h2⟩ := boxNew w2 ⟨4, 1, S, D, 0, 0⟩
  simp only at hW2
  rw [hW2]
  clear hW2
  replace X := (X.kept g2).kept h2
  have G3 := gbTrans (gbTrans G2 g2) h2
  clear G2 g2 h2
  obtain ⟨x0, x1, x2, x3, x4, x5, _, _⟩ := id Y
  go_wp2_with fail
  refine (H2 _).mono ?_
  rintro e w3 ⟨rfl, g3⟩
  clear x0 x1 x2 x3 x4 x5
  go_upto_region 10 with fail
  obtain ⟨W3, hW3, _, h3⟩ := boxNew w3 C.zero
  simp only at hW3
  rw [hW3]
  clear hW3
  replace X := (X.kept g3).kept h3
  replace Y := (Y.kept g3).kept h3
  have G4 := gbTrans (gbTrans G3 g3) h3
  clear G3 g3 h3
  obtain ⟨x0, x1, x2, x3, x4, x5, _, _⟩ := id Y
  go_wp2_with fail
  refine (H3 _).mono ?_
  rintro e w4 ⟨rfl, g4⟩
  clear x0 x1 x2 x3 x4 x5
  go_upto_region 11 with fail
  obtain ⟨W4, hW4, Z, h4⟩ := boxNew w4 ⟨4, 1, S, D, 0, 0⟩
  simp only at hW4
  rw [hW4]
  clear hW4
  replace X := (X.kept g4).kept h4
  replace Y := (Y.kept g4).kept h4
  have G5 := gbTrans (gbTrans G4 g4) h4
  clear G4 g4 h4
  obtain ⟨x0, x1, x2, x3, x4, x5, _, _⟩ := id X
  go_wp2_with fail
  refine (H4 _).mono ?_
  rintro e w5 ⟨rfl, g5⟩
  clear x0 x1 x2 x3 x4 x5
  go_upto_region 12 with fail
  obtain ⟨W5, hW5, _, h5⟩ := boxNew w5 C.zero
  simp only at hW5
  rw [hW5]
  clear hW5
  obtain ⟨x0, x1, x2, x3, x4, x5, _, _⟩ := (X.kept g5).kept h5
  obtain ⟨y0, y1, y2, y3, y4, y5, _, _⟩ := (Y.kept g5).kept h5
  obtain ⟨z0, z1, z2, z3, z4, z5, _, _⟩ := (Z.kept g5).kept h5
  have G6 := gbTrans (gbTrans G5 g5) h5
  clear G5 g5 h5 X Y Z
  simp only at x0 x1 x2 x3 x4 x5 y0 y1 y2 y3 y4 y5 z0 z1 z2 z3 z4 z5
  go_wp2
  go_ret
  exact ⟨rfl, G6⟩

set_option maxHeartbeats 2000000 in
theorem inner5 (a1 a2 a3 a4 : Int) (U1 U2 R P D E S : Nat) (e1 : IntKind.u64.wrap a1 = (U1 : Int)) (e2 : IntKind.u64.wrap a2 = (U2 : Int))
    (f1 : (U1 : Int) % 8 = (R : Int)) (f2 : (U2 : Int) % 8 = (P : Int)) (f3 : 1 + a3 % 268435455 = (D : Int)) (f4 : 1 + a4 % 268435455 = (E : Int)) (hR : R < 8) (hP : P < 8) (hD : D < 268435456) (hE : E < 268435456)
    (p3 : 0 ≤ a3) (p4 : 0 ≤ a4) (q3 : a3 < 18446744073709551616) (q4 : a4 < 18446744073709551616) (hs : bits BinOp.and IntKind.i64 (R : Int) (P : Int) = (S : Int))
    (H1 : ∀ w, Calls Try.prog 5 #[cv ⟨5, 1, R, 0, 0, 0⟩, .int .i64 P, .int .u64 D, .int .u64 0, .int .i64 0] w fun e w' => e = .returned (.tuple #[cv ⟨5, 1, S, D, 0, 0⟩, .int .i64 0]) ∧ w.grownBy w' none)
    (H2 : ∀ w, Calls Try.prog 5 #[cv ⟨5, 1, S, D, 0, 0⟩, .int .i64 7, .int .u64 E, .int .u64 0, .int .i64 0] w fun e w' => e = .returned (.tuple #[cv C.zero, .int .i64 8]) ∧ w.grownBy w' none)
    (H3 : ∀ w, Calls Try.prog 5 #[cv ⟨5, 1, S, D, 0, 0⟩, .int .i64 7, .int .u64 0, .int .u64 0, .int .i64 0] w fun e w' => e = .returned (.tuple #[cv ⟨5, 1, S, D, 0, 0⟩, .int .i64 0]) ∧ w.grownBy w' none)
    (H4 : ∀ w, Calls Try.prog 5 #[cv ⟨5, 1, R, 0, 0, 0⟩, .int .i64 P, .int .u64 268435456, .int .u64 0, .int .i64 0] w fun e w' => e = .returned (.tuple #[cv C.zero, .int .i64 10]) ∧ w.grownBy w' none) (w : World) :
    Calls Try.prog 3 #[.bool true, .int .i64 a1, .int .i64 a2, .int .u64 a3, .int .u64 a4] w fun e w' => e = .returned (.bool true) ∧ w.grownBy w' none := by
  have qe := eqGuardCap
  have qn := run_eql_cap
  have he : M.eq ⟨5, 1, S, D, 0, 0⟩ ⟨5, 1, S, D, 0, 0⟩ = true := M.eq_refl _
  go_enter Try.func3, Try.ntmps3
  go_wp2_with fail
  refine (works_any _).mono ?_
  rintro e w1 ⟨rfl, G1⟩
  go_upto_region 8 with fail
  obtain ⟨W1, hW1, X, h1⟩ := boxNew w1 ⟨5, 1, R, 0, 0, 0⟩
  simp only at hW1
  rw [hW1]
  clear hW1
  have G2 := gbTrans G1 h1
  clear G1 h1
  obtain ⟨x0, x1, x2, x3, x4, x5, _, _⟩ := id X
  go_wp2_with fail
  refine (H1 _).mono ?_
  rintro e w2 ⟨rfl, g2⟩
  clear x0 x1 x2 x3 x4 x5
  go_upto_region 9 with fail
  obtain ⟨W2, hW2, Y, h2⟩ := boxNew w2 ⟨5, 1, S, D, 0, 0⟩
  simp only at hW2
  rw [hW2]
  clear hW2
  replace X := (X.kept g2).kept h2
  have G3 := gbTrans (gbTrans G2 g2) h2
  clear G2 g2 h2
  obtain ⟨x0, x1, x2, x3, x4, x5, _, _⟩ := id Y
  go_wp2_with fail
  refine (H2 _).mono ?_
  rintro e w3 ⟨rfl, g3⟩
  clear x0 x1 x2 x3 x4 x5
  go_upto_region 10 with fail
  obtain ⟨W3, hW3, _, h3⟩ := boxNew w3 C.zero
  simp only at hW3
  rw [hW3]
  clear hW3
  replace X := (X.kept g3).kept h3
  replace Y := (Y.kept g3).kept h3
  have G4 := gbTrans (gbTrans G3 g3) h3
  clear G3 g3 h3
  obtain ⟨x0, x1, x2, x3, x4, x5, _, _⟩ := id Y
  go_wp2_with fail
  refine (H3 _).mono ?_
  rintro e w4 ⟨rfl, g4⟩
  clear x0 x1 x2 x3 x4 x5
  go_upto_region 11 with fail
  obtain ⟨W4, hW4, Z, h4⟩ := boxNew w4 ⟨5, 1, S, D, 0, 0⟩
  simp only at hW4
  rw [hW4]
  clear hW4
  replace X := (X.kept g4).kept h4
  replace Y := (Y.kept g4).kept h4
  have G5 := gbTrans (gbTrans G4 g4) h4
  clear G4 g4 h4
  obtain ⟨x0, x1, x2, x3, x4, x5, _, _⟩ := id X
  go_wp2_with fail
  refine (H4 _).mono ?_
  rintro e w5 ⟨rfl, g5⟩
  clear x0 x1 x2 x3 x4 x5
  go_upto_region 12 with fail
  obtain ⟨W5, hW5, _, h5⟩ := boxNew w5 C.zero
  simp only at hW5
  rw [hW5]
  clear hW5
  obtain ⟨x0, x1, x2, x3, x4, x5, _, _⟩ := (X.kept g5).kept h5
  obtain ⟨y0, y1, y2, y3, y4, y5, _, _⟩ := (Y.kept g5).kept h5
  obtain ⟨z0, z1, z2, z3, z4, z5, _, _⟩ := (Z.kept g5).kept h5
  have G6 := gbTrans (gbTrans G5 g5) h5
  clear G5 g5 h5 X Y Z
  simp only at x0 x1 x2 x3 x4 x5 y0 y1 y2 y3 y4 y5 z0 z1 z2 z3 z4 z5
  go_wp2
  go_ret
  exact ⟨rfl, G6⟩

/- What is derived of an Endpoint or a Notice. -/
theorem chk_mine (k : Int) (R D : Nat) (hk : k = 4 ∨ k = 5) (hR : R < 8) (hD : D < 268435456) : M.chk ⟨k, 1, R, D, 0, 0⟩ = 0 := by
  have hb : M.blw (D : Int) 28 = true := by unfold M.blw; simp; omega
  refine M.chk_iff.2 ⟨?_, M.bnd_iff.2 ⟨by decide, by decide, M.nat_ck hR, hb, rfl⟩, ?_⟩
  · rcases hk with rfl | rfl <;> rfl
  · rcases hk with rfl | rfl <;> rfl
theorem src_mine (k : Int) (R D : Nat) (hk : k = 4 ∨ k = 5) (hR : R < 8) (hD : D < 268435456) : M.src ⟨k, 1, R, D, 0, 0⟩ = 0 := by
  unfold M.src
  rw [if_pos (chk_mine k R D hk hR hD)]
  rcases hk with rfl | rfl <;> rfl
theorem drv_mine (k : Int) (R D P : Nat) (x : Int) (hk : k = 4 ∨ k = 5) (hR : R < 8) (hD : D < 268435456) (hP : P < 8) :
    M.drv ⟨k, 1, R, D, 0, 0⟩ P x 0 0 = if x ≠ 0 then (if D ≠ 0 then (C.zero, 8) else if M.blw x 28 then (⟨k, 1, (R &&& P : Nat), x, 0, 0⟩, 0) else (C.zero, 10)) else (⟨k, 1, (R &&& P : Nat), D, 0, 0⟩, 0) := by
  have e1 : M.bgd k = true := by rcases hk with rfl | rfl <;> rfl
  have e2 : M.rgd k = true := by rcases hk with rfl | rfl <;> rfl
  have e3 : ¬ k = 2 := by omega
  unfold M.drv
  rw [if_pos (src_mine k R D hk hR hD), M.nat_ck hP, if_pos rfl, e1, e2, if_pos rfl, M.msk_nat hR hP]
  by_cases hx : x = 0
  · simp [hx, e3]
  · have : ((D : Int) ≠ 0) ↔ D ≠ 0 := by omega
    simp only [hx, ne_eq, not_false_eq_true, and_self, if_true]
    by_cases hd : D = 0
    · subst hd; simp
    · have : ¬ ((D : Int) = 0) := by omega
      simp [hd]

theorem walk (b0 : Bool) (a1 : Int) (a2 : Int) (a3 : Int) (w3 : (Lit.int .u64 a3).wf = true) (a4 : Int) (w4 : (Lit.int .u64 a4).wf = true) (w : World) :
    Calls Try.prog 3 #[.bool b0, .int .i64 a1, .int .i64 a2, .int .u64 a3, .int .u64 a4] w fun e w' => e = .returned (.bool true) ∧ Below w.heap.size w w' := by
  refine endWalk ?_
  obtain ⟨p3, q3⟩ := u64_wf w3
  obtain ⟨p4, q4⟩ := u64_wf w4
  have hw : ∀ a : Int, ∃ U : Nat, IntKind.u64.wrap a = (U : Int) := fun a => ⟨(IntKind.u64.wrap a).toNat, by rw [IntKind.wrap_u64]; omega⟩
  obtain ⟨U1, e1⟩ := hw a1
  obtain ⟨U2, e2⟩ := hw a2
  obtain ⟨R, f1, hR⟩ : ∃ R : Nat, (U1 : Int) % 8 = (R : Int) ∧ R < 8 := ⟨U1 % 8, by omega, by omega⟩
  obtain ⟨P, f2, hP⟩ : ∃ P : Nat, (U2 : Int) % 8 = (P : Int) ∧ P < 8 := ⟨U2 % 8, by omega, by omega⟩
  obtain ⟨D, f3, d0, hD⟩ : ∃ D : Nat, 1 + a3 % 268435455 = (D : Int) ∧ 1 ≤ D ∧ D < 268435456 := ⟨(1 + a3 % 268435455).toNat, by omega, by omega, by omega⟩
  obtain ⟨E, f4, b1, hE⟩ : ∃ E : Nat, 1 + a4 % 268435455 = (E : Int) ∧ 1 ≤ E ∧ E < 268435456 := ⟨(1 + a4 % 268435455).toNat, by omega, by omega, by omega⟩
  have hs := M.and_val hR hP
  have hS : (R &&& P) < 8 := Nat.lt_of_le_of_lt Nat.and_le_left hR
  have hS7 : (R &&& P) &&& 7 = R &&& P := by
    have k : ∀ x : Fin 8, x.val &&& 7 = x.val := by decide
    exact k ⟨R &&& P, hS⟩
  have z0 : (0 : Int) ≤ 0 := Int.le_refl 0
  have n0 : ∀ x : Nat, (0 : Int) ≤ (x : Int) := fun x => Int.natCast_nonneg x
  have nD : ¬ (D : Int) = 0 := by omega
  have nE : ¬ (E : Int) = 0 := by omega
  have bD : M.blw (D : Int) 28 = true := by unfold M.blw; simp; omega
  have mine : ∀ k : Int, k = 4 ∨ k = 5 → M.drv ⟨k, 1, R, 0, 0, 0⟩ P D 0 0 = (⟨k, 1, (R &&& P : Nat), D, 0, 0⟩, 0) ∧ M.drv ⟨k, 1, (R &&& P : Nat), D, 0, 0⟩ 7 E 0 0 = (C.zero, 8) ∧
      M.drv ⟨k, 1, (R &&& P : Nat), D, 0, 0⟩ 7 0 0 0 = (⟨k, 1, (R &&& P : Nat), D, 0, 0⟩, 0) ∧ M.drv ⟨k, 1, R, 0, 0, 0⟩ P 268435456 0 0 = (C.zero, 10) := by
    intro k hk
    refine ⟨?_, ?_, ?_, ?_⟩
    · have h := drv_mine k R 0 P D hk hR (by omega) hP
      rw [if_pos nD, if_neg (by simp), bD, if_pos rfl] at h
      exact h
    · have h := drv_mine k (R &&& P) D 7 E hk hS hD (by omega)
      rw [if_pos nE, if_pos (by omega)] at h
      exact h
    · have h := drv_mine k (R &&& P) D 7 0 hk hS hD (by omega)
      rw [if_neg (by simp), hS7] at h
      exact h
    · have h := drv_mine k R 0 P 268435456 hk hR (by omega) hP
      rw [if_pos (by decide), if_neg (by simp), if_neg (by decide)] at h
      exact h
  cases b0
  · obtain ⟨m1, m2, m3, m4⟩ := mine 4 (.inl rfl)
    exact inner4 a1 a2 a3 a4 U1 U2 R P D E (R &&& P) e1 e2 f1 f2 f3 f4 hR hP hD hE p3 p4 q3 q4 hs (fun w => derive_is _ _ _ _ _ _ _ _ _ _ _ _ z0 z0 (n0 D) z0 m1 w) (fun w => derive_is _ _ _ _ _ _ _ _ _ _ _ _ (n0 D) z0 (n0 E) z0 m2 w)
      (fun w => derive_is _ _ _ _ _ _ _ _ _ _ _ _ (n0 D) z0 z0 z0 m3 w) (fun w => derive_is _ _ _ _ _ _ _ _ _ _ _ _ z0 z0 (by decide) z0 m4 w) w
  · obtain ⟨m1, m2, m3, m4⟩ := mine 5 (.inr rfl)
    exact inner5 a1 a2 a3 a4 U1 U2 R P D E (R &&& P) e1 e2 f1 f2 f3 f4 hR hP hD hE p3 p4 q3 q4 hs (fun w => derive_is _ _ _ _ _ _ _ _ _ _ _ _ z0 z0 (n0 D) z0 m1 w) (fun w => derive_is _ _ _ _ _ _ _ _ _ _ _ _ (n0 D) z0 (n0 E) z0 m2 w)
      (fun w => derive_is _ _ _ _ _ _ _ _ _ _ _ _ (n0 D) z0 z0 z0 m3 w) (fun w => derive_is _ _ _ _ _ _ _ _ _ _ _ _ z0 z0 (by decide) z0 m4 w) w

set_option maxRecDepth 100000 in
theorem lifted (os : Os) (started : os.Started) (H : Type) (enc : TypeId × Value → H) :
    ReturnsInHanded {} Try.checked os 3 .any (Rows.capBadgesSpec.pre6 enc Try.prog Try.f3 Rows.capBadgesRow.domain false) (Rows.capBadgesSpec.post enc Try.prog Try.f3 false true false false) := by
  refine returnsInHanded_of_change (C := Try.checked) own started (by kernel_rfl) Try.func3
    (ChangeSpec.witness6 (enc := enc) (C := Try.checked) false ⟨#[], #[.bool false, .int .i64 0, .int .i64 0, .int .u64 0, .int .u64 0], []⟩ 8 (by kernel_rfl) (by kernel_rfl) (by kernel_rfl) (by kernel_rfl)) ?_
  intro W base args ds gs before hval0 hW hcnd _
  have hval : ∀ (j : Nat) t v, Try.f3.params[j]? = some t → args[j]? = some v → Value.okWide Try.prog W .any base t v := hval0
  have hW' := hW
  obtain ⟨p, q, hA0, hV, rfl, hfz, hnd⟩ := hW
  have hA : DataW.TrodAll enc Try.prog W 0 (fun _ => true) true Try.f3.params.toList args.toList ds p := hA0
  rw [Try.params3] at hA hval
  obtain ⟨v0, vs0, d0, ds0, p0, q0, hargs, rfl, rfl, h0, r0⟩ := trodAll_cons hA
  obtain ⟨v1, vs1, d1, ds1, p1, q1, rfl, rfl, rfl, h1, r1⟩ := trodAll_cons r0
  obtain ⟨v2, vs2, d2, ds2, p2, q2, rfl, rfl, rfl, h2, r2⟩ := trodAll_cons r1
  obtain ⟨v3, vs3, d3, ds3, p3, q3, rfl, rfl, rfl, h3, r3⟩ := trodAll_cons r2
  obtain ⟨v4, vs4, d4, ds4, p4, q4, rfl, rfl, rfl, h4, r4⟩ := trodAll_cons r3
  obtain ⟨rfl, rfl, rfl⟩ := trodAll_nil r4
  obtain rfl : args = #[v0, v1, v2, v3, v4] := by cases args; simp_all
  obtain ⟨rfl, rfl⟩ := trodVars_none hV
  obtain ⟨b0, rfl, rfl, rfl⟩ := open_bool Try.underlying4 (hval 0 4 v0 rfl rfl) h0
  obtain ⟨a1, rfl, rfl, rfl, w1⟩ := open_int Try.underlying3 (hval 1 3 v1 rfl rfl) h1
  obtain ⟨a2, rfl, rfl, rfl, w2⟩ := open_int Try.underlying3 (hval 2 3 v2 rfl rfl) h2
  obtain ⟨a3, rfl, rfl, rfl, w3⟩ := open_int Try.underlying22 (hval 3 22 v3 rfl rfl) h3
  obtain ⟨a4, rfl, rfl, rfl, w4⟩ := open_int Try.underlying22 (hval 4 22 v4 rfl rfl) h4
  clear hA0 hval0
  refine (walk b0 a1 a2 a3 w3 a4 w4 W).mono fun e W' ⟨he, bel⟩ => ?_
  subst he
  exact ⟨_, rfl, _, _, _, [], _, [], hW', trodAll_mk1 (shut_bool Try.underlying4 _), (trodAll_cons_mk (shut_bool Try.underlying4 _) (trodAll_cons_mk (shut_int Try.underlying3 w1) (trodAll_cons_mk (shut_int Try.underlying3 w2) (trodAll_cons_mk (shut_int Try.underlying22 w3) (trodAll_cons_mk (shut_int Try.underlying22 w4) trodAll_mk0))))), rfl, bel.frame _, fun h => by cases h⟩

theorem over : Rows.capBadgesRow.holds Try.pinned (OpenSpec.ofChange Rows.capBadgesSpec) :=
  OpenClaim.holds_of_wide 3 Try.f3 rfl rfl rfl rfl rfl rfl rfl ⟨rfl, rfl, rfl, rfl, rfl⟩ rfl rfl rfl rfl rfl (by kernel_rfl) Try.func3 (by kernel_rfl)
    (of_decide_eq_true (by kernel_rfl)) (by unfold Func.isWrapper; first | (rw [if_pos (by decide +kernel)]; kernel_rfl) | (rw [if_neg (by decide +kernel)]; exact ⟨rfl, rfl⟩))
    (fun os started H enc _ => lifted os started H enc)

theorem proved : Rows.CapBadgesSaid := over
end Go.Proofs.Ytkgjcolimceogab.capBadges
namespace Go.Proofs.Ytkgjcolimceogab
theorem capBadges_holds : Rows.CapBadgesSaid := capBadges.proved
#print axioms capBadges_holds
end Go.Proofs.Ytkgjcolimceogab
