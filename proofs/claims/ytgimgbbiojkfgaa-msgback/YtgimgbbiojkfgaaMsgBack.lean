/- MsgBack (16.3): an info in a word is the same info again, and a word that is one the same word again. For every input; no condition. -/
import Derived.Test.YtgimgbbiojkfgaaRca
import Derived.Test.YtgimgbbiojkfgaaArgs
import Derived.ProofKit
import Derived.OpenShut
import Derived.ShutString
import Derived.ChangeOld
import Derived.Below
import Derived.Deep.Slices
namespace Go.Proofs.Ytgimgbbiojkfgaa.msgBack
open Go.ChangeShapes Go.WideShapes Go.ChangeAt Go.RowKit
set_option linter.unusedVariables false

theorem own : ownKnob Try.prog.godebug = none := by kernel_rfl
theorem laidOut : laidOutB Try.prog = true := by kernel_rfl

set_option maxHeartbeats 2000000 in
set_option maxRecDepth 10000 in
theorem back_yy (l n : Int) (c : Bool) (W x : Int)  (d0 d1 : Int) (d2 : Bool) 
    (HP : ∀ w, Calls Try.prog 9 #[iv ⟨l, n, c⟩] w fun e w' => e = .returned (.tuple #[.int .u64 x, .int .i64 0]) ∧ w.grownBy w' none)
    (HX : ∀ w, Calls Try.prog 11 #[.int .u64 x] w fun e w' => e = .returned (.tuple #[iv ⟨l, n, c⟩, .int .i64 0]) ∧ w.grownBy w' none)
    (HU : ∀ w, Calls Try.prog 11 #[.int .u64 W] w fun e w' => e = .returned (.tuple #[iv ⟨d0, d1, d2⟩, .int .i64 0]) ∧ w.grownBy w' none)
    (HV : ∀ w, Calls Try.prog 9 #[iv ⟨d0, d1, d2⟩] w fun e w' => e = .returned (.tuple #[.int .u64 W, .int .i64 0]) ∧ w.grownBy w' none) (w : World) :
    Calls Try.prog 5 #[iv ⟨l, n, c⟩, .int .u64 W] w fun e w' => e = .returned (.bool true) ∧ w.grownBy w' none := by
  have qe := eqGuard_p
  have qn := run_neq_p
  have he : M.eq ⟨l, n, c⟩ ⟨l, n, c⟩ = true := M.eq_refl _
  go_enter Try.func5, Try.ntmps5
  go_upto_region 1 with fail
  obtain ⟨W0, hW0, X, G⟩ := boxNew w ⟨l, n, c⟩ 24
  simp only at hW0
  rw [hW0]
  clear hW0
  generalize w.heap.size = x0 at X
  go_wp2_with fail
  refine (works_any _).mono ?_
  rintro e w1 ⟨rfl, g1⟩
  replace X := X.kept g1
  replace G := gbTrans G g1
  clear g1
  obtain ⟨a0, a1, a2, _, _⟩ := id X
  go_upto_region 4 with fail
  obtain ⟨W1, hW1, Y, k1⟩ := boxNew w1 ⟨l, n, c⟩ 28
  simp only at hW1
  rw [hW1]
  clear hW1 a0 a1 a2 X
  generalize w1.heap.size = x1 at Y
  replace G := gbTrans G k1
  clear k1
  obtain ⟨a0, a1, a2, _, _⟩ := id Y
  go_wp2_with fail
  refine (HP _).mono ?_
  rintro e w2 ⟨rfl, g2⟩
  clear a0 a1 a2
  replace Y := Y.kept g2
  replace G := gbTrans G g2
  clear g2
  go_wp2_with fail
  refine (HX _).mono ?_
  rintro e w3 ⟨rfl, g3⟩
  go_upto_region 7 with fail
  obtain ⟨W3, hW3, Z, k3⟩ := boxNew w3 ⟨l, n, c⟩ 28
  simp only at hW3
  rw [hW3]
  clear hW3
  generalize w3.heap.size = x3 at Z
  replace Y := (Y.kept g3).kept k3
  replace G := gbTrans (gbTrans G g3) k3
  clear g3 k3
  obtain ⟨a0, a1, a2, _, _⟩ := Y
  obtain ⟨z0, z1, z2, _, _⟩ := Z
  simp only at a0 a1 a2 z0 z1 z2
  go_wp2_with fail
  clear a0 a1 a2 z0 z1 z2
  refine (HU _).mono ?_
  rintro e w4 ⟨rfl, g4⟩
  go_upto_region 10 with fail
  obtain ⟨W4, hW4, V, k4⟩ := boxNew w4 ⟨d0, d1, d2⟩ 28
  simp only at hW4
  rw [hW4]
  clear hW4
  generalize w4.heap.size = x4 at V
  replace G := gbTrans (gbTrans G g4) k4
  clear g4 k4
  obtain ⟨v0, v1, v2, _, _⟩ := V
  simp only at v0 v1 v2
  go_wp2_with fail
  refine (HV _).mono ?_
  rintro e w5 ⟨rfl, g5⟩
  replace G := gbTrans G g5
  clear g5 v0 v1 v2
  go_wp2
  go_ret
  exact ⟨rfl, G⟩

set_option maxHeartbeats 2000000 in
set_option maxRecDepth 10000 in
theorem back_yn (l n : Int) (c : Bool) (W x : Int)  (d0 d1 : Int) (d2 : Bool) (h : Int) (hh : (h != 0) = true)
    (HP : ∀ w, Calls Try.prog 9 #[iv ⟨l, n, c⟩] w fun e w' => e = .returned (.tuple #[.int .u64 x, .int .i64 0]) ∧ w.grownBy w' none)
    (HX : ∀ w, Calls Try.prog 11 #[.int .u64 x] w fun e w' => e = .returned (.tuple #[iv ⟨l, n, c⟩, .int .i64 0]) ∧ w.grownBy w' none)
    (HU : ∀ w, Calls Try.prog 11 #[.int .u64 W] w fun e w' => e = .returned (.tuple #[iv ⟨d0, d1, d2⟩, .int .i64 h]) ∧ w.grownBy w' none) (w : World) :
    Calls Try.prog 5 #[iv ⟨l, n, c⟩, .int .u64 W] w fun e w' => e = .returned (.bool true) ∧ w.grownBy w' none := by
  have qe := eqGuard_p
  have qn := run_neq_p
  have he : M.eq ⟨l, n, c⟩ ⟨l, n, c⟩ = true := M.eq_refl _
  go_enter Try.func5, Try.ntmps5
  go_upto_region 1 with fail
  obtain ⟨W0, hW0, X, G⟩ := boxNew w ⟨l, n, c⟩ 24
  simp only at hW0
  rw [hW0]
  clear hW0
  generalize w.heap.size = x0 at X
  go_wp2_with fail
  refine (works_any _).mono ?_
  rintro e w1 ⟨rfl, g1⟩
  replace X := X.kept g1
  replace G := gbTrans G g1
  clear g1
  obtain ⟨a0, a1, a2, _, _⟩ := id X
  go_upto_region 4 with fail
  obtain ⟨W1, hW1, Y, k1⟩ := boxNew w1 ⟨l, n, c⟩ 28
  simp only at hW1
  rw [hW1]
  clear hW1 a0 a1 a2 X
  generalize w1.heap.size = x1 at Y
  replace G := gbTrans G k1
  clear k1
  obtain ⟨a0, a1, a2, _, _⟩ := id Y
  go_wp2_with fail
  refine (HP _).mono ?_
  rintro e w2 ⟨rfl, g2⟩
  clear a0 a1 a2
  replace Y := Y.kept g2
  replace G := gbTrans G g2
  clear g2
  go_wp2_with fail
  refine (HX _).mono ?_
  rintro e w3 ⟨rfl, g3⟩
  go_upto_region 7 with fail
  obtain ⟨W3, hW3, Z, k3⟩ := boxNew w3 ⟨l, n, c⟩ 28
  simp only at hW3
  rw [hW3]
  clear hW3
  generalize w3.heap.size = x3 at Z
  replace Y := (Y.kept g3).kept k3
  replace G := gbTrans (gbTrans G g3) k3
  clear g3 k3
  obtain ⟨a0, a1, a2, _, _⟩ := Y
  obtain ⟨z0, z1, z2, _, _⟩ := Z
  simp only at a0 a1 a2 z0 z1 z2
  go_wp2_with fail
  clear a0 a1 a2 z0 z1 z2
  refine (HU _).mono ?_
  rintro e w4 ⟨rfl, g4⟩
  go_upto_region 10 with fail
  obtain ⟨W4, hW4, V, k4⟩ := boxNew w4 ⟨d0, d1, d2⟩ 28
  simp only at hW4
  rw [hW4]
  clear hW4
  generalize w4.heap.size = x4 at V
  replace G := gbTrans (gbTrans G g4) k4
  clear g4 k4
  go_wp2
  go_ret
  exact ⟨rfl, G⟩

set_option maxHeartbeats 2000000 in
set_option maxRecDepth 10000 in
theorem back_ny (l n : Int) (c : Bool) (W x : Int) (f : Int) (hf : (f == 0) = false) (d0 d1 : Int) (d2 : Bool) 
    (HP : ∀ w, Calls Try.prog 9 #[iv ⟨l, n, c⟩] w fun e w' => e = .returned (.tuple #[.int .u64 x, .int .i64 f]) ∧ w.grownBy w' none)
    (HU : ∀ w, Calls Try.prog 11 #[.int .u64 W] w fun e w' => e = .returned (.tuple #[iv ⟨d0, d1, d2⟩, .int .i64 0]) ∧ w.grownBy w' none)
    (HV : ∀ w, Calls Try.prog 9 #[iv ⟨d0, d1, d2⟩] w fun e w' => e = .returned (.tuple #[.int .u64 W, .int .i64 0]) ∧ w.grownBy w' none) (w : World) :
    Calls Try.prog 5 #[iv ⟨l, n, c⟩, .int .u64 W] w fun e w' => e = .returned (.bool true) ∧ w.grownBy w' none := by
  have qe := eqGuard_p
  have qn := run_neq_p
  have he : M.eq ⟨l, n, c⟩ ⟨l, n, c⟩ = true := M.eq_refl _
  go_enter Try.func5, Try.ntmps5
  go_upto_region 1 with fail
  obtain ⟨W0, hW0, X, G⟩ := boxNew w ⟨l, n, c⟩ 24
  simp only at hW0
  rw [hW0]
  clear hW0
  generalize w.heap.size = x0 at X
  go_wp2_with fail
  refine (works_any _).mono ?_
  rintro e w1 ⟨rfl, g1⟩
  replace X := X.kept g1
  replace G := gbTrans G g1
  clear g1
  obtain ⟨a0, a1, a2, _, _⟩ := id X
  go_upto_region 4 with fail
  obtain ⟨W1, hW1, Y, k1⟩ := boxNew w1 ⟨l, n, c⟩ 28
  simp only at hW1
  rw [hW1]
  clear hW1 a0 a1 a2 X
  generalize w1.heap.size = x1 at Y
  replace G := gbTrans G k1
  clear k1
  obtain ⟨a0, a1, a2, _, _⟩ := id Y
  go_wp2_with fail
  refine (HP _).mono ?_
  rintro e w2 ⟨rfl, g2⟩
  clear a0 a1 a2
  replace Y := Y.kept g2
  replace G := gbTrans G g2
  clear g2
  clear Y
  go_wp2_with fail
  refine (HU _).mono ?_
  rintro e w4 ⟨rfl, g4⟩
  go_upto_region 10 with fail
  obtain ⟨W4, hW4, V, k4⟩ := boxNew w4 ⟨d0, d1, d2⟩ 28
  simp only at hW4
  rw [hW4]
  clear hW4
  generalize w4.heap.size = x4 at V
  replace G := gbTrans (gbTrans G g4) k4
  clear g4 k4
  obtain ⟨v0, v1, v2, _, _⟩ := V
  simp only at v0 v1 v2
  go_wp2_with fail
  refine (HV _).mono ?_
  rintro e w5 ⟨rfl, g5⟩
  replace G := gbTrans G g5
  clear g5 v0 v1 v2
  go_wp2
  go_ret
  exact ⟨rfl, G⟩

set_option maxHeartbeats 2000000 in
set_option maxRecDepth 10000 in
theorem back_nn (l n : Int) (c : Bool) (W x : Int) (f : Int) (hf : (f == 0) = false) (d0 d1 : Int) (d2 : Bool) (h : Int) (hh : (h != 0) = true)
    (HP : ∀ w, Calls Try.prog 9 #[iv ⟨l, n, c⟩] w fun e w' => e = .returned (.tuple #[.int .u64 x, .int .i64 f]) ∧ w.grownBy w' none)
    (HU : ∀ w, Calls Try.prog 11 #[.int .u64 W] w fun e w' => e = .returned (.tuple #[iv ⟨d0, d1, d2⟩, .int .i64 h]) ∧ w.grownBy w' none) (w : World) :
    Calls Try.prog 5 #[iv ⟨l, n, c⟩, .int .u64 W] w fun e w' => e = .returned (.bool true) ∧ w.grownBy w' none := by
  have qe := eqGuard_p
  have qn := run_neq_p
  have he : M.eq ⟨l, n, c⟩ ⟨l, n, c⟩ = true := M.eq_refl _
  go_enter Try.func5, Try.ntmps5
  go_upto_region 1 with fail
  obtain ⟨W0, hW0, X, G⟩ := boxNew w ⟨l, n, c⟩ 24
  simp only at hW0
  rw [hW0]
  clear hW0
  generalize w.heap.size = x0 at X
  go_wp2_with fail
  refine (works_any _).mono ?_
  rintro e w1 ⟨rfl, g1⟩
  replace X := X.kept g1
  replace G := gbTrans G g1
  clear g1
  obtain ⟨a0, a1, a2, _, _⟩ := id X
  go_upto_region 4 with fail
  obtain ⟨W1, hW1, Y, k1⟩ := boxNew w1 ⟨l, n, c⟩ 28
  simp only at hW1
  rw [hW1]
  clear hW1 a0 a1 a2 X
  generalize w1.heap.size = x1 at Y
  replace G := gbTrans G k1
  clear k1
  obtain ⟨a0, a1, a2, _, _⟩ := id Y
  go_wp2_with fail
  refine (HP _).mono ?_
  rintro e w2 ⟨rfl, g2⟩
  clear a0 a1 a2
  replace Y := Y.kept g2
  replace G := gbTrans G g2
  clear g2
  clear Y
  go_wp2_with fail
  refine (HU _).mono ?_
  rintro e w4 ⟨rfl, g4⟩
  go_upto_region 10 with fail
  obtain ⟨W4, hW4, V, k4⟩ := boxNew w4 ⟨d0, d1, d2⟩ 28
  simp only at hW4
  rw [hW4]
  clear hW4
  generalize w4.heap.size = x4 at V
  replace G := gbTrans (gbTrans G g4) k4
  clear g4 k4
  go_wp2
  go_ret
  exact ⟨rfl, G⟩

theorem M.up_pk {l n x : Int} {c : Bool} (l0 : 0 ≤ l) (h : M.pk ⟨l, n, c⟩ = (x, 0)) : ∃ X : Nat, x = X ∧ X < 18446744073709551616 ∧ M.up X = (⟨l, n, c⟩, 0) := by
  by_cases c1 : n < 0 ∨ 4 < n
  · rw [M.pk_range c1] at h; simp at h
  · by_cases c2 : 65536 ≤ l
    · rw [M.pk_field c1 c2] at h; simp at h
    · rw [M.pk_ok c1 c2] at h
      simp only [Prod.mk.injEq, and_true] at h
      obtain ⟨L, rfl⟩ : ∃ L : Nat, l = L := ⟨l.toNat, by omega⟩
      obtain ⟨N, rfl⟩ : ∃ N : Nat, n = N := ⟨n.toNat, by omega⟩
      cases c
      · refine ⟨N + 16 * L, by rw [← h]; simp, by omega, ?_⟩
        rw [M.up_yes (by omega) (by omega)]
        simp only [Prod.mk.injEq, I.mk.injEq, and_true, beq_eq_false_iff_ne]
        omega
      · refine ⟨N + 8 + 16 * L, by rw [← h]; simp, by omega, ?_⟩
        rw [M.up_yes (by omega) (by omega)]
        simp only [Prod.mk.injEq, I.mk.injEq, and_true, beq_iff_eq]
        omega

theorem M.pk_up {W : Nat} {i : I} (h : M.up W = (i, 0)) : M.pk i = ((W : Int), 0) := by
  unfold M.up at h
  by_cases c : M.pk (M.fe W) = ((W : Int), 0)
  · rw [if_pos c] at h; simp only [Prod.mk.injEq, and_true] at h; rw [← h]; exact c
  · rw [if_neg c] at h; simp at h
theorem M.up_l {W : Nat} {i : I} {f : Int} (h : M.up W = (i, f)) : 0 ≤ i.l := by
  unfold M.up at h
  by_cases c : M.pk (M.fe W) = ((W : Int), 0)
  · rw [if_pos c] at h; simp only [Prod.mk.injEq] at h; rw [← h.1]; exact Int.natCast_nonneg _
  · rw [if_neg c] at h; simp only [Prod.mk.injEq] at h; rw [← h.1]; exact Int.le_refl _

theorem walk (l n : Int) (c : Bool) (ul : U64 l) (a1 : Int) (w1 : (Lit.int .u64 a1).wf = true) (w : World) :
    Calls Try.prog 5 #[iv ⟨l, n, c⟩, .int .u64 a1] w fun e w' => e = .returned (.bool true) ∧ Below w.heap.size w w' := by
  refine endWalk ?_
  have u1 := u64_wf w1
  obtain ⟨W, rfl⟩ : ∃ A : Nat, a1 = A := ⟨a1.toNat, by have := u1.1; omega⟩
  have hW : W < 18446744073709551616 := by have := u1.2; omega
  obtain ⟨⟨x, f⟩, hp⟩ : ∃ p, M.pk ⟨l, n, c⟩ = p := ⟨_, rfl⟩
  obtain ⟨⟨⟨d0, d1, d2⟩, h⟩, hu⟩ : ∃ p, M.up W = p := ⟨_, rfl⟩
  have HP := fun w => pack_is l n c x f ul.1 hp w
  have HU := fun w => unpack_is W _ h hW hu w
  have hl := M.up_l hu
  by_cases hf : f = 0
  · subst hf
    obtain ⟨X, rfl, hX, hY⟩ := M.up_pk ul.1 hp
    have HX := fun w => unpack_is X _ 0 hX hY w
    by_cases hh : h = 0
    · subst hh
      exact back_yy l n c W _ d0 d1 d2 HP HX HU (fun w => pack_is d0 d1 d2 W 0 hl (M.pk_up hu) w) w
    · exact back_yn l n c W _ d0 d1 d2 h (bne_iff_ne.2 hh) HP HX HU w
  · by_cases hh : h = 0
    · subst hh
      exact back_ny l n c W x f (beq_eq_false_iff_ne.2 hf) d0 d1 d2 HP HU (fun w => pack_is d0 d1 d2 W 0 hl (M.pk_up hu) w) w
    · exact back_nn l n c W x f (beq_eq_false_iff_ne.2 hf) d0 d1 d2 h (bne_iff_ne.2 hh) HP HU w

set_option maxRecDepth 100000 in
theorem lifted (os : Os) (started : os.Started) (H : Type) (enc : TypeId × Value → H) :
    ReturnsInHanded {} Try.checked os 5 .any (Rows.msgBackSpec.pre6 enc Try.prog Try.f5 Rows.msgBackRow.domain false) (Rows.msgBackSpec.post enc Try.prog Try.f5 false true false false) := by
  refine returnsInHanded_of_change (C := Try.checked) own started (by kernel_rfl) Try.func5
    (ChangeSpec.witness6 (enc := enc) (C := Try.checked) false ⟨#[], #[.agg #[.int .u64 0, .int .i64 0, .bool false], .int .u64 0], []⟩ 8 (by kernel_rfl) (by kernel_rfl) (by kernel_rfl) (by kernel_rfl)) ?_
  intro W base args ds gs before hval0 hW hcnd _
  have hval : ∀ (j : Nat) t v, Try.f5.params[j]? = some t → args[j]? = some v → Value.okWide Try.prog W .any base t v := hval0
  have hW' := hW
  obtain ⟨p, q, hA0, hV, rfl, hfz, hnd⟩ := hW
  have hA : DataW.TrodAll enc Try.prog W 0 (fun _ => true) true Try.f5.params.toList args.toList ds p := hA0
  rw [Try.params5] at hA hval
  obtain ⟨v0, vs0, d0, ds0, p0, q0, hargs, rfl, rfl, h0, r0⟩ := trodAll_cons hA
  obtain ⟨v1, vs1, d1, ds1, p1, q1, rfl, rfl, rfl, h1, r1⟩ := trodAll_cons r0
  obtain ⟨rfl, rfl, rfl⟩ := trodAll_nil r1
  obtain rfl : args = #[v0, v1] := by cases args; simp_all
  obtain ⟨rfl, rfl⟩ := trodVars_none hV
  obtain ⟨L0, N0, C0, rfl, ul0⟩ := infoArg (hval 0 24 v0 rfl rfl) h0
  have k0 := h0
  have lt0 : ∀ x ∈ p0, x.block < W.heap.size := by obtain ⟨m, hm⟩ := k0; exact DataW.trod_lt m _ _ _ hm
  obtain ⟨a1, rfl, rfl, rfl, w1⟩ := open_int Try.underlying22 (hval 1 22 v1 rfl rfl) h1
  clear hA0 hval0
  refine (walk L0 N0 C0 ul0 a1 w1 W).mono fun e W' ⟨he, bel⟩ => ?_
  subst he
  exact ⟨_, rfl, _, _, _, [], _, [], hW', trodAll_mk1 (shut_bool Try.underlying4 _), (trodAll_cons_mk (Below.trod laidOut (by kernel_rfl) (of_decide_eq_true (by kernel_rfl)) k0 bel lt0) (trodAll_cons_mk (shut_int Try.underlying22 w1) trodAll_mk0)), rfl, bel.frame _, fun h => by cases h⟩

theorem over : Rows.msgBackRow.holds Try.pinned (OpenSpec.ofChange Rows.msgBackSpec) :=
  OpenClaim.holds_of_wide 5 Try.f5 rfl rfl rfl rfl rfl rfl rfl ⟨rfl, rfl, rfl, rfl, rfl⟩ rfl rfl rfl rfl rfl (by kernel_rfl) Try.func5 (by kernel_rfl)
    (of_decide_eq_true (by kernel_rfl)) (by unfold Func.isWrapper; first | (rw [if_pos (by decide +kernel)]; kernel_rfl) | (rw [if_neg (by decide +kernel)]; exact ⟨rfl, rfl⟩))
    (fun os started H enc _ => lifted os started H enc)

theorem proved : Rows.MsgBackSaid := over
end Go.Proofs.Ytgimgbbiojkfgaa.msgBack
namespace Go.Proofs.Ytgimgbbiojkfgaa
theorem msgBack_holds : Rows.MsgBackSaid := msgBack.proved
#print axioms msgBack_holds
end Go.Proofs.Ytgimgbbiojkfgaa
