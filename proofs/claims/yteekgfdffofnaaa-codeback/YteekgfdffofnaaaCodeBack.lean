/- AN INSTRUCTION IN A WORD IS THE SAME AGAIN; A WORD THAT IS ONE IS THE SAME WORD AGAIN: at any instruction and any word (no condition). -/
import Derived.Test.YteekgfdffofnaaaArgs
import Derived.Test.YteekgfdffofnaaaWrk
import Derived.Deep.Cut
import Derived.Deep.CutRange
import Derived.Deep.RegionHeld3
import Derived.Test.YteekgfdffofnaaaArgs
import Derived.ProofKit
import Derived.OpenShut
import Derived.ShutString
import Derived.ChangeOld
import Derived.Below
import Derived.Deep.Slices
namespace Go.Proofs.Yteekgfdffofnaaa.codeBack
open Go.ChangeShapes Go.WideShapes Go.ChangeAt Go.RowKit
set_option linter.unusedVariables false

theorem own : ownKnob Try.prog.godebug = none := by kernel_rfl
theorem laidOut : laidOutB Try.prog = true := by kernel_rfl

/-- What Unpack takes is what Pack made of it. -/
theorem M.up_back {W : Nat} {j : I} (h : M.up W = (j, 0)) : M.pk j = ((W : Int), 0) := by
  unfold M.up at h
  by_cases c : M.pk (M.fe W) = ((W : Int), 0)
  · rw [if_pos c] at h
    simp only [Prod.mk.injEq, and_true] at h
    rw [← h]; exact c
  · rw [if_neg c] at h
    simp at h
theorem M.up_zero {W : Nat} {j : I} {e : Int} (h : M.up W = (j, e)) (he : (e != 0) = true) : j = I.zero := by
  unfold M.up at h
  by_cases c : M.pk (M.fe W) = ((W : Int), 0)
  · rw [if_pos c] at h
    simp only [Prod.mk.injEq] at h
    rw [← h.2] at he
    simp at he
  · rw [if_neg c] at h
    simp only [Prod.mk.injEq] at h
    exact h.1.symm
/-- What Pack makes, Unpack takes. -/
theorem M.pk_back {i : I} {x : Int} (h : M.pk i = (x, 0)) : ∃ X : Nat, x = X ∧ X < 18446744073709551616 ∧ M.up X = (i, 0) := by
  unfold M.pk at h
  by_cases c : M.rt i = true
  · rw [if_pos c] at h
    simp only [Prod.mk.injEq, and_true] at h
    obtain ⟨o, a, b, m, rfl, ho, ha, hb, hm⟩ := M.rt_nat c
    refine ⟨o + 32 * a + 256 * b + 2048 * m, by rw [← h]; unfold M.wd; simp only; omega, by omega, ?_⟩
    rw [M.up_yes (by omega) (by omega)]
    simp only [Prod.mk.injEq, I.mk.injEq, and_true]
    omega
  · rw [if_neg c] at h
    simp at h

set_option maxHeartbeats 4000000 in
theorem core (i j : I) (W X : Nat) (x e g : Int) (w : World)
    (H1 : ∀ w, Calls Try.prog 9 #[iv i] w fun r w' => r = .returned (.tuple #[.int .u64 x, .int .i64 e]) ∧ w.grownBy w' none)
    (H2 : (e == 0) = false ∨ e = 0 ∧ x = X ∧ ∀ w, Calls Try.prog 12 #[.int .u64 X] w fun r w' => r = .returned (.tuple #[iv i, .int .i64 0]) ∧ w.grownBy w' none)
    (H3 : ∀ w, Calls Try.prog 12 #[.int .u64 W] w fun r w' => r = .returned (.tuple #[iv j, .int .i64 g]) ∧ w.grownBy w' none)
    (H4 : (g != 0) = true ∧ j = I.zero ∨ g = 0 ∧ ∀ w, Calls Try.prog 9 #[iv j] w fun r w' => r = .returned (.tuple #[.int .u64 W, .int .i64 0]) ∧ w.grownBy w' none) :
    Calls Try.prog 5 #[iv i, .int .u64 W] w fun r w' => r = .returned (.bool true) ∧ w.grownBy w' none := by
  replace H2 := hideIt H2
  replace H4 := hideIt H4
  go_enter Try.func5, Try.ntmps5
  go_upto_region 1 with (refine wpList_boxW rfl _ rfl rfl ?_; intro W1 b B G l1)
  go_wp2_with fail
  refine (works_is _).mono ?_
  rintro r w0 ⟨rfl, g0⟩
  replace B := B.kept g0
  replace G := gbTrans G g0
  clear g0
  go_wp2_with (refine wpList_loadW rfl _ rfl rfl B tkJ rfl ?_)
  refine (to_is i _).mono ?_
  rintro r w1 ⟨rfl, g1⟩
  go_wp2_with fail
  refine (H1 _).mono ?_
  rintro r w2 ⟨rfl, g2⟩
  replace B := (B.kept g1).kept g2
  replace G := gbTrans (gbTrans G g1) g2
  clear g1 g2 H1
  go_upto_if 22 with fail
  go_cut [] from 5 to 36 (fun wc => w.grownBy wc none)
  case first =>
    obtain P2 | ⟨rfl, rfl, P2⟩ := H2.out
    · go_wp2
      go_meet
      exact G
    · go_wp2_with fail
      refine (P2 _).mono ?_
      rintro r w3 ⟨rfl, g3⟩
      replace B := B.kept g3
      replace G := gbTrans G g3
      clear g3 P2 H2
      go_upto_region 6 with (first | (refine wpList_allocW rfl rfl zI ?_; intro V1 x1 X1 k1 l1) | (refine wpList_storeW rfl _ _ rfl rfl rfl X1 tkI rfl rfl (ic_one _) ?_; intro W5 C h1))
      replace B := B.past k1 l1 h1
      replace G := gbMade G k1 l1 h1
      clear k1 l1 h1 X1
      have q1 := fun w => run_neq_I w i
      have q2 := eqGuardI
      have CG := C.gr
      have BG := B.gr
      refine wp_region_grown (by kernel_rfl) (by kernel_rfl) fun _ => ?_
      repeat (first | (refine wpQuiet_loadW rfl _ rfl rfl CG tkI rfl ?_; simp only [Act.put, List.setIfInBounds_toArray, List.set_cons_zero, List.set_cons_succ]) | (refine wpQuiet_loadW rfl _ rfl rfl BG tkJ rfl ?_; simp only [Act.put, List.setIfInBounds_toArray, List.set_cons_zero, List.set_cons_succ]) | (go_big_quiet_step ((go_at_call 10; with_reducible exact callsGr (to_is i _)))))
      refine wpQuiet_nil ?_
      rintro _ ⟨y, rfl⟩
      go_wp2
      go_meet
      exact gbTrans G y.g
  case rest =>
  clear G B
  have G := hcut
  go_wp2_with fail
  refine (H3 _).mono ?_
  rintro r w6 ⟨rfl, g6⟩
  replace G := gbTrans G g6
  clear g6 H3
  go_upto_region 9 with (first | (refine wpList_allocW rfl rfl zI ?_; intro V2 x2 X2 k2 l2) | (refine wpList_storeW rfl _ _ rfl rfl rfl X2 tkI rfl rfl (ic_one _) ?_; intro W7 D h2))
  replace G := gbMade G k2 l2 h2
  clear k2 l2 h2 X2
  obtain ⟨h4, rfl⟩ | ⟨rfl, P4⟩ := H4.out
  · have q1 := fun w => run_eql_I w I.zero
    have q2 := eqGuardI
    go_wp2_with (first | (refine wpList_loadW rfl _ rfl rfl D tkI rfl ?_) | (refine wpList_buildW rfl [] rfl [] rfl (ic I.zero) (by kernel_rfl) ?_))
    go_ret
    exact ⟨rfl, G⟩
  · go_wp2_with (refine wpList_loadW rfl _ rfl rfl D tkI rfl ?_)
    refine (P4 _).mono ?_
    rintro r w8 ⟨rfl, g8⟩
    replace G := gbTrans G g8
    clear g8 D
    go_wp2
    go_ret
    exact ⟨rfl, G⟩

theorem walk (i0 : I) (a1 : Int) (w1 : (Lit.int .u64 a1).wf = true) (w : World) :
    Calls Try.prog 5 #[iv i0, .int .u64 a1] w fun e w' => e = .returned (.bool true) ∧ Below w.heap.size w w' := by
  refine endWalk ?_
  obtain ⟨A, rfl, hA⟩ := natOf w1
  obtain ⟨⟨x, e⟩, h1⟩ : ∃ p, M.pk i0 = p := ⟨_, rfl⟩
  obtain ⟨⟨j, g⟩, h2⟩ : ∃ p, M.up A = p := ⟨_, rfl⟩
  have H4 : (g != 0) = true ∧ j = I.zero ∨ g = 0 ∧ ∀ w, Calls Try.prog 9 #[iv j] w fun r w' => r = .returned (.tuple #[.int .u64 A, .int .i64 0]) ∧ w.grownBy w' none := by
    by_cases c : g = 0
    · subst c; exact .inr ⟨rfl, pack_is j _ _ (M.up_back h2)⟩
    · have c' : (g != 0) = true := by simpa using c
      exact .inl ⟨c', M.up_zero h2 c'⟩
  by_cases c : e = 0
  · subst c
    obtain ⟨X, rfl, hX, hu⟩ := M.pk_back h1
    exact core i0 j A X X 0 g w (pack_is i0 _ _ h1) (.inr ⟨rfl, rfl, unpack_is X _ _ hX hu⟩) (unpack_is A j g hA h2) H4
  · exact core i0 j A 0 x e g w (pack_is i0 x e h1) (.inl (by simpa using c)) (unpack_is A j g hA h2) H4

set_option maxRecDepth 100000 in
theorem lifted (os : Os) (started : os.Started) (H : Type) (enc : TypeId × Value → H) :
    ReturnsInHanded {} Try.checked os 5 .any (Rows.codeBackSpec.pre6 enc Try.prog Try.f5 Rows.codeBackRow.domain false) (Rows.codeBackSpec.post enc Try.prog Try.f5 false true false false) := by
  refine returnsInHanded_of_change (C := Try.checked) own started (by kernel_rfl) Try.func5
    (ChangeSpec.witness6 (enc := enc) (C := Try.checked) false ⟨#[], #[.agg #[.int .i64 0, .int .i64 0, .int .i64 0, .int .i64 0], .int .u64 0], []⟩ 8 (by kernel_rfl) (by kernel_rfl) (by kernel_rfl) (by kernel_rfl)) ?_
  intro W base args ds gs before hval0 hW hcnd _
  have hval : ∀ (j : Nat) t v, Try.f5.params[j]? = some t → args[j]? = some v → Value.okWide Try.prog W .any base t v := hval0
  have hW' := hW
  obtain ⟨p, q, hA0, hV, rfl, hfz, hnd⟩ := hW
  have hA : DataW.TrodAll enc Try.prog W 0 (fun _ => true) true Try.f5.params.toList args.toList ds p := hA0
  rw [Try.params5] at hA hval
  obtain ⟨v0, vs0, d0, ds0, p0, q0, hargs, rfl, rfl, h0, r0⟩ := trodAll_cons hA
  obtain ⟨v1, vs1, d1, ds1, p1, q1, rfl, rfl, rfl, h1, r1⟩ := trodAll_cons r0
  obtain ⟨rfl, rfl, rfl⟩ := trodAll_nil r1
  obtain rfl : args = #[v0, v1] := by cases args; simp_all
  obtain ⟨rfl, rfl⟩ := trodVars_none hV
  obtain ⟨i0, rfl⟩ := insArg (hval 0 23 v0 rfl rfl) h0
  have k0 := h0
  have lt0 : ∀ x ∈ p0, x.block < W.heap.size := by obtain ⟨m, hm⟩ := k0; exact DataW.trod_lt m _ _ _ hm
  obtain ⟨a1, rfl, rfl, rfl, w1⟩ := open_int Try.underlying24 (hval 1 24 v1 rfl rfl) h1
  clear hA0 hval0
  refine (walk i0 a1 w1 W).mono fun e W' ⟨he, bel⟩ => ?_
  subst he
  exact ⟨_, rfl, _, _, _, [], _, [], hW', trodAll_mk1 (shut_bool Try.underlying4 _), (trodAll_cons_mk (Below.trod laidOut (by kernel_rfl) (of_decide_eq_true (by kernel_rfl)) k0 bel lt0) (trodAll_cons_mk (shut_int Try.underlying24 w1) trodAll_mk0)), rfl, bel.frame _, fun h => by cases h⟩

theorem over : Rows.codeBackRow.holds Try.pinned (OpenSpec.ofChange Rows.codeBackSpec) :=
  OpenClaim.holds_of_wide 5 Try.f5 rfl rfl rfl rfl rfl rfl rfl ⟨rfl, rfl, rfl, rfl, rfl⟩ rfl rfl rfl rfl rfl (by kernel_rfl) Try.func5 (by kernel_rfl)
    (of_decide_eq_true (by kernel_rfl)) (by unfold Func.isWrapper; first | (rw [if_pos (by decide +kernel)]; kernel_rfl) | (rw [if_neg (by decide +kernel)]; exact ⟨rfl, rfl⟩))
    (fun os started H enc _ => lifted os started H enc)

theorem proved : Rows.CodeBackSaid := over
end Go.Proofs.Yteekgfdffofnaaa.codeBack
namespace Go.Proofs.Yteekgfdffofnaaa
theorem codeBack_holds : Rows.CodeBackSaid := codeBack.proved
#print axioms codeBack_holds
end Go.Proofs.Yteekgfdffofnaaa
