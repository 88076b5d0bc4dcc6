/- WHAT COMES OF ANY INSTRUCTION: program and document give the same effect and the same error, with any registers, at any place (no condition). -/
import Derived.Test.YteekgfdffofnaaaRun
import Derived.Test.YteekgfdffofnaaaRrn
import Derived.Test.YteekgfdffofnaaaArgs
import Derived.Test.YteekgfdffofnaaaDrw
import Derived.Deep.Cut
import Derived.Deep.RegionHeld3
import Derived.Test.YteekgfdffofnaaaArgs
import Derived.ProofKit
import Derived.OpenShut
import Derived.ShutString
import Derived.ChangeOld
import Derived.Below
import Derived.Deep.Slices
namespace Go.Proofs.Yteekgfdffofnaaa.codeRuns
open Go.ChangeShapes Go.WideShapes Go.ChangeAt Go.RowKit
set_option linter.unusedVariables false

theorem own : ownKnob Try.prog.godebug = none := by kernel_rfl
theorem laidOut : laidOutB Try.prog = true := by kernel_rfl

set_option maxHeartbeats 4000000 in
theorem core (i : I) (V : Nat → Int) (x0 : Option Addr) (len0 cap0 : Nat) (p : Int) (u : E) (g : Int) (f : Nat → Int) (hf : rg V len0 = f) (w : World) (L : Wl w x0 len0 V)
    (H1 : ∀ w, Calls Try.prog 15 #[iv i, .agg (rc f), .int .i64 p] w fun r w' => r = .returned (.tuple #[.agg (ec u), .int .i64 g]) ∧ w.grownBy w' none)
    (H2 : ∀ w, Calls Try.prog 16 #[iv i, .agg (rc f), .int .i64 p] w fun r w' => r = .returned (.tuple #[.agg (ec u), .int .i64 g]) ∧ w.grownBy w' none) :
    Calls Try.prog 4 #[iv i, .slice x0 len0 cap0, .int .i64 p] w fun r w' => r = .returned (.bool true) ∧ w.grownBy w' none := by
  replace L := hideIt L
  go_enter Try.func4, Try.ntmps4
  go_upto_region 1 with (refine wpList_boxW rfl _ rfl rfl ?_; intro W1 b B G l1)
  go_wp2_with fail
  refine (regs_is V x0 len0 cap0 _ (L.out.kept G)).mono ?_
  rintro r w1 ⟨rfl, g1⟩
  rw [hf]
  replace B := B.kept g1
  replace G := gbTrans G g1
  clear g1 L
  go_upto_region 2 with (first | (refine wpList_allocW rfl rfl zQ ?_; intro V1 x1 X1 k1 l1) | (refine wpList_storeW rfl _ _ rfl rfl rfl X1 tkQ rfl rfl (rc_one _) ?_; intro W3 R h1))
  replace B := B.past k1 l1 h1
  replace G := gbMade G k1 l1 h1
  clear k1 l1 h1 X1
  have gd : W3.grownBy W3.drew none := gbDrew (gbRefl _ _)
  have TB : ∀ w', W3.grownBy w' none → (w'.cell? ⟨b, 0, none⟩ = some (.int .i64 i.o) ∧ w'.cell? ⟨b, 1, none⟩ = some (.int .i64 i.a) ∧ w'.cell? ⟨b, 2, none⟩ = some (.int .i64 i.b) ∧ w'.cell? ⟨b, 3, none⟩ = some (.int .i64 i.m) ∧ w'.cell? ⟨x1, 0, none⟩ = some (.int .u64 (f 0)) ∧ w'.cell? ⟨x1, 1, none⟩ = some (.int .u64 (f 1)) ∧ w'.cell? ⟨x1, 2, none⟩ = some (.int .u64 (f 2)) ∧ w'.cell? ⟨x1, 3, none⟩ = some (.int .u64 (f 3)) ∧ w'.cell? ⟨x1, 4, none⟩ = some (.int .u64 (f 4)) ∧ w'.cell? ⟨x1, 5, none⟩ = some (.int .u64 (f 5)) ∧ w'.cell? ⟨x1, 6, none⟩ = some (.int .u64 (f 6)) ∧ w'.cell? ⟨x1, 7, none⟩ = some (.int .u64 (f 7))) := fun w' k =>
    ⟨(B.kept k).four.at0, (B.kept k).four.at1, (B.kept k).four.at2, (B.kept k).four.at3, (R.kept k).cell 0, (R.kept k).cell 1, (R.kept k).cell 2, (R.kept k).cell 3, (R.kept k).cell 4, (R.kept k).cell 5, (R.kept k).cell 6, (R.kept k).cell 7⟩
  have T0 := TB _ (gbRefl W3 none)
  have HA := madeE
  have HB := madeED
  have gz := gbRefl W3 none
  have HS := fun (v : World) (b : Nat) (h : Rw v b 41 (ec E0)) => run_storeE v b 41 E0 u h
  go_region_held3 (fun w' => w'.cell? ⟨b, 0, none⟩ = some (.int .i64 i.o) ∧ w'.cell? ⟨b, 1, none⟩ = some (.int .i64 i.a) ∧ w'.cell? ⟨b, 2, none⟩ = some (.int .i64 i.b) ∧ w'.cell? ⟨b, 3, none⟩ = some (.int .i64 i.m) ∧ w'.cell? ⟨x1, 0, none⟩ = some (.int .u64 (f 0)) ∧ w'.cell? ⟨x1, 1, none⟩ = some (.int .u64 (f 1)) ∧ w'.cell? ⟨x1, 2, none⟩ = some (.int .u64 (f 2)) ∧ w'.cell? ⟨x1, 3, none⟩ = some (.int .u64 (f 3)) ∧ w'.cell? ⟨x1, 4, none⟩ = some (.int .u64 (f 4)) ∧ w'.cell? ⟨x1, 5, none⟩ = some (.int .u64 (f 5)) ∧ w'.cell? ⟨x1, 6, none⟩ = some (.int .u64 (f 6)) ∧ w'.cell? ⟨x1, 7, none⟩ = some (.int .u64 (f 7)))
    (first | with_reducible exact T0 | with_reducible exact T5 | with_reducible exact T7 | (refine TB _ ?_; (repeat (first | with_reducible exact G7 | with_reducible exact G5 | with_reducible exact gd | with_reducible exact gz | with_reducible refine gbDrew ?_ | with_reducible refine gbAllocN ?_ _ | with_reducible refine gbSetRow ?_ _ _ (by first | exact G7.size | exact G5.size | exact gd.size | exact Nat.le_refl _ | (simp; done)))); done) | fail)
    ((first
      | (go_at_call 15; refine (H1 _).mono ?_; rintro e7 w7 ⟨rfl, g7⟩; have G7 : W3.grownBy w7 none := gbTrans (by repeat (first | with_reducible exact G5 | with_reducible exact gd | with_reducible exact gz | with_reducible refine gbDrew ?_ | with_reducible refine gbAllocN ?_ _)) g7; have T7 := TB w7 G7; (first | have X7 := X5.kept g7 | have X7 := (HA _).kept g7 | have X7 := (HB _).kept g7 | skip))
      | (go_at_call 10; refine (to_is i _).mono ?_; rintro e5 w5 ⟨rfl, g5⟩; have G5 : W3.grownBy w5 none := gbTrans (by repeat (first | with_reducible exact gd | with_reducible exact gz | with_reducible refine gbDrew ?_ | with_reducible refine gbAllocN ?_ _)) g5; have T5 := TB w5 G5; (first | have X5 := (HA _).kept g5 | have X5 := (HB _).kept g5 | skip))))
  all_goals
    rename_i hold
    clear hold HS T0 T5 T7
    first
      | (obtain ⟨w9, e9, D, G9⟩ := outAlloc W3 w7 u G7; rw [e9])
      | (obtain ⟨w9, e9, D, G9⟩ := outRow W3 w7 _ u X7 G7 (by first | exact G5.size | exact gd.size | exact Nat.le_refl _); rw [e9])
    clear e9
    try clear X7
    try clear X5
    replace B := B.kept G9
    replace R := R.kept G9
    replace G := gbTrans G G9
    clear G9 G7 G5 g7 g5 gd gz HA HB TB
    go_wp2_with (first | (refine wpList_loadW rfl _ rfl rfl B tkJ rfl ?_) | (refine wpList_loadW rfl _ rfl rfl R tkQ rfl ?_))
    refine (H2 _).mono ?_
    rintro r w10 ⟨rfl, g10⟩
    replace D := D.kept g10
    replace G := gbTrans G g10
    clear g10 B R
    go_upto_region 4 with (first | (refine wpList_allocW rfl rfl zD ?_; intro V2 x2 X2 k2 l2) | (refine wpList_storeW rfl _ _ rfl rfl rfl X2 tkD rfl rfl (ec_one _) ?_; intro W11 F h2))
    replace D := D.past k2 l2 h2
    replace G := gbMade G k2 l2 h2
    clear k2 l2 h2 X2
    have q1 := fun w => run_eql_E w u
    have q2 := eqGuardE
    have DG := D.gr
    have FG := F.gr
    refine wp_region_grown (by kernel_rfl) (by kernel_rfl) fun _ => ?_
    repeat (first | (refine wpQuiet_loadW rfl _ rfl rfl DG tkE rfl ?_; simp only [Act.put, List.setIfInBounds_toArray, List.set_cons_zero, List.set_cons_succ]) | (refine wpQuiet_loadW rfl _ rfl rfl FG tkD rfl ?_; simp only [Act.put, List.setIfInBounds_toArray, List.set_cons_zero, List.set_cons_succ]) | (go_big_quiet_step ((go_at_call 17; with_reducible exact callsGr (effect_is u _)))))
    refine wpQuiet_nil ?_
    rintro _ ⟨y, rfl⟩
    go_wp2
    go_ret
    exact ⟨rfl, gbTrans G y.g⟩

theorem walk (i0 : I) (x1 : Option Addr) (len1 cap1 : Nat) (a2 : Int) (w : World) (hx1 : ∀ i, i < len1 → ∃ (x : Addr) (z : Nat), x1 = some x ∧ w.cell? (x.add i) = some (.int .u64 (z : Int)) ∧ z < 18446744073709551616) :
    Calls Try.prog 4 #[iv i0, .slice x1 len1 cap1, .int .i64 a2] w fun e w' => e = .returned (.bool true) ∧ Below w.heap.size w w' := by
  refine endWalk ?_
  obtain ⟨V, L⟩ := Wl.of hx1
  obtain ⟨⟨u, g⟩, h⟩ : ∃ p, M.run i0 (rg V len1) a2 = p := ⟨_, rfl⟩
  exact core i0 V x1 len1 cap1 a2 u g _ rfl w L (run_is i0 _ a2 u g (rg_pos L) h) (rrun_is i0 _ a2 u g (rg_pos L) h)

set_option maxRecDepth 100000 in
theorem lifted (os : Os) (started : os.Started) (H : Type) (enc : TypeId × Value → H) :
    ReturnsInHanded {} Try.checked os 4 .any (Rows.codeRunsSpec.pre6 enc Try.prog Try.f4 Rows.codeRunsRow.domain false) (Rows.codeRunsSpec.post enc Try.prog Try.f4 false true false false) := by
  refine returnsInHanded_of_change (C := Try.checked) own started (by kernel_rfl) Try.func4
    (ChangeSpec.witness6 (enc := enc) (C := Try.checked) false ⟨#[], #[.agg #[.int .i64 0, .int .i64 0, .int .i64 0, .int .i64 0], .slice none 0 0, .int .i64 0], []⟩ 8 (by kernel_rfl) (by kernel_rfl) (by kernel_rfl) (by kernel_rfl)) ?_
  intro W base args ds gs before hval0 hW hcnd _
  have hval : ∀ (j : Nat) t v, Try.f4.params[j]? = some t → args[j]? = some v → Value.okWide Try.prog W .any base t v := hval0
  have hW' := hW
  obtain ⟨p, q, hA0, hV, rfl, hfz, hnd⟩ := hW
  have hA : DataW.TrodAll enc Try.prog W 0 (fun _ => true) true Try.f4.params.toList args.toList ds p := hA0
  rw [Try.params4] at hA hval
  obtain ⟨v0, vs0, d0, ds0, p0, q0, hargs, rfl, rfl, h0, r0⟩ := trodAll_cons hA
  obtain ⟨v1, vs1, d1, ds1, p1, q1, rfl, rfl, rfl, h1, r1⟩ := trodAll_cons r0
  obtain ⟨v2, vs2, d2, ds2, p2, q2, rfl, rfl, rfl, h2, r2⟩ := trodAll_cons r1
  obtain ⟨rfl, rfl, rfl⟩ := trodAll_nil r2
  obtain rfl : args = #[v0, v1, v2] := by cases args; simp_all
  obtain ⟨rfl, rfl⟩ := trodVars_none hV
  obtain ⟨i0, rfl⟩ := insArg (hval 0 23 v0 rfl rfl) h0
  have k0 := h0
  have lt0 : ∀ x ∈ p0, x.block < W.heap.size := by obtain ⟨m, hm⟩ := k0; exact DataW.trod_lt m _ _ _ hm
  obtain ⟨x1, len1, cap1, rfl⟩ := okWide_slice Try.underlying36 (hval 1 36 v1 rfl rfl)
  have hx1 := wordsArg h1
  have k1 := h1
  have lt1 : ∀ x ∈ p1, x.block < W.heap.size := by obtain ⟨m, hm⟩ := k1; exact DataW.trod_lt m _ _ _ hm
  obtain ⟨a2, rfl, rfl, rfl, w2⟩ := open_int Try.underlying3 (hval 2 3 v2 rfl rfl) h2
  clear hA0 hval0
  refine (walk i0 x1 len1 cap1 a2 W hx1).mono fun e W' ⟨he, bel⟩ => ?_
  subst he
  exact ⟨_, rfl, _, _, _, [], _, [], hW', trodAll_mk1 (shut_bool Try.underlying4 _), (trodAll_cons_mk (Below.trod laidOut (by kernel_rfl) (of_decide_eq_true (by kernel_rfl)) k0 bel lt0) (trodAll_cons_mk (Below.trod laidOut (by kernel_rfl) (of_decide_eq_true (by kernel_rfl)) k1 bel lt1) (trodAll_cons_mk (shut_int Try.underlying3 w2) trodAll_mk0))), rfl, bel.frame _, fun h => by cases h⟩

theorem over : Rows.codeRunsRow.holds Try.pinned (OpenSpec.ofChange Rows.codeRunsSpec) :=
  OpenClaim.holds_of_wide 4 Try.f4 rfl rfl rfl rfl rfl rfl rfl ⟨rfl, rfl, rfl, rfl, rfl⟩ rfl rfl rfl rfl rfl (by kernel_rfl) Try.func4 (by kernel_rfl)
    (of_decide_eq_true (by kernel_rfl)) (by unfold Func.isWrapper; first | (rw [if_pos (by decide +kernel)]; kernel_rfl) | (rw [if_neg (by decide +kernel)]; exact ⟨rfl, rfl⟩))
    (fun os started H enc _ => lifted os started H enc)

theorem proved : Rows.CodeRunsSaid := over
end Go.Proofs.Yteekgfdffofnaaa.codeRuns
namespace Go.Proofs.Yteekgfdffofnaaa
theorem codeRuns_holds : Rows.CodeRunsSaid := codeRuns.proved
#print axioms codeRuns_holds
end Go.Proofs.Yteekgfdffofnaaa
