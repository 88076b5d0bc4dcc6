/- AN INSTRUCTION CHANGES ITS OWN REGISTER AT MOST; WHERE IT GOES ON IS A PLACE; IT ASKS FOR ONE THING AT MOST: at any instruction, with any registers, at any place (no condition). -/
import Derived.Test.YteekgfdffofnaaaArgs
import Derived.Test.YteekgfdffofnaaaWrk
import Derived.Deep.Cut
import Derived.Deep.RegionHeld3
import Derived.Deep.LoopGhost
import Derived.Test.YteekgfdffofnaaaArgs
import Derived.ProofKit
import Derived.OpenShut
import Derived.ShutString
import Derived.ChangeOld
import Derived.Below
import Derived.Deep.Slices
namespace Go.Proofs.Yteekgfdffofnaaa.codeOne
open Go.ChangeShapes Go.WideShapes Go.ChangeAt Go.RowKit
set_option linter.unusedVariables false

theorem own : ownKnob Try.prog.godebug = none := by kernel_rfl
theorem laidOut : laidOutB Try.prog = true := by kernel_rfl

/-- What Run tells: nothing, or one register written, a place, one thing asked. -/
theorem M.run_ways (i : I) (f : Nat → Int) (p : Int) (u : E) (g : Int) (h : M.run i f p = (u, g)) :
    ((g != 0) = true ∧ u = E0) ∨ (g = 0 ∧ ∃ (a : Nat) (v : Int), i.a = (a : Int) ∧ u.f = upd f a v ∧ 0 ≤ u.p ∧ u.p ≤ 4095 ∧ 0 ≤ u.k ∧ u.k ≤ 4) := by
  unfold M.run at h
  by_cases c : M.rt i = true
  · rw [if_pos c] at h
    by_cases d : M.bel p 4096 = true
    · rw [if_pos d] at h
      simp only [Prod.mk.injEq] at h
      obtain ⟨rfl, rfl⟩ := h
      obtain ⟨o, a, b, m, rfl, ho, ha, hb, hm⟩ := M.rt_nat c
      have hp := M.bel_iff.1 d
      refine .inr ⟨rfl, a, _, rfl, rfl, ?_⟩
      have e1 : (M.ex ⟨o, a, b, m⟩ f p).p = M.af o m (f a) (f b) p := rfl
      have e2 : (M.ex ⟨o, a, b, m⟩ f p).k = (M.as o a m (f a) (f b)).k := rfl
      rw [e1, e2]
      have k1 : 0 ≤ M.af o m (f a) (f b) p ∧ M.af o m (f a) (f b) p ≤ 4095 := by
        unfold M.af
        split
        · omega
        · split <;> omega
      have k2 : 0 ≤ (M.as o a m (f a) (f b)).k ∧ (M.as o a m (f a) (f b)).k ≤ 4 := by
        unfold M.as
        repeat' split
        all_goals (first | decide | (dsimp only; omega))
      exact ⟨k1.1, k1.2, k2.1, k2.2⟩
    · rw [if_neg d] at h
      simp only [Prod.mk.injEq] at h
      obtain ⟨rfl, rfl⟩ := h
      exact .inl ⟨rfl, rfl⟩
  · rw [if_neg c] at h
    simp only [Prod.mk.injEq] at h
    obtain ⟨rfl, rfl⟩ := h
    exact .inl ⟨rfl, rfl⟩

/-- What a law reads behind the call: its instruction, the registers, the effect. -/
structure Rd (w : World) (b x y : Nat) (i : I) (f : Nat → Int) (u : E) : Prop where
  i : Rw w b 23 (ic i)
  r : Rw w x 39 (rc f)
  e : Rw w y 41 (ec u)

set_option maxHeartbeats 4000000 in
theorem core (i : I) (V : Nat → Int) (x0 : Option Addr) (len0 cap0 : Nat) (p : Int) (u : E) (g : Int) (f : Nat → Int) (hf : rg V len0 = f) (w : World) (L : Wl w x0 len0 V)
    (H1 : ∀ w, Calls Try.prog 15 #[iv i, .agg (rc f), .int .i64 p] w fun r w' => r = .returned (.tuple #[.agg (ec u), .int .i64 g]) ∧ w.grownBy w' none)
    (HW : ((g != 0) = true ∧ u = E0) ∨ (g = 0 ∧ ∃ (a : Nat) (v : Int), i.a = (a : Int) ∧ u.f = upd f a v ∧ 0 ≤ u.p ∧ u.p ≤ 4095 ∧ 0 ≤ u.k ∧ u.k ≤ 4)) :
    Calls Try.prog 6 #[iv i, .slice x0 len0 cap0, .int .i64 p] w fun r w' => r = .returned (.bool true) ∧ w.grownBy w' none := by
  replace L := hideIt L
  replace HW := hideIt HW
  go_enter Try.func6, Try.ntmps6
  go_upto_region 1 with (refine wpList_boxW rfl _ rfl rfl ?_; intro W1 b B G l1)
  go_wp2_with fail
  refine (works_is _).mono ?_
  rintro r w0 ⟨rfl, g0⟩
  replace B := B.kept g0
  replace G := gbTrans G g0
  clear g0
  go_wp2_with fail
  refine (regs_is V x0 len0 cap0 _ (L.out.kept G)).mono ?_
  rintro r w1 ⟨rfl, g1⟩
  rw [hf]
  replace B := B.kept g1
  replace G := gbTrans G g1
  clear g1 L
  go_upto_region 4 with (first | (refine wpList_allocW rfl rfl zR ?_; intro V1 x1 X1 k1 l1) | (refine wpList_storeW rfl _ _ rfl rfl rfl X1 tkR rfl rfl (rc_one _) ?_; intro W3 R h1))
  replace B := B.past k1 l1 h1
  replace G := gbMade G k1 l1 h1
  clear k1 l1 h1 X1
  have gd : W3.grownBy W3.drew none := gbDrew (gbRefl _ _)
  have TB : ∀ w', W3.grownBy w' none → (w'.cell? ⟨b, 0, none⟩ = some (.int .i64 i.o) ∧ w'.cell? ⟨b, 1, none⟩ = some (.int .i64 i.a) ∧ w'.cell? ⟨b, 2, none⟩ = some (.int .i64 i.b) ∧ w'.cell? ⟨b, 3, none⟩ = some (.int .i64 i.m) ∧ w'.cell? ⟨x1, 0, none⟩ = some (.int .u64 (f 0)) ∧ w'.cell? ⟨x1, 1, none⟩ = some (.int .u64 (f 1)) ∧ w'.cell? ⟨x1, 2, none⟩ = some (.int .u64 (f 2)) ∧ w'.cell? ⟨x1, 3, none⟩ = some (.int .u64 (f 3)) ∧ w'.cell? ⟨x1, 4, none⟩ = some (.int .u64 (f 4)) ∧ w'.cell? ⟨x1, 5, none⟩ = some (.int .u64 (f 5)) ∧ w'.cell? ⟨x1, 6, none⟩ = some (.int .u64 (f 6)) ∧ w'.cell? ⟨x1, 7, none⟩ = some (.int .u64 (f 7))) := fun w' k =>
    ⟨(B.kept k).four.at0, (B.kept k).four.at1, (B.kept k).four.at2, (B.kept k).four.at3, (R.kept k).cell 0, (R.kept k).cell 1, (R.kept k).cell 2, (R.kept k).cell 3, (R.kept k).cell 4, (R.kept k).cell 5, (R.kept k).cell 6, (R.kept k).cell 7⟩
  have T0 := TB _ (gbRefl W3 none)
  have HA := madeE
  have HB := madeED
  have gz := gbRefl W3 none
  have HS := fun (v : World) (b : Nat) (h : Rw v b 41 (ec E0)) => run_storeE v b 41 E0 u h
  go_region_held3 (fun w' => w'.cell? ⟨b, 0, none⟩ = some (.int .i64 i.o) ∧ w'.cell? ⟨b, 1, none⟩ = some (.int .i64 i.a) ∧ w'.cell? ⟨b, 2, none⟩ = some (.int .i64 i.b) ∧ w'.cell? ⟨b, 3, none⟩ = some (.int .i64 i.m) ∧ w'.cell? ⟨x1, 0, none⟩ = some (.int .u64 (f 0)) ∧ w'.cell? ⟨x1, 1, none⟩ = some (.int .u64 (f 1)) ∧ w'.cell? ⟨x1, 2, none⟩ = some (.int .u64 (f 2)) ∧ w'.cell? ⟨x1, 3, none⟩ = some (.int .u64 (f 3)) ∧ w'.cell? ⟨x1, 4, none⟩ = some (.int .u64 (f 4)) ∧ w'.cell? ⟨x1, 5, none⟩ = some (.int .u64 (f 5)) ∧ w'.cell? ⟨x1, 6, none⟩ = some (.int .u64 (f 6)) ∧ w'.cell? ⟨x1, 7, none⟩ = some (.int .u64 (f 7)))
    (first | with_reducible exact T0 | with_reducible exact T5 | with_reducible exact T7 | (refine TB _ ?_; (repeat (first | with_reducible exact G7 | with_reducible exact G5 | with_reducible exact gd | with_reducible exact gz | with_reducible refine gbDrew ?_ | with_reducible refine gbAllocN ?_ _ | with_reducible refine gbSetRow ?_ _ _ (by first | exact G7.size | exact G5.size | exact gd.size | exact Nat.le_refl _ | (simp; done)))); done) | fail)
    ((first
      | (go_at_call 15; refine (H1 _).mono ?_; rintro e7 w7 ⟨rfl, g7⟩; have G7 : W3.grownBy w7 none := gbTrans (by repeat (first | with_reducible exact G5 | with_reducible exact gd | with_reducible exact gz | with_reducible refine gbDrew ?_ | with_reducible refine gbAllocN ?_ _)) g7; have T7 := TB w7 G7; (first | have X7 := X5.kept g7 | have X7 := (HA _).kept g7 | have X7 := (HB _).kept g7 | skip))
      | (go_at_call 10; refine (to_is i _).mono ?_; rintro e5 w5 ⟨rfl, g5⟩; have G5 : W3.grownBy w5 none := gbTrans (by repeat (first | with_reducible exact gd | with_reducible exact gz | with_reducible refine gbDrew ?_ | with_reducible refine gbAllocN ?_ _)) g5; have T5 := TB w5 G5; (first | have X5 := (HA _).kept g5 | have X5 := (HB _).kept g5 | skip))))
  all_goals
    rename_i hold
    clear hold HS T0 T5 T7
    first
      | (obtain ⟨w9, e9, D, G9⟩ := outAlloc W3 w7 u G7; rw [e9])
      | (obtain ⟨w9, e9, D, G9⟩ := outRow W3 w7 _ u X7 G7 (by first | exact G5.size | exact gd.size | exact Nat.le_refl _); rw [e9])
    clear e9
    try clear X7
    try clear X5
    have RD : Hid (Rd w9 b x1 _ i f u) := hideIt ⟨B.kept G9, R.kept G9, D⟩
    replace G := gbTrans G G9
    clear G9 G7 G5 g7 g5 gd gz HA HB TB D B R
    obtain ⟨h4, rfl⟩ | ⟨rfl, a, v, ha, hu, q0, q1, q2, q3⟩ := HW.out
    · have DE := RD.out.e
      have qe := fun w => run_eql_E w E0
      have q2 := eqGuardE
      go_wp2_with (first | (refine wpList_loadW rfl _ rfl rfl DE tkE rfl ?_) | (refine wpList_buildW rfl [] rfl [] rfl (ec E0) (by kernel_rfl) ?_))
      go_ret
      exact ⟨rfl, G⟩
    · replace ha := hideIt ha
      replace hu := hideIt hu
      go_wp2_with fail
      go_loopg [10] 8 (fun gk s wr => ∃ j : Nat, j + gk = 8 ∧ s = .int .i64 j ∧ Hid (w.grownBy wr none) ∧ Hid (Rd wr b x1 _ i f u))
      case atStart => exact ⟨0, rfl, rfl, hideIt G, RD⟩
      case round =>
        clear RD G
        obtain ⟨j, hj, rfl, G, RD⟩ := hrel
        by_cases hlt : j < 8
        · have c1 : wr.cell? ⟨b, 1, none⟩ = some (.int .i64 (a : Int)) := by rw [RD.out.i.four.at1, ha.out]
          have c2 : wr.cell? ⟨x1, j, none⟩ = some (.int .u64 (f j)) := by rw [RD.out.r.cell, rc_at f j hlt]
          have i0 : (0 : Int) ≤ (j : Int) := Int.natCast_nonneg _
          have i8 : (j : Int) < 8 := by omega
          by_cases hja : j = a
          · have d1 : ((j : Int) != (a : Int)) = false := by simp; omega
            go_upto_region 10 with fail
            go_quiet (fail)
            have gq := gbDrewN wr nq none
            have G2 := hideIt (gbTrans G.out gq)
            have RD2 : Hid (Rd (wr.drewN nq) b x1 _ i f u) := hideIt ⟨RD.out.i.kept gq, RD.out.r.kept gq, RD.out.e.kept gq⟩
            clear gq c1 c2 RD G
            generalize wr.drewN nq = wz at G2 RD2
            go_wp2
            go_roundg (gk - 1)
            case rel => exact ⟨j + 1, by omega, by go_num, G2, RD2⟩
            case measure => omega
          · have d1 : ((j : Int) != (a : Int)) = true := by simp; omega
            have c3 := RD.out.e.cell j
            rw [ec_at u j hlt, hu.out, show upd f a v j = f j from by unfold upd; rw [if_neg hja]] at c3
            go_upto_region 10 with fail
            go_quiet (fail)
            have gq := gbDrewN wr nq none
            have G2 := hideIt (gbTrans G.out gq)
            have RD2 : Hid (Rd (wr.drewN nq) b x1 _ i f u) := hideIt ⟨RD.out.i.kept gq, RD.out.r.kept gq, RD.out.e.kept gq⟩
            clear gq c1 c2 c3 RD G
            generalize wr.drewN nq = wz at G2 RD2
            go_wp2
            go_roundg (gk - 1)
            case rel => exact ⟨j + 1, by omega, by go_num, G2, RD2⟩
            case measure => omega
        · have i8 : ¬ (j : Int) < 8 := by omega
          have c8 := RD.out.e.cell 8
          have c9 := RD.out.e.cell 9
          rw [show (ec u)[8]? = some (.int .i64 u.p) from rfl] at c8
          rw [show (ec u)[9]? = some (.int .i64 u.k) from rfl] at c9
          go_wp2
          go_ret
          exact ⟨rfl, G.out⟩

theorem walk (i0 : I) (x1 : Option Addr) (len1 cap1 : Nat) (a2 : Int) (w : World) (hx1 : ∀ i, i < len1 → ∃ (x : Addr) (z : Nat), x1 = some x ∧ w.cell? (x.add i) = some (.int .u64 (z : Int)) ∧ z < 18446744073709551616) :
    Calls Try.prog 6 #[iv i0, .slice x1 len1 cap1, .int .i64 a2] w fun e w' => e = .returned (.bool true) ∧ Below w.heap.size w w' := by
  refine endWalk ?_
  obtain ⟨V, L⟩ := Wl.of hx1
  obtain ⟨⟨u, g⟩, h⟩ : ∃ p, M.run i0 (rg V len1) a2 = p := ⟨_, rfl⟩
  exact core i0 V x1 len1 cap1 a2 u g _ rfl w L (run_is i0 _ a2 u g (rg_pos L) h) (M.run_ways i0 _ a2 u g h)

set_option maxRecDepth 100000 in
theorem lifted (os : Os) (started : os.Started) (H : Type) (enc : TypeId × Value → H) :
    ReturnsInHanded {} Try.checked os 6 .any (Rows.codeOneSpec.pre6 enc Try.prog Try.f6 Rows.codeOneRow.domain false) (Rows.codeOneSpec.post enc Try.prog Try.f6 false true false false) := by
  refine returnsInHanded_of_change (C := Try.checked) own started (by kernel_rfl) Try.func6
    (ChangeSpec.witness6 (enc := enc) (C := Try.checked) false ⟨#[], #[.agg #[.int .i64 0, .int .i64 0, .int .i64 0, .int .i64 0], .slice none 0 0, .int .i64 0], []⟩ 8 (by kernel_rfl) (by kernel_rfl) (by kernel_rfl) (by kernel_rfl)) ?_
  intro W base args ds gs before hval0 hW hcnd _
  have hval : ∀ (j : Nat) t v, Try.f6.params[j]? = some t → args[j]? = some v → Value.okWide Try.prog W .any base t v := hval0
  have hW' := hW
  obtain ⟨p, q, hA0, hV, rfl, hfz, hnd⟩ := hW
  have hA : DataW.TrodAll enc Try.prog W 0 (fun _ => true) true Try.f6.params.toList args.toList ds p := hA0
  rw [Try.params6] at hA hval
  obtain ⟨v0, vs0, d0, ds0, p0, q0, hargs, rfl, rfl, h0, r0⟩ := trodAll_cons hA
  obtain ⟨v1, vs1, d1, ds1, p1, q1, rfl, rfl, rfl, h1, r1⟩ := trodAll_cons r0
  obtain ⟨v2, vs2, d2, ds2, p2, q2, rfl, rfl, rfl, h2, r2⟩ := trodAll_cons r1
  obtain ⟨rfl, rfl, rfl⟩ := trodAll_nil r2
  obtain rfl : args = #[v0, v1, v2] := by cases args; simp_all
  obtain ⟨rfl, rfl⟩ := trodVars_none hV
  obtain ⟨i0, rfl⟩ := insArg (hval 0 23 v0 rfl rfl) h0
  have k0 := h0
  have lt0 : ∀ x ∈ p0, x.block < W.heap.size := by obtain ⟨m, hm⟩ := k0; exact DataW.trod_lt m _ _ _ hm
  obtain ⟨x1, len1, cap1, rfl⟩ := okWide_slice Try.underlying36 (hval 1 36 v1 rfl rfl)
  have hx1 := wordsArg h1
  have k1 := h1
  have lt1 : ∀ x ∈ p1, x.block < W.heap.size := by obtain ⟨m, hm⟩ := k1; exact DataW.trod_lt m _ _ _ hm
  obtain ⟨a2, rfl, rfl, rfl, w2⟩ := open_int Try.underlying3 (hval 2 3 v2 rfl rfl) h2
  clear hA0 hval0
  refine (walk i0 x1 len1 cap1 a2 W hx1).mono fun e W' ⟨he, bel⟩ => ?_
  subst he
  exact ⟨_, rfl, _, _, _, [], _, [], hW', trodAll_mk1 (shut_bool Try.underlying4 _), (trodAll_cons_mk (Below.trod laidOut (by kernel_rfl) (of_decide_eq_true (by kernel_rfl)) k0 bel lt0) (trodAll_cons_mk (Below.trod laidOut (by kernel_rfl) (of_decide_eq_true (by kernel_rfl)) k1 bel lt1) (trodAll_cons_mk (shut_int Try.underlying3 w2) trodAll_mk0))), rfl, bel.frame _, fun h => by cases h⟩

theorem over : Rows.codeOneRow.holds Try.pinned (OpenSpec.ofChange Rows.codeOneSpec) :=
  OpenClaim.holds_of_wide 6 Try.f6 rfl rfl rfl rfl rfl rfl rfl ⟨rfl, rfl, rfl, rfl, rfl⟩ rfl rfl rfl rfl rfl (by kernel_rfl) Try.func6 (by kernel_rfl)
    (of_decide_eq_true (by kernel_rfl)) (by unfold Func.isWrapper; first | (rw [if_pos (by decide +kernel)]; kernel_rfl) | (rw [if_neg (by decide +kernel)]; exact ⟨rfl, rfl⟩))
    (fun os started H enc _ => lifted os started H enc)

theorem proved : Rows.CodeOneSaid := over
end Go.Proofs.Yteekgfdffofnaaa.codeOne
namespace Go.Proofs.Yteekgfdffofnaaa
theorem codeOne_holds : Rows.CodeOneSaid := codeOne.proved
#print axioms codeOne_holds
end Go.Proofs.Yteekgfdffofnaaa
