/- UntypedLeft: what is used and what is left are the span together; where so many objects do not go, one more does not, either; at whatever span, used and wishes; no condition. -/
import Derived.Test.YtadllapdhdjpbaaWorks
import Derived.Test.YtadllapdhdjpbaaFacts
import Derived.Test.YtadllapdhdjpbaaAsks
import Derived.Test.YtadllapdhdjpbaaArgs
import Derived.ProofKit
import Derived.OpenShut
import Derived.ShutString
import Derived.ChangeOld
import Derived.Below
import Derived.Deep.Slices
namespace Go.Proofs.Ytadllapdhdjpbaa.untypedLeft
open Go.ChangeShapes Go.WideShapes Go.ChangeAt Go.RowKit
set_option linter.unusedVariables false

theorem own : ownKnob Try.prog.godebug = none := by kernel_rfl
theorem laidOut : laidOutB Try.prog = true := by kernel_rfl

theorem triPut {w : World} {b t : Nat} {A B k n c : Int} (X : Box w b A B) (Y : Tri w t k n c) (h : b ≠ t) (x : Int) : ∃ W, w.setCell ⟨t, 2, none⟩ (.int .i64 x) = W ∧ Box W b A B ∧ Tri W t k n x ∧ w.grownBy W (some t) :=
  ⟨_, rfl, X.keep (gbSetCell _ _ _ _) (by simpa using h),
    ⟨(World.cell?_setCell_other _ _ _ _ (by simp)).trans Y.at0, (World.cell?_setCell_other _ _ _ _ (by simp)).trans Y.at1, World.cell?_setCell_same _ _ _ Y.at2, by simpa [World.setCell] using Y.lt, by simpa using Y.fr2⟩, gbSetCell _ _ _ _⟩

/-- The ways of the law's own question. -/
theorem lft_ways (A B u : Int) : (M.rgt A B = false ∧ M.lft A B u = 0) ∨ (∃ d p : Nat, B = (d : Int) ∧ d ≤ 16 ∧ M.rgt A B = true ∧ wrap64 (2 ^ d) = (p : Int) ∧ p ≤ 65536 ∧
    ((decide (0 ≤ u) = false ∧ M.lft A B u = 0) ∨ (decide (0 ≤ u) = true ∧ decide (u ≤ (p : Int)) = false ∧ M.lft A B u = 0) ∨ (∃ s q : Nat, u = (s : Int) ∧ (p : Int) - (s : Int) = (q : Int) ∧ decide ((0 : Int) ≤ (s : Int)) = true ∧ decide ((s : Int) ≤ (p : Int)) = true ∧ M.lft A B u = (q : Int)))) := by
  rcases M.usd_ways A B u with ⟨h1, h2⟩ | ⟨a, b, m, rfl, rfl, hb, hm, m1, m2, m3, h1, hpw, hh⟩
  · exact .inl ⟨h1, M.lft_no h2⟩
  · right
    refine ⟨b, m, rfl, hb, h1, M.shl_val b m hb hm, m2, ?_⟩
    rcases hh with ⟨c1, h2⟩ | ⟨c1, c2, h2⟩ | ⟨c1, c2, h2⟩
    · exact .inl ⟨decide_eq_false (by omega), M.lft_no h2⟩
    · exact .inr (.inl ⟨decide_eq_true c1, decide_eq_false (by omega), M.lft_no h2⟩)
    · obtain ⟨s, rfl⟩ : ∃ s : Nat, u = (s : Int) := ⟨u.toNat, by omega⟩
      exact .inr (.inr ⟨s, m - s, rfl, by omega, decide_eq_true c1, decide_eq_true c2, by rw [M.lft_yes m s h2 hpw rfl]; omega⟩)

set_option maxRecDepth 10000 in
set_option maxHeartbeats 4000000 in
theorem core (A B u k n c E F r1 r2 : Int) (U x : Nat) (L1 L2 : List (Int × Int)) (w : World) (hU : IntKind.u64.wrap c = (U : Int)) (hx : 1 + (U : Int) % 15 = (x : Int)) (hx1 : 1 ≤ x) (hx2 : x ≤ 15) (hEF : E = 0 ∨ F = E)
    (HP1 : ∀ w : World, Calls Try.prog 10 #[sp A B, .int .i64 u, .int .i64 k, .int .i64 n, .int .i64 x] w fun y w' => ∃ v, y = .returned (.tuple #[v, .int .i64 r1, .int .i64 E]) ∧ Lst w' w.heap.size v L1 ∧ w.grownBy w' none)
    (HP2 : ∀ w : World, Calls Try.prog 10 #[sp A B, .int .i64 u, .int .i64 k, .int .i64 n, .int .i64 ((x : Int) + 1)] w fun y w' => ∃ v, y = .returned (.tuple #[v, .int .i64 r2, .int .i64 F]) ∧ Lst w' w.heap.size v L2 ∧ w.grownBy w' none) :
    Calls Try.prog 7 #[sp A B, .int .i64 u, qv k n c] w fun e w' => e = .returned (.bool true) ∧ w.grownBy w' none := by
  have hw := lft_ways A B u
  rcases hw with ⟨h1, h2⟩ | ⟨d, p, rfl, hd, h1, hsh, hp, hh⟩
  · have hw := h1
    have HLf := fun w => left_is A B u 0 h2 w
    have HRt := fun w => rright_is A B false h1 w
    clear h1 h2
    clear hw
    go_enter Try.func7, Try.ntmps7
    go_wp2_with fail
    obtain ⟨W, hW, X, Y, g0⟩ := spanAsk w A B k n c
    rw [hW]
    clear hW
    refine (works_any _).mono ?_
    rintro _ w1 ⟨rfl, g1⟩
    have X1 := X.kept g1
    have Y1 := Y.kept g1
    have x0 := X1.at0
    have x1 := X1.at1
    go_wp2_with fail
    refine (HLf _).mono ?_
    rintro _ w2 ⟨rfl, g2⟩
    have X2 := X1.kept g2
    have Y2 := Y1.kept g2
    clear x0 x1
    have x0 := X2.at0
    have x1 := X2.at1
    have y0 := Y2.at0
    have y1 := Y2.at1
    have y2 := Y2.at2
    go_wp2_with fail
    refine (HRt _).mono ?_
    rintro _ w3 ⟨rfl, g3⟩
    have X3 := X2.kept g3
    have Y3 := Y2.kept g3
    have G3 := gbTrans g0 (gbTrans g1 (gbTrans g2 g3))
    clear x0 x1 y0 y1 y2
    have x0 := X3.at0
    have x1 := X3.at1
    have y0 := Y3.at0
    have y1 := Y3.at1
    have y2 := Y3.at2
    have y3 := Y3.fr2
    go_wp2_with fail
    obtain ⟨W4, hW4, X4, Y4, g4⟩ := triPut X3 Y3 (by omega) x
    rw [hW4]
    clear hW4 x0 x1 y0 y1 y2 y3
    refine (HP1 _).mono ?_
    rintro _ w5 ⟨v5, rfl, _, g5⟩
    have X5 := X4.kept g5
    have Y5 := Y4.kept g5
    have x0 := X5.at0
    have x1 := X5.at1
    have y0 := Y5.at0
    have y1 := Y5.at1
    have y2 := Y5.at2
    go_wp2_with fail
    refine (HP2 _).mono ?_
    rintro _ w6 ⟨v6, rfl, _, g6⟩
    rcases hEF with rfl | rfl
    · go_wp2
      go_ret
      exact ⟨rfl, gbTrans (gbNew (gbTrans (gbAny G3 _) g4) (Nat.le_succ _)) (gbTrans g5 g6)⟩
    · go_wp2
      all_goals
        go_ret
        exact ⟨rfl, gbTrans (gbNew (gbTrans (gbAny G3 _) g4) (Nat.le_succ _)) (gbTrans g5 g6)⟩
  · have HRt := fun w => rright_is A d true h1 w
    have HLe := fun r h w => left_is A d u r h w
    rcases hh with ⟨d1, h2⟩ | ⟨d1, d2, h2⟩ | ⟨s, q, rfl, hq, d1, d2, h2⟩
    · have hw := h1
      have HLf := HLe 0 h2
      clear h1 h2 HLe
      clear hw
      go_enter Try.func7, Try.ntmps7
      go_wp2_with fail
      obtain ⟨W, hW, X, Y, g0⟩ := spanAsk w A d k n c
      rw [hW]
      clear hW
      refine (works_any _).mono ?_
      rintro _ w1 ⟨rfl, g1⟩
      have X1 := X.kept g1
      have Y1 := Y.kept g1
      have x0 := X1.at0
      have x1 := X1.at1
      go_wp2_with fail
      refine (HLf _).mono ?_
      rintro _ w2 ⟨rfl, g2⟩
      have X2 := X1.kept g2
      have Y2 := Y1.kept g2
      clear x0 x1
      have x0 := X2.at0
      have x1 := X2.at1
      have y0 := Y2.at0
      have y1 := Y2.at1
      have y2 := Y2.at2
      go_wp2_with fail
      refine (HRt _).mono ?_
      rintro _ w3 ⟨rfl, g3⟩
      have X3 := X2.kept g3
      have Y3 := Y2.kept g3
      have G3 := gbTrans g0 (gbTrans g1 (gbTrans g2 g3))
      clear x0 x1 y0 y1 y2
      have x0 := X3.at0
      have x1 := X3.at1
      have y0 := Y3.at0
      have y1 := Y3.at1
      have y2 := Y3.at2
      have y3 := Y3.fr2
      go_wp2_with fail
      obtain ⟨W4, hW4, X4, Y4, g4⟩ := triPut X3 Y3 (by omega) x
      rw [hW4]
      clear hW4 x0 x1 y0 y1 y2 y3
      refine (HP1 _).mono ?_
      rintro _ w5 ⟨v5, rfl, _, g5⟩
      have X5 := X4.kept g5
      have Y5 := Y4.kept g5
      have x0 := X5.at0
      have x1 := X5.at1
      have y0 := Y5.at0
      have y1 := Y5.at1
      have y2 := Y5.at2
      go_wp2_with fail
      refine (HP2 _).mono ?_
      rintro _ w6 ⟨v6, rfl, _, g6⟩
      rcases hEF with rfl | rfl
      · go_wp2
        go_ret
        exact ⟨rfl, gbTrans (gbNew (gbTrans (gbAny G3 _) g4) (Nat.le_succ _)) (gbTrans g5 g6)⟩
      · go_wp2
        all_goals
          go_ret
          exact ⟨rfl, gbTrans (gbNew (gbTrans (gbAny G3 _) g4) (Nat.le_succ _)) (gbTrans g5 g6)⟩
    · have hw := h1
      have HLf := HLe 0 h2
      clear h1 h2 HLe
      clear hw
      go_enter Try.func7, Try.ntmps7
      go_wp2_with fail
      obtain ⟨W, hW, X, Y, g0⟩ := spanAsk w A d k n c
      rw [hW]
      clear hW
      refine (works_any _).mono ?_
      rintro _ w1 ⟨rfl, g1⟩
      have X1 := X.kept g1
      have Y1 := Y.kept g1
      have x0 := X1.at0
      have x1 := X1.at1
      go_wp2_with fail
      refine (HLf _).mono ?_
      rintro _ w2 ⟨rfl, g2⟩
      have X2 := X1.kept g2
      have Y2 := Y1.kept g2
      clear x0 x1
      have x0 := X2.at0
      have x1 := X2.at1
      have y0 := Y2.at0
      have y1 := Y2.at1
      have y2 := Y2.at2
      go_wp2_with fail
      refine (HRt _).mono ?_
      rintro _ w3 ⟨rfl, g3⟩
      have X3 := X2.kept g3
      have Y3 := Y2.kept g3
      have G3 := gbTrans g0 (gbTrans g1 (gbTrans g2 g3))
      clear x0 x1 y0 y1 y2
      have x0 := X3.at0
      have x1 := X3.at1
      have y0 := Y3.at0
      have y1 := Y3.at1
      have y2 := Y3.at2
      have y3 := Y3.fr2
      go_wp2_with fail
      obtain ⟨W4, hW4, X4, Y4, g4⟩ := triPut X3 Y3 (by omega) x
      rw [hW4]
      clear hW4 x0 x1 y0 y1 y2 y3
      refine (HP1 _).mono ?_
      rintro _ w5 ⟨v5, rfl, _, g5⟩
      have X5 := X4.kept g5
      have Y5 := Y4.kept g5
      have x0 := X5.at0
      have x1 := X5.at1
      have y0 := Y5.at0
      have y1 := Y5.at1
      have y2 := Y5.at2
      go_wp2_with fail
      refine (HP2 _).mono ?_
      rintro _ w6 ⟨v6, rfl, _, g6⟩
      rcases hEF with rfl | rfl
      · go_wp2
        go_ret
        exact ⟨rfl, gbTrans (gbNew (gbTrans (gbAny G3 _) g4) (Nat.le_succ _)) (gbTrans g5 g6)⟩
      · go_wp2
        all_goals
          go_ret
          exact ⟨rfl, gbTrans (gbNew (gbTrans (gbAny G3 _) g4) (Nat.le_succ _)) (gbTrans g5 g6)⟩
    · have hw := h1
      have HLf := HLe (q : Int) h2
      clear h1 h2 HLe
      clear hw
      go_enter Try.func7, Try.ntmps7
      go_wp2_with fail
      obtain ⟨W, hW, X, Y, g0⟩ := spanAsk w A d k n c
      rw [hW]
      clear hW
      refine (works_any _).mono ?_
      rintro _ w1 ⟨rfl, g1⟩
      have X1 := X.kept g1
      have Y1 := Y.kept g1
      have x0 := X1.at0
      have x1 := X1.at1
      go_wp2_with fail
      refine (HLf _).mono ?_
      rintro _ w2 ⟨rfl, g2⟩
      have X2 := X1.kept g2
      have Y2 := Y1.kept g2
      clear x0 x1
      have x0 := X2.at0
      have x1 := X2.at1
      have y0 := Y2.at0
      have y1 := Y2.at1
      have y2 := Y2.at2
      go_wp2_with fail
      refine (HRt _).mono ?_
      rintro _ w3 ⟨rfl, g3⟩
      have X3 := X2.kept g3
      have Y3 := Y2.kept g3
      have G3 := gbTrans g0 (gbTrans g1 (gbTrans g2 g3))
      clear x0 x1 y0 y1 y2
      have x0 := X3.at0
      have x1 := X3.at1
      have y0 := Y3.at0
      have y1 := Y3.at1
      have y2 := Y3.at2
      have y3 := Y3.fr2
      go_wp2_with fail
      obtain ⟨W4, hW4, X4, Y4, g4⟩ := triPut X3 Y3 (by omega) x
      rw [hW4]
      clear hW4 x0 x1 y0 y1 y2 y3
      refine (HP1 _).mono ?_
      rintro _ w5 ⟨v5, rfl, _, g5⟩
      have X5 := X4.kept g5
      have Y5 := Y4.kept g5
      have x0 := X5.at0
      have x1 := X5.at1
      have y0 := Y5.at0
      have y1 := Y5.at1
      have y2 := Y5.at2
      go_wp2_with fail
      refine (HP2 _).mono ?_
      rintro _ w6 ⟨v6, rfl, _, g6⟩
      rcases hEF with rfl | rfl
      · go_wp2
        go_ret
        exact ⟨rfl, gbTrans (gbNew (gbTrans (gbAny G3 _) g4) (Nat.le_succ _)) (gbTrans g5 g6)⟩
      · go_wp2
        all_goals
          go_ret
          exact ⟨rfl, gbTrans (gbNew (gbTrans (gbAny G3 _) g4) (Nat.le_succ _)) (gbTrans g5 g6)⟩

theorem walk (A B u k n c : Int) (w : World) :
    Calls Try.prog 7 #[sp A B, .int .i64 u, qv k n c] w fun e w' => e = .returned (.bool true) ∧ Below w.heap.size w w' := by
  obtain ⟨U, x, hU, hx, h1, h2⟩ := M.count15 c
  refine endWalk (core A B u k n c _ _ _ (M.pln A B u k n ((x + 1 : Nat) : Int)).2.1 U x _ (M.pln A B u k n ((x + 1 : Nat) : Int)).1 w hU hx h1 h2 (M.more A B u k n x h1 h2) (plan_is A B u k n x _ _ _ rfl) ?_)
  have e : ((x : Int) + 1) = ((x + 1 : Nat) : Int) := by omega
  rw [e]
  exact plan_is A B u k n ((x + 1 : Nat) : Int) _ _ _ rfl

set_option maxRecDepth 100000 in
theorem lifted (os : Os) (started : os.Started) (H : Type) (enc : TypeId × Value → H) :
    ReturnsInHanded {} Try.checked os 7 .any (Rows.untypedLeftSpec.pre6 enc Try.prog Try.f7 Rows.untypedLeftRow.domain false) (Rows.untypedLeftSpec.post enc Try.prog Try.f7 false true false false) := by
  refine returnsInHanded_of_change (C := Try.checked) own started (by kernel_rfl) Try.func7
    (ChangeSpec.witness6 (enc := enc) (C := Try.checked) false ⟨#[], #[.agg #[.int .i64 0, .int .i64 0], .int .i64 0, .agg #[.int .i64 0, .int .i64 0, .int .i64 0]], []⟩ 8 (by kernel_rfl) (by kernel_rfl) (by kernel_rfl) (by kernel_rfl)) ?_
  intro W base args ds gs before hval0 hW hcnd _
  have hval : ∀ (j : Nat) t v, Try.f7.params[j]? = some t → args[j]? = some v → Value.okWide Try.prog W .any base t v := hval0
  have hW' := hW
  obtain ⟨p, q, hA0, hV, rfl, hfz, hnd⟩ := hW
  have hA : DataW.TrodAll enc Try.prog W 0 (fun _ => true) true Try.f7.params.toList args.toList ds p := hA0
  rw [Try.params7] at hA hval
  obtain ⟨v0, vs0, d0, ds0, p0, q0, hargs, rfl, rfl, h0, r0⟩ := trodAll_cons hA
  obtain ⟨v1, vs1, d1, ds1, p1, q1, rfl, rfl, rfl, h1, r1⟩ := trodAll_cons r0
  obtain ⟨v2, vs2, d2, ds2, p2, q2, rfl, rfl, rfl, h2, r2⟩ := trodAll_cons r1
  obtain ⟨rfl, rfl, rfl⟩ := trodAll_nil r2
  obtain rfl : args = #[v0, v1, v2] := by cases args; simp_all
  obtain ⟨rfl, rfl⟩ := trodVars_none hV
  obtain ⟨A0, B0, rfl⟩ := spanArg (hval 0 23 v0 rfl rfl) h0
  have k0 := h0
  have lt0 : ∀ x ∈ p0, x.block < W.heap.size := by obtain ⟨m, hm⟩ := k0; exact DataW.trod_lt m _ _ _ hm
  obtain ⟨a1, rfl, rfl, rfl, w1⟩ := open_int Try.underlying3 (hval 1 3 v1 rfl rfl) h1
  obtain ⟨K2, N2, C2, rfl⟩ := askArg6 (hval 2 25 v2 rfl rfl) h2
  have k2 := h2
  have lt2 : ∀ x ∈ p2, x.block < W.heap.size := by obtain ⟨m, hm⟩ := k2; exact DataW.trod_lt m _ _ _ hm
  clear hA0 hval0
  refine (walk A0 B0 a1 K2 N2 C2 W).mono fun e W' ⟨he, bel⟩ => ?_
  subst he
  exact ⟨_, rfl, _, _, _, [], _, [], hW', trodAll_mk1 (shut_bool Try.underlying4 _), (trodAll_cons_mk (Below.trod laidOut (by kernel_rfl) (of_decide_eq_true (by kernel_rfl)) k0 bel lt0) (trodAll_cons_mk (shut_int Try.underlying3 w1) (trodAll_cons_mk (Below.trod laidOut (by kernel_rfl) (of_decide_eq_true (by kernel_rfl)) k2 bel lt2) trodAll_mk0))), rfl, bel.frame _, fun h => by cases h⟩

theorem over : Rows.untypedLeftRow.holds Try.pinned (OpenSpec.ofChange Rows.untypedLeftSpec) :=
  OpenClaim.holds_of_wide 7 Try.f7 rfl rfl rfl rfl rfl rfl rfl ⟨rfl, rfl, rfl, rfl, rfl⟩ rfl rfl rfl rfl rfl (by kernel_rfl) Try.func7 (by kernel_rfl)
    (of_decide_eq_true (by kernel_rfl)) (by unfold Func.isWrapper; first | (rw [if_pos (by decide +kernel)]; kernel_rfl) | (rw [if_neg (by decide +kernel)]; exact ⟨rfl, rfl⟩))
    (fun os started H enc _ => lifted os started H enc)

theorem proved : Rows.UntypedLeftSaid := over
end Go.Proofs.Ytadllapdhdjpbaa.untypedLeft
namespace Go.Proofs.Ytadllapdhdjpbaa
theorem untypedLeft_holds : Rows.UntypedLeftSaid := untypedLeft.proved
#print axioms untypedLeft_holds
end Go.Proofs.Ytadllapdhdjpbaa
