/- UntypedOneByOne: several objects of a kind come where they come one by one, and as much is used; at whatever span, used and wishes; no condition. -/
import Derived.Test.YtadllapdhdjpbaaWorks
import Derived.Test.YtadllapdhdjpbaaRplan
import Derived.Test.YtadllapdhdjpbaaOne
import Derived.Test.YtadllapdhdjpbaaAsks
import Derived.Test.YtadllapdhdjpbaaArgs
import Derived.ProofKit
import Derived.OpenShut
import Derived.ShutString
import Derived.ChangeOld
import Derived.Below
import Derived.Deep.Slices
namespace Go.Proofs.Ytadllapdhdjpbaa.untypedOneByOne
open Go.ChangeShapes Go.WideShapes Go.ChangeAt Go.RowKit
set_option linter.unusedVariables false

theorem own : ownKnob Try.prog.godebug = none := by kernel_rfl
theorem laidOut : laidOutB Try.prog = true := by kernel_rfl

set_option maxRecDepth 10000 in
set_option maxHeartbeats 2000000 in
theorem core_no (A B u k n c E : Int) (w : World) (hE : (E != 0) = true)
    (H : ∀ w : World, Calls Try.prog 10 #[sp A B, .int .i64 u, .int .i64 k, .int .i64 n, .int .i64 c] w fun y w' => ∃ v, y = .returned (.tuple #[v, .int .i64 0, .int .i64 E]) ∧ Lst w' w.heap.size v [] ∧ w.grownBy w' none) :
    Calls Try.prog 6 #[sp A B, .int .i64 u, qv k n c] w fun e w' => e = .returned (.bool true) ∧ w.grownBy w' none := by
  go_enter Try.func6, Try.ntmps6
  go_wp2_with fail
  obtain ⟨W, hW, X, Y, g0⟩ := spanAsk w A B k n c
  rw [hW]
  clear hW
  refine (works_any _).mono ?_
  rintro _ w1 ⟨rfl, g1⟩
  have X1 := X.kept g1
  have Y1 := Y.kept g1
  have x0 := X1.at0
  have x1 := X1.at1
  have y0 := Y1.at0
  have y1 := Y1.at1
  have y2 := Y1.at2
  go_wp2_with fail
  refine (H _).mono ?_
  rintro _ w2 ⟨v2, rfl, hl, g2⟩
  have G := gbTrans g0 (gbTrans g1 g2)
  rcases hl.form with ⟨rfl, _⟩ | ⟨g, cap, rfl, _, _, _, _, _⟩
  all_goals
    clear hl
    go_wp2
    go_ret
    exact ⟨rfl, G⟩

set_option maxRecDepth 10000 in
set_option maxHeartbeats 4000000 in
theorem core (A B u k n : Int) (a s f m b x z : Nat) (w : World) (hx1 : 1 ≤ x) (hx2 : x ≤ 16) (hz : Hid (f + x * m - a = z)) (hs : u = (s : Int))
    (HU : Hid (∀ v, M.Used a s f m x v → v = z))
    (H : ∀ w : World, Calls Try.prog 10 #[sp A B, .int .i64 u, .int .i64 k, .int .i64 n, .int .i64 x] w fun y w' => ∃ v, y = .returned (.tuple #[v, .int .i64 z, .int .i64 0]) ∧ Lst w' w.heap.size v (M.rowL f m b x) ∧ w.grownBy w' none)
    (H1 : Hid (∀ i v : Nat, i < x → M.Used a s f m i v → ∃ z', M.Used a s f m (i + 1) z' ∧ ∀ w : World, Calls Try.prog 10 #[sp A B, .int .i64 v, .int .i64 k, .int .i64 n, .int .i64 1] w fun y w' => ∃ v, y = .returned (.tuple #[v, .int .i64 z', .int .i64 0]) ∧ Lst w' w.heap.size v [(((f + i * m : Nat) : Int), (b : Int))] ∧ w.grownBy w' none)) :
    Calls Try.prog 6 #[sp A B, .int .i64 u, qv k n x] w fun e w' => e = .returned (.bool true) ∧ w.grownBy w' none := by
  subst hs
  go_enter Try.func6, Try.ntmps6
  go_wp2_with fail
  obtain ⟨W, hW, X, Y, g0⟩ := spanAsk w A B k n x
  rw [hW]
  clear hW
  refine (works_any _).mono ?_
  rintro _ w1 ⟨rfl, g1⟩
  have X1 := X.kept g1
  have Y1 := Y.kept g1
  have x0 := X1.at0
  have x1 := X1.at1
  have y0 := Y1.at0
  have y1 := Y1.at1
  have y2 := Y1.at2
  go_wp2_with fail
  refine (H _).mono ?_
  rintro _ w2 ⟨v2, rfl, hl, g2⟩
  have hl := hideIt hl
  have X2 := X1.kept g2
  have Y2 := Y1.kept g2
  have G := gbTrans g0 (gbTrans g1 g2)
  clear x0 x1 y0 y1 y2
  go_wp2
  go_loopg [1, 10, 11, 12, 13, 14] x (fun g used l i _ _ _ wr => ∃ j v : Nat, j + g = x ∧ i = .int .i64 j ∧ used = .int .i64 v ∧ Hid (M.Used a s f m j v) ∧ Hid (Lst wr w2.heap.size l (M.rowL f m b j)) ∧ Hid (Lst wr w1.heap.size v2 (M.rowL f m b x)) ∧ Box wr w.heap.size A B ∧ Tri wr (w.heap.size + 1) k n x ∧ w2.grownBy wr none)
  case atStart => exact ⟨0, s, by omega, rfl, rfl, hideIt (.inl ⟨rfl, rfl⟩), hideIt (Lst.nil _ _), hl, X2, Y2, gbRefl _ _⟩
  case round =>
    obtain ⟨j, v, hj, rfl, rfl, HV, HM, HL, P, T, gw⟩ := hrel
    have x0 := P.at0
    have x1 := P.at1
    have y0 := T.at0
    have y1 := T.at1
    have y2 := T.at2
    by_cases hlt : j < x
    · have hlt' : (j : Int) < (x : Int) := by omega
      have hlt2 : (j : Int) < 16 := by omega
      obtain ⟨z', hz', HC⟩ := H1.out j v hlt HV.out
      have HZ := hideIt hz'
      clear hz'
      obtain ⟨q, hq⟩ : ∃ q : Nat, f + j * m = q := ⟨_, rfl⟩
      have HS : Hid (M.rowL f m b j ++ [((q : Int), (b : Int))] = M.rowL f m b (j + 1)) := hideIt (by rw [M.rowL_succ, hq])
      rw [hq] at HC
      clear hq
      go_wp2_with fail
      refine (HC _).mono ?_
      rintro _ w3 ⟨v3, rfl, hl3, g3⟩
      obtain ⟨e, cap, rfl, c0, c1, he, he2⟩ := hl3.one
      clear hl3
      have Yn := Box.made w3 q b
      have gY := gbAlloc w3 (.cells #[.int .i64 q, .int .i64 b] 23) none
      have hown := HM.out.lt
      have HM1 := hideIt ((HM.out.kept g3).kept gY)
      have HR1 := hideIt (rowSing Yn)
      have HLn : Hid ((M.rowL f m b j).length + 1 ≤ 1000000) := hideIt (by rw [M.rowL_len]; omega)
      have hB : w2.heap.size ≤ (w3.alloc (.cells #[.int .i64 q, .int .i64 b] 23)).heap.size := Nat.le_trans gw.size (Nat.le_trans g3.size gY.size)
      have P3 := (P.kept g3).kept gY
      have T3 := (T.kept g3).kept gY
      clear x0 x1 y0 y1 y2
      go_wp2_with (at_builtin; refine wpList_append_span rfl (.tmp 63) (.tmp 67) rfl w2.heap.size _ (M.rowL f m b j) rfl HM1.out ⟨w3.heap.size, 0, none⟩ 1 1 [((q : Int), (b : Int))] rfl rfl HR1.out HLn.out hB ?_; intro v4 w4 ho4 hg4; have ho4 : Hid (Lst w4 w2.heap.size v4 (M.rowL f m b j ++ [((q : Int), (b : Int))])) := ho4)
      have hg4 : (w3.alloc (.cells #[.int .i64 q, .int .i64 b] 23)).grownBy w4 u10.ownBlock := hg4
      have G4 : w2.grownBy w4 none := gbNews (gbTrans (gbAny (gbTrans gw (gbTrans g3 gY)) _) hg4) (fun k e => (hown k e).1)
      go_roundg (gk - 1)
      case rel => exact ⟨j + 1, z', by omega, by go_num, rfl, HZ, hideIt (by rw [← HS.out]; exact ho4.out), hideIt (hl.out.kept G4), X2.kept G4, Y2.kept G4, G4⟩
      case measure => omega
    · obtain rfl : j = x := by omega
      have hlt' : ¬ (j : Int) < (j : Int) := by omega
      obtain rfl : v = z := HU.out v HV.out
      go_wp2_with fail
      refine (same_lst _ _ _ v2 _ (M.rowL f m b j) HL.out HM.out).mono ?_
      rintro _ w5 ⟨rfl, g5⟩
      go_wp2
      go_ret
      exact ⟨rfl, gbTrans G (gbTrans gw g5)⟩

theorem walk (A B u k n c : Int) (w : World) :
    Calls Try.prog 6 #[sp A B, .int .i64 u, qv k n c] w fun e w' => e = .returned (.bool true) ∧ Below w.heap.size w w' := by
  refine endWalk ?_
  rcases M.pln_ways A B u k n c with ⟨E, hE, q⟩ | ⟨a, d, p, s, b, m, x, f, F, hy, q⟩
  · exact core_no A B u k n c E w hE (plan_is A B u k n c 0 E [] q)
  · have hc := F.hc
    subst hc
    refine core A B u k n a s f m b x _ w F.x1 F.x2 (hideIt rfl) F.hu (hideIt fun v hv => ?_) (plan_is A B u k n x _ 0 _ q) (hideIt fun i v hi hv => ?_)
    · have h1 := F.x1
      have h2 : a ≤ f := Nat.le_trans (Nat.le_add_right _ _) F.f1
      rcases hv with ⟨e, _⟩ | ⟨_, e⟩
      · omega
      · clear F; omega
    · obtain ⟨h1, h2, h3⟩ := M.one F hy i v hi hv
      exact ⟨_, h2, plan_is A B v k n 1 _ 0 _ h1⟩

set_option maxRecDepth 100000 in
theorem lifted (os : Os) (started : os.Started) (H : Type) (enc : TypeId × Value → H) :
    ReturnsInHanded {} Try.checked os 6 .any (Rows.untypedOneByOneSpec.pre6 enc Try.prog Try.f6 Rows.untypedOneByOneRow.domain false) (Rows.untypedOneByOneSpec.post enc Try.prog Try.f6 false true false false) := by
  refine returnsInHanded_of_change (C := Try.checked) own started (by kernel_rfl) Try.func6
    (ChangeSpec.witness6 (enc := enc) (C := Try.checked) false ⟨#[], #[.agg #[.int .i64 0, .int .i64 0], .int .i64 0, .agg #[.int .i64 0, .int .i64 0, .int .i64 0]], []⟩ 8 (by kernel_rfl) (by kernel_rfl) (by kernel_rfl) (by kernel_rfl)) ?_
  intro W base args ds gs before hval0 hW hcnd _
  have hval : ∀ (j : Nat) t v, Try.f6.params[j]? = some t → args[j]? = some v → Value.okWide Try.prog W .any base t v := hval0
  have hW' := hW
  obtain ⟨p, q, hA0, hV, rfl, hfz, hnd⟩ := hW
  have hA : DataW.TrodAll enc Try.prog W 0 (fun _ => true) true Try.f6.params.toList args.toList ds p := hA0
  rw [Try.params6] at hA hval
  obtain ⟨v0, vs0, d0, ds0, p0, q0, hargs, rfl, rfl, h0, r0⟩ := trodAll_cons hA
  obtain ⟨v1, vs1, d1, ds1, p1, q1, rfl, rfl, rfl, h1, r1⟩ := trodAll_cons r0
  obtain ⟨v2, vs2, d2, ds2, p2, q2, rfl, rfl, rfl, h2, r2⟩ := trodAll_cons r1
  obtain ⟨rfl, rfl, rfl⟩ := trodAll_nil r2
  obtain rfl : args = #[v0, v1, v2] := by cases args; simp_all
  obtain ⟨rfl, rfl⟩ := trodVars_none hV
  obtain ⟨A0, B0, rfl⟩ := spanArg (hval 0 23 v0 rfl rfl) h0
  have k0 := h0
  have lt0 : ∀ x ∈ p0, x.block < W.heap.size := by obtain ⟨m, hm⟩ := k0; exact DataW.trod_lt m _ _ _ hm
  obtain ⟨a1, rfl, rfl, rfl, w1⟩ := open_int Try.underlying3 (hval 1 3 v1 rfl rfl) h1
  obtain ⟨K2, N2, C2, rfl⟩ := askArg6 (hval 2 25 v2 rfl rfl) h2
  have k2 := h2
  have lt2 : ∀ x ∈ p2, x.block < W.heap.size := by obtain ⟨m, hm⟩ := k2; exact DataW.trod_lt m _ _ _ hm
  clear hA0 hval0
  refine (walk A0 B0 a1 K2 N2 C2 W).mono fun e W' ⟨he, bel⟩ => ?_
  subst he
  exact ⟨_, rfl, _, _, _, [], _, [], hW', trodAll_mk1 (shut_bool Try.underlying4 _), (trodAll_cons_mk (Below.trod laidOut (by kernel_rfl) (of_decide_eq_true (by kernel_rfl)) k0 bel lt0) (trodAll_cons_mk (shut_int Try.underlying3 w1) (trodAll_cons_mk (Below.trod laidOut (by kernel_rfl) (of_decide_eq_true (by kernel_rfl)) k2 bel lt2) trodAll_mk0))), rfl, bel.frame _, fun h => by cases h⟩

theorem over : Rows.untypedOneByOneRow.holds Try.pinned (OpenSpec.ofChange Rows.untypedOneByOneSpec) :=
  OpenClaim.holds_of_wide 6 Try.f6 rfl rfl rfl rfl rfl rfl rfl ⟨rfl, rfl, rfl, rfl, rfl⟩ rfl rfl rfl rfl rfl (by kernel_rfl) Try.func6 (by kernel_rfl)
    (of_decide_eq_true (by kernel_rfl)) (by unfold Func.isWrapper; first | (rw [if_pos (by decide +kernel)]; kernel_rfl) | (rw [if_neg (by decide +kernel)]; exact ⟨rfl, rfl⟩))
    (fun os started H enc _ => lifted os started H enc)

theorem proved : Rows.UntypedOneByOneSaid := over
end Go.Proofs.Ytadllapdhdjpbaa.untypedOneByOne
namespace Go.Proofs.Ytadllapdhdjpbaa
theorem untypedOneByOne_holds : Rows.UntypedOneByOneSaid := untypedOneByOne.proved
#print axioms untypedOneByOne_holds
end Go.Proofs.Ytadllapdhdjpbaa
