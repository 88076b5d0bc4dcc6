/- GuardWrong: with one bit of the guard changed the address leads nowhere, and unchanged it leads to its slot. For every radix, guard, number of bits, slot and bit; no condition. -/
import Derived.Test.YtakappaaiknpfaaWrk
import Derived.Test.YtakappaaiknpfaaMany
import Derived.Deep.Cut
import Derived.Deep.DeepCutAuto
import Derived.Deep.RegionHeld3
import Derived.ProofKit
import Derived.OpenShut
import Derived.ShutString
import Derived.ChangeOld
import Derived.Below
import Derived.Deep.Slices
namespace Go.Proofs.Ytakappaaiknpfaa.guardWrong
open Go.ChangeShapes Go.WideShapes Go.ChangeAt Go.RowKit
set_option linter.unusedVariables false

theorem own : ownKnob Try.prog.godebug = none := by kernel_rfl
theorem laidOut : laidOutB Try.prog = true := by kernel_rfl

theorem pw (n : Nat) (h : n ≤ 16) : IntKind.u64.wrap (2 ^ n) = ((2 ^ n : Nat) : Int) := by
  obtain ⟨e1, e2⟩ := M.pow_small n h
  rw [IntKind.wrap_u64, show ((2 : Int) ^ n) = ((2 ^ n : Nat) : Int) by simp]
  generalize 2 ^ n = Q at e1 e2
  omega

/-- What comes in, brought into bounds. -/
theorem args (a0 a1 a2 a3 a4 : Int) (h0 : 0 ≤ a1) (h1 : a1 < 18446744073709551616) : ∃ U V T B r n q g m x j y : Nat, IntKind.u64.wrap a0 = (U : Int) ∧ IntKind.u64.wrap a2 = (V : Int) ∧ IntKind.u64.wrap a3 = (T : Int) ∧ IntKind.u64.wrap a4 = (B : Int) ∧
    1 + (U : Int) % 4 = (r : Int) ∧ 1 + (V : Int) % 8 = (n : Int) ∧ IntKind.u64.wrap (2 ^ n) = (q : Int) ∧ a1.tmod (q : Int) = (g : Int) ∧ 1 ≤ q ∧ IntKind.u64.wrap (2 ^ r) = (m : Int) ∧ (T : Int).tmod (m : Int) = (x : Int) ∧ 1 ≤ m ∧
    (B : Int).tmod (n : Int) = (j : Int) ∧ IntKind.u64.wrap (2 ^ j) = (y : Int) ∧ 1 ≤ r ∧ r ≤ 4 ∧ 1 ≤ n ∧ n ≤ 8 ∧ g < 2 ^ n ∧ x < 2 ^ r ∧ j < n ∧ y = 2 ^ j ∧ x < 16 := by
  obtain ⟨U, hU, _⟩ := M.wrap_nat a0
  obtain ⟨V, hV, _⟩ := M.wrap_nat a2
  obtain ⟨T, hT, _⟩ := M.wrap_nat a3
  obtain ⟨B, hB, _⟩ := M.wrap_nat a4
  obtain ⟨P, rfl⟩ : ∃ P : Nat, a1 = (P : Int) := ⟨a1.toNat, by omega⟩
  have hr : 1 + U % 4 ≤ 4 := by omega
  have hn : 1 + V % 8 ≤ 8 := by omega
  have hm : 2 ^ (1 + U % 4) ≤ 16 := by have : 2 ^ (1 + U % 4) ≤ 2 ^ 4 := Nat.pow_le_pow_right (by omega) hr; simpa using this
  have e1 : 1 ≤ 2 ^ (1 + V % 8) := Nat.one_le_two_pow
  have e2 : 1 ≤ 2 ^ (1 + U % 4) := Nat.one_le_two_pow
  have e3 : T % 2 ^ (1 + U % 4) < 2 ^ (1 + U % 4) := Nat.mod_lt _ (by omega)
  have e4 : B % (1 + V % 8) < 1 + V % 8 := Nat.mod_lt _ (by omega)
  exact ⟨U, V, T, B, 1 + U % 4, 1 + V % 8, 2 ^ (1 + V % 8), P % 2 ^ (1 + V % 8), 2 ^ (1 + U % 4), T % 2 ^ (1 + U % 4), B % (1 + V % 8), 2 ^ (B % (1 + V % 8)), hU, hV, hT, hB, by omega, by omega, pw _ (by omega), (Int.ofNat_tmod _ _).symm, e1, pw _ (by omega), (Int.ofNat_tmod _ _).symm, e2, (Int.ofNat_tmod _ _).symm, pw _ (by omega), by omega, hr, by omega, hn, Nat.mod_lt _ (by omega), e3, e4, rfl, by omega⟩

/-- One bit changed: another number, of as many bits. -/
theorem turned (g n j : Nat) (hg : g < 2 ^ n) (hj : j < n) : g ^^^ 2 ^ j < 2 ^ n ∧ g ≠ g ^^^ 2 ^ j := by
  refine ⟨Nat.xor_lt_two_pow hg (Nat.pow_lt_pow_right (by omega) hj), ?_⟩
  intro e
  have h : (g ^^^ 2 ^ j).testBit j = !(g.testBit j) := by rw [Nat.testBit_xor, Nat.testBit_two_pow_self]; simp
  rw [← e] at h
  cases hb : g.testBit j <;> rw [hb] at h <;> cases h

set_option maxRecDepth 10000 in
set_option maxHeartbeats 4000000 in
theorem core (a0 a1 a2 a3 a4 : Int) (U V T B r n q g m x j y v G1 G2 p1 p2 d : Nat) (w : World) (hU : IntKind.u64.wrap a0 = (U : Int)) (hV : IntKind.u64.wrap a2 = (V : Int)) (hT : IntKind.u64.wrap a3 = (T : Int)) (hB : IntKind.u64.wrap a4 = (B : Int))
    (hr : 1 + (U : Int) % 4 = (r : Int)) (hn : 1 + (V : Int) % 8 = (n : Int)) (hq : IntKind.u64.wrap (2 ^ n) = (q : Int)) (hg : a1.tmod (q : Int) = (g : Int)) (hq1 : 1 ≤ q) (hm : IntKind.u64.wrap (2 ^ r) = (m : Int)) (hx : (T : Int).tmod (m : Int) = (x : Int)) (hm1 : 1 ≤ m)
    (hj : (B : Int).tmod (n : Int) = (j : Int)) (hy : IntKind.u64.wrap (2 ^ j) = (y : Int)) (r1 : 1 ≤ r) (r4 : r ≤ 4) (n1 : 1 ≤ n) (n8 : n ≤ 8) (x16 : x < 16) (j8 : j < 8)
    (hv : bits BinOp.xor IntKind.u64 (g : Int) (y : Int) = (v : Int)) (hx64 : IntKind.u64.wrap (x : Int) = (x : Int)) (hg1 : IntKind.u64.wrap ((g : Int) * 2 ^ r) = (G1 : Int)) (hg2 : IntKind.u64.wrap ((v : Int) * 2 ^ r) = (G2 : Int)) (hs1 : IntKind.u64.wrap ((G1 : Int) + (x : Int)) = (p1 : Int)) (hs2 : IntKind.u64.wrap ((G2 : Int) + (x : Int)) = (p2 : Int)) (HP16 : Hid (p1 < 65536 ∧ p2 < 65536)) (hd : (n : Int) + (r : Int) = (d : Int)) (hwd : IntKind.i64.wrap (d : Int) = (d : Int))
    (HA : Hid (M.addE (fun _ => none) 5 r = 0 ∧ M.addS (fun _ => none) 5 r = M.one 5 r (fun _ => C.zero))) (HF1 : Hid (M.fd (M.one 5 r (fun _ => C.zero)) ⟨2, 5, 0, 0, g, n⟩ p1 d = (5, (x : Int), 0))) (HF2 : Hid (M.fd (M.one 5 r (fun _ => C.zero)) ⟨2, 5, 0, 0, g, n⟩ p2 d = (0, 0, 6))) :
    Calls Try.prog 7 #[.int .i64 a0, .int .u64 a1, .int .i64 a2, .int .i64 a3, .int .i64 a4] w fun e w' => e = .returned (.bool true) ∧ Below w.heap.size w w' := by
  have W5 : Hid (I64 5) := hideIt (by decide)
  go_enter Try.func7, Try.ntmps7
  go_wp2_with fail
  refine (works_is _).mono ?_
  rintro _ w1 ⟨rfl, g1⟩
  go_wp2_with fail
  refine (new_own g1).mono ?_
  rintro _ w2 ⟨s, O, rfl, B2⟩
  have HB2 := hideIt B2
  clear B2 g1
  go_wp2_with fail
  refine (add_own HB2.out 5 r 0 W5.out (by omega) HA.out.1).mono ?_
  rintro _ w3 ⟨rfl, O2, B3, _⟩
  rw [HA.out.2] at B3
  have HB3 := hideIt B3
  clear B3 HB2 hU hV hT hr hn hq hg hx
  go_upto_region 9 with fail
  obtain ⟨W4, hW4, X4, g4⟩ := boxNew w3 ⟨2, 5, 0, 0, g, n⟩
  simp only at hW4
  rw [hW4]
  have HB4 := hideIt (HB3.out.kept g4)
  have HX4 := hideIt X4
  clear hW4 X4 HB3
  obtain ⟨X, hX⟩ : ∃ X, X = w3.heap.size := ⟨_, rfl⟩
  rw [← hX] at HX4 ⊢
  clear hX g4
  clear hm hm1
  go_upto_region 10 with fail
  clear hB hj hy
  go_cut [14, 15] (fun s14 s15 wc => ∃ Y : Nat, s14 = .pointer (some ⟨Y, 0, none⟩) ∧ s15 = .int .i64 0 ∧ Hid (Own w wc O2 s 1 (M.one 5 r (fun _ => C.zero))) ∧ Hid (Box wc X ⟨2, 5, 0, 0, g, n⟩) ∧ Hid (SBox wc Y 5 x))
  case first =>
    have T0b := HX4.out
    have T0 : Six W4.drew X ⟨2, 5, 0, 0, g, n⟩ := (T0b.kept (gbDrew (gbRefl W4 none))).tup
    go_region_held3 (fun w' => Six w' X ⟨2, 5, 0, 0, g, n⟩)
      (first | with_reducible exact T0 | (refine Box.tup (Box.kept T0b ?_); repeat (first | with_reducible exact G2 | with_reducible exact gbRefl W4 none | with_reducible refine gbDrew ?_ | with_reducible refine gbAllocN ?_ _ | with_reducible refine gbSetNew ?_ _ _ _ (by with_reducible first | exact Nat.le_refl _ | exact G2.size))) | fail)
      ((first | (go_at_call 11; refine (find_is (HB4.out.kept (by repeat (first | with_reducible exact gbRefl W4 none | with_reducible refine gbDrew ?_ | with_reducible refine gbAllocN ?_ _))).sat HB4.out.good p1 2 5 0 0 g n d 5 x 0 W5.out (Nat.lt_trans HP16.out.1 (by decide)) HF1.out).mono ?_; rintro _ v5 ⟨rfl, g5⟩; have hc3 := gcell g5; have hf3 := gfroz g5; have G2 : W4.grownBy v5 none := (by first | exact gbTrans (gbDrewN W4 1 none) g5 | exact gbTrans (gbDrew (gbAllocN (gbRefl W4 none) _)) g5)) | fail))
    · rename_i hold
      clear hold T0
      obtain ⟨W6, hW6, Y6, g6⟩ := sboxNew v5 5 x
      rw [hW6]
      go_wp2
      go_meet
      exact ⟨_, rfl, rfl, hideIt (HB4.out.kept (gbTrans G2 g6)), hideIt (T0b.kept (gbTrans G2 g6)), Y6⟩
    · rename_i hold
      clear hold T0
      have Z0 : SBox v5 W4.heap.size 0 0 := ((SBox.made W4 0 0).kept (gbDrew (gbRefl _ none))).kept g5
      obtain ⟨W6, hW6, Y6, g6⟩ := Z0.put 5 x
      rw [hW6]
      have G7 := gbNew (gbTrans (gbAny G2 _) g6) (Nat.le_refl _)
      go_wp2
      go_meet
      exact ⟨_, rfl, rfl, hideIt (HB4.out.kept G7), hideIt (T0b.kept G7), Y6⟩
  case rest =>
    obtain ⟨Y5, rfl, rfl, HB5, HX5, HY5⟩ := hcut
    clear HB4 HX4 hg1 hs1
    go_upto_region 11 with fail
    go_cut [16, 17] (fun s16 s17 wc => ∃ Y : Nat, s16 = .pointer (some ⟨Y, 0, none⟩) ∧ s17 = .int .i64 6 ∧ Hid (Own w wc O2 s 1 (M.one 5 r (fun _ => C.zero))) ∧ Hid (Box wc X ⟨2, 5, 0, 0, g, n⟩) ∧ Hid (SBox wc Y 0 0))
    case first =>
      have T0b := HX5.out
      have T0 : Six wc.drew X ⟨2, 5, 0, 0, g, n⟩ := (T0b.kept (gbDrew (gbRefl wc none))).tup
      go_region_held3 (fun w' => Six w' X ⟨2, 5, 0, 0, g, n⟩)
        (first | with_reducible exact T0 | (refine Box.tup (Box.kept T0b ?_); repeat (first | with_reducible exact G2 | with_reducible exact gbRefl wc none | with_reducible refine gbDrew ?_ | with_reducible refine gbAllocN ?_ _ | with_reducible refine gbSetNew ?_ _ _ _ (by with_reducible first | exact Nat.le_refl _ | exact G2.size))) | fail)
        ((first | (go_at_call 11; refine (find_is (HB5.out.kept (by repeat (first | with_reducible exact gbRefl wc none | with_reducible refine gbDrew ?_ | with_reducible refine gbAllocN ?_ _))).sat HB5.out.good p2 2 5 0 0 g n d 0 0 6 W5.out (Nat.lt_trans HP16.out.2 (by decide)) HF2.out).mono ?_; rintro _ v7 ⟨rfl, g5⟩; have hc3 := gcell g5; have hf3 := gfroz g5; have G2 : wc.grownBy v7 none := (by first | exact gbTrans (gbDrewN wc 1 none) g5 | exact gbTrans (gbDrew (gbAllocN (gbRefl wc none) _)) g5)) | fail))
      · rename_i hold
        clear hold T0
        obtain ⟨W6, hW6, Y6, g6⟩ := sboxNew v7 0 0
        rw [hW6]
        go_wp2
        go_meet
        exact ⟨_, rfl, rfl, hideIt (HB5.out.kept (gbTrans G2 g6)), hideIt (T0b.kept (gbTrans G2 g6)), Y6⟩
      · rename_i hold
        clear hold T0
        have Z0 : SBox v7 wc.heap.size 0 0 := ((SBox.made wc 0 0).kept (gbDrew (gbRefl _ none))).kept g5
        obtain ⟨W6, hW6, Y6, g6⟩ := Z0.put 0 0
        rw [hW6]
        have G7 := gbNew (gbTrans (gbAny G2 _) g6) (Nat.le_refl _)
        go_wp2
        go_meet
        exact ⟨_, rfl, rfl, hideIt (HB5.out.kept G7), hideIt (T0b.kept G7), Y6⟩
    case rest =>
      obtain ⟨Y7, rfl, rfl, HB7, HX7, HY7⟩ := hcut
      go_wp2
      go_ret
      exact ⟨rfl, gbEnd HB7.out.gr⟩

theorem walk (a0 a1 : Int) (w1 : (Lit.int .u64 a1).wf = true) (a2 a3 a4 : Int) (w : World) :
    Calls Try.prog 7 #[.int .i64 a0, .int .u64 a1, .int .i64 a2, .int .i64 a3, .int .i64 a4] w fun e w' => e = .returned (.bool true) ∧ Below w.heap.size w w' := by
  have hb := u64_wf w1
  obtain ⟨U, V, T, B, r, n, q, g, m, x, j, y, hU, hV, hT, hB, hr, hn, hq, hg, hq1, hm, hx, hm1, hj, hy, r1, r4, n1, n8, hgn, hxr, hjn, hyj, x16⟩ := args a0 a1 a2 a3 a4 hb.1 hb.2
  subst hyj
  obtain ⟨t1, t2⟩ := turned g n j hgn hjn
  have b1 := M.join_lt g x r n hgn hxr
  have b2 := M.join_lt (g ^^^ 2 ^ j) x r n t1 hxr
  have b3 := (M.pow_small (n + r) (by omega)).1
  have b4 := (M.pow_small n (by omega)).1
  have b5 := (M.pow_small j (by omega)).1
  have sh : ∀ k : Nat, k * 2 ^ r < 65536 → IntKind.u64.wrap ((k : Int) * 2 ^ r) = ((k * 2 ^ r : Nat) : Int) := by
    intro k hk
    rw [IntKind.wrap_u64, show ((k : Int) * 2 ^ r) = ((k * 2 ^ r : Nat) : Int) by simp]
    omega
  refine core a0 a1 a2 a3 a4 U V T B r n q g m x j (2 ^ j) (g ^^^ 2 ^ j) (g * 2 ^ r) ((g ^^^ 2 ^ j) * 2 ^ r) (g * 2 ^ r + x) ((g ^^^ 2 ^ j) * 2 ^ r + x) (n + r) w hU hV hT hB hr hn hq hg hq1 hm hx hm1 hj hy r1 r4 n1 n8 x16 (by omega) ?_ ?_ (sh _ (by omega)) (sh _ (by omega)) ?_ ?_ (hideIt (by omega)) (by omega) ?_ (M.one_add 5 r (by omega) (by omega) r1 r4) (M.left_fd r n g x r1 r4 n8 hgn hxr) (M.wrong_fd r n g _ x r1 r4 n8 n1 t2 t1 hxr)
  · exact u64_xor_nat _ _ (by omega) (by omega)
  · rw [IntKind.wrap_u64]; omega
  · rw [IntKind.wrap_u64]; omega
  · rw [IntKind.wrap_u64]; omega
  · rw [IntKind.wrap_i64]; omega

set_option maxRecDepth 100000 in
theorem lifted (os : Os) (started : os.Started) (H : Type) (enc : TypeId × Value → H) :
    ReturnsInHanded {} Try.checked os 7 .any (Rows.guardWrongSpec.pre6 enc Try.prog Try.f7 Rows.guardWrongRow.domain false) (Rows.guardWrongSpec.post enc Try.prog Try.f7 false true false false) := by
  refine returnsInHanded_of_change (C := Try.checked) own started (by kernel_rfl) Try.func7
    (ChangeSpec.witness6 (enc := enc) (C := Try.checked) false ⟨#[], #[.int .i64 0, .int .u64 0, .int .i64 0, .int .i64 0, .int .i64 0], []⟩ 8 (by kernel_rfl) (by kernel_rfl) (by kernel_rfl) (by kernel_rfl)) ?_
  intro W base args ds gs before hval0 hW hcnd _
  have hval : ∀ (j : Nat) t v, Try.f7.params[j]? = some t → args[j]? = some v → Value.okWide Try.prog W .any base t v := hval0
  have hW' := hW
  obtain ⟨p, q, hA0, hV, rfl, hfz, hnd⟩ := hW
  have hA : DataW.TrodAll enc Try.prog W 0 (fun _ => true) true Try.f7.params.toList args.toList ds p := hA0
  rw [Try.params7] at hA hval
  obtain ⟨v0, vs0, d0, ds0, p0, q0, hargs, rfl, rfl, h0, r0⟩ := trodAll_cons hA
  obtain ⟨v1, vs1, d1, ds1, p1, q1, rfl, rfl, rfl, h1, r1⟩ := trodAll_cons r0
  obtain ⟨v2, vs2, d2, ds2, p2, q2, rfl, rfl, rfl, h2, r2⟩ := trodAll_cons r1
  obtain ⟨v3, vs3, d3, ds3, p3, q3, rfl, rfl, rfl, h3, r3⟩ := trodAll_cons r2
  obtain ⟨v4, vs4, d4, ds4, p4, q4, rfl, rfl, rfl, h4, r4⟩ := trodAll_cons r3
  obtain ⟨rfl, rfl, rfl⟩ := trodAll_nil r4
  obtain rfl : args = #[v0, v1, v2, v3, v4] := by cases args; simp_all
  obtain ⟨rfl, rfl⟩ := trodVars_none hV
  obtain ⟨a0, rfl, rfl, rfl, w0⟩ := open_int Try.underlying3 (hval 0 3 v0 rfl rfl) h0
  obtain ⟨a1, rfl, rfl, rfl, w1⟩ := open_int Try.underlying24 (hval 1 24 v1 rfl rfl) h1
  obtain ⟨a2, rfl, rfl, rfl, w2⟩ := open_int Try.underlying3 (hval 2 3 v2 rfl rfl) h2
  obtain ⟨a3, rfl, rfl, rfl, w3⟩ := open_int Try.underlying3 (hval 3 3 v3 rfl rfl) h3
  obtain ⟨a4, rfl, rfl, rfl, w4⟩ := open_int Try.underlying3 (hval 4 3 v4 rfl rfl) h4
  clear hA0 hval0
  refine (walk a0 a1 w1 a2 a3 a4 W).mono fun e W' ⟨he, bel⟩ => ?_
  subst he
  exact ⟨_, rfl, _, _, _, [], _, [], hW', trodAll_mk1 (shut_bool Try.underlying4 _), (trodAll_cons_mk (shut_int Try.underlying3 w0) (trodAll_cons_mk (shut_int Try.underlying24 w1) (trodAll_cons_mk (shut_int Try.underlying3 w2) (trodAll_cons_mk (shut_int Try.underlying3 w3) (trodAll_cons_mk (shut_int Try.underlying3 w4) trodAll_mk0))))), rfl, bel.frame _, fun h => by cases h⟩

theorem over : Rows.guardWrongRow.holds Try.pinned (OpenSpec.ofChange Rows.guardWrongSpec) :=
  OpenClaim.holds_of_wide 7 Try.f7 rfl rfl rfl rfl rfl rfl rfl ⟨rfl, rfl, rfl, rfl, rfl⟩ rfl rfl rfl rfl rfl (by kernel_rfl) Try.func7 (by kernel_rfl)
    (of_decide_eq_true (by kernel_rfl)) (by unfold Func.isWrapper; first | (rw [if_pos (by decide +kernel)]; kernel_rfl) | (rw [if_neg (by decide +kernel)]; exact ⟨rfl, rfl⟩))
    (fun os started H enc _ => lifted os started H enc)

theorem proved : Rows.GuardWrongSaid := over
end Go.Proofs.Ytakappaaiknpfaa.guardWrong
namespace Go.Proofs.Ytakappaaiknpfaa
theorem guardWrong_holds : Rows.GuardWrongSaid := guardWrong.proved
#print axioms guardWrong_holds
end Go.Proofs.Ytakappaaiknpfaa
