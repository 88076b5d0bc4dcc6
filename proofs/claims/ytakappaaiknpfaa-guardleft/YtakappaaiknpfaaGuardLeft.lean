/- GuardLeft: an address with more bits behind leads to the same slot, with so many left, where that slot has no node. For every radix, guard, number of its bits, slot and number of bits behind; no condition. -/
import Derived.Test.YtakappaaiknpfaaWrk
import Derived.Test.YtakappaaiknpfaaMany
import Derived.Deep.Cut
import Derived.Deep.DeepCutAuto
import Derived.Deep.RegionHeld3
import Derived.ProofKit
import Derived.OpenShut
import Derived.ShutString
import Derived.ChangeOld
import Derived.Below
import Derived.Deep.Slices
namespace Go.Proofs.Ytakappaaiknpfaa.guardLeft
open Go.ChangeShapes Go.WideShapes Go.ChangeAt Go.RowKit
set_option linter.unusedVariables false

theorem own : ownKnob Try.prog.godebug = none := by kernel_rfl
theorem laidOut : laidOutB Try.prog = true := by kernel_rfl

theorem pw (n : Nat) (h : n ≤ 16) : IntKind.u64.wrap (2 ^ n) = ((2 ^ n : Nat) : Int) := by
  obtain ⟨e1, e2⟩ := M.pow_small n h
  rw [IntKind.wrap_u64, show ((2 : Int) ^ n) = ((2 ^ n : Nat) : Int) by simp]
  generalize 2 ^ n = Q at e1 e2
  omega

/-- What comes in, brought into bounds. -/
theorem args (a0 a1 a2 a3 a4 : Int) (h0 : 0 ≤ a1) (h1 : a1 < 18446744073709551616) : ∃ U V T B r n q g m x k : Nat, IntKind.u64.wrap a0 = (U : Int) ∧ IntKind.u64.wrap a2 = (V : Int) ∧ IntKind.u64.wrap a3 = (T : Int) ∧ IntKind.u64.wrap a4 = (B : Int) ∧
    1 + (U : Int) % 4 = (r : Int) ∧ (V : Int) % 5 = (n : Int) ∧ 1 + (B : Int) % 6 = (k : Int) ∧ IntKind.u64.wrap (2 ^ n) = (q : Int) ∧ a1.tmod (q : Int) = (g : Int) ∧ 1 ≤ q ∧ IntKind.u64.wrap (2 ^ r) = (m : Int) ∧ (T : Int).tmod (m : Int) = (x : Int) ∧ 1 ≤ m ∧
    1 ≤ r ∧ r ≤ 4 ∧ n ≤ 4 ∧ 1 ≤ k ∧ k ≤ 6 ∧ g < 2 ^ n ∧ x < 2 ^ r ∧ x < 16 := by
  obtain ⟨U, hU, _⟩ := M.wrap_nat a0
  obtain ⟨V, hV, _⟩ := M.wrap_nat a2
  obtain ⟨T, hT, _⟩ := M.wrap_nat a3
  obtain ⟨B, hB, _⟩ := M.wrap_nat a4
  obtain ⟨P, rfl⟩ : ∃ P : Nat, a1 = (P : Int) := ⟨a1.toNat, by omega⟩
  have hr : 1 + U % 4 ≤ 4 := by omega
  have hn : V % 5 ≤ 4 := by omega
  have hm : 2 ^ (1 + U % 4) ≤ 16 := by have : 2 ^ (1 + U % 4) ≤ 2 ^ 4 := Nat.pow_le_pow_right (by omega) hr; simpa using this
  have e1 : 1 ≤ 2 ^ (V % 5) := Nat.one_le_two_pow
  have e2 : 1 ≤ 2 ^ (1 + U % 4) := Nat.one_le_two_pow
  have e3 : T % 2 ^ (1 + U % 4) < 2 ^ (1 + U % 4) := Nat.mod_lt _ (by omega)
  exact ⟨U, V, T, B, 1 + U % 4, V % 5, 2 ^ (V % 5), P % 2 ^ (V % 5), 2 ^ (1 + U % 4), T % 2 ^ (1 + U % 4), 1 + B % 6, hU, hV, hT, hB, by omega, by omega, by omega, pw _ (by omega), (Int.ofNat_tmod _ _).symm, e1, pw _ (by omega), (Int.ofNat_tmod _ _).symm, e2, by omega, hr, hn, by omega, by omega, Nat.mod_lt _ (by omega), e3, by omega⟩

set_option maxRecDepth 10000 in
set_option maxHeartbeats 4000000 in
theorem core (a0 a1 a2 a3 a4 : Int) (U V T B r n q g m x k G1 p1 p2 d e : Nat) (w : World) (hU : IntKind.u64.wrap a0 = (U : Int)) (hV : IntKind.u64.wrap a2 = (V : Int)) (hT : IntKind.u64.wrap a3 = (T : Int)) (hB : IntKind.u64.wrap a4 = (B : Int))
    (hr : 1 + (U : Int) % 4 = (r : Int)) (hn : (V : Int) % 5 = (n : Int)) (hk : 1 + (B : Int) % 6 = (k : Int)) (hq : IntKind.u64.wrap (2 ^ n) = (q : Int)) (hg : a1.tmod (q : Int) = (g : Int)) (hq1 : 1 ≤ q) (hm : IntKind.u64.wrap (2 ^ r) = (m : Int)) (hx : (T : Int).tmod (m : Int) = (x : Int)) (hm1 : 1 ≤ m)
    (r1 : 1 ≤ r) (r4 : r ≤ 4) (n4 : n ≤ 4) (k1 : 1 ≤ k) (k6 : k ≤ 6) (x16 : x < 16)
    (hx64 : IntKind.u64.wrap (x : Int) = (x : Int)) (hg1 : IntKind.u64.wrap ((g : Int) * 2 ^ r) = (G1 : Int)) (hs1 : (G1 : Int) + (x : Int) = (p1 : Int)) (hs2 : IntKind.u64.wrap ((p1 : Int) * 2 ^ k) = (p2 : Int)) (HP16 : Hid (p1 < 65536 ∧ p2 < 65536)) (g16 : G1 < 65536) (hd : (n : Int) + (r : Int) = (d : Int)) (hwd : IntKind.i64.wrap (d : Int) = (d : Int)) (he : (d : Int) + (k : Int) = (e : Int)) (hwe : IntKind.i64.wrap (e : Int) = (e : Int))
    (HA : Hid (M.addE (fun _ => none) 5 r = 0 ∧ M.addS (fun _ => none) 5 r = M.one 5 r (fun _ => C.zero))) (HF1 : Hid (M.fd (M.one 5 r (fun _ => C.zero)) ⟨2, 5, 0, 0, g, n⟩ p1 d = (5, (x : Int), 0))) (HF2 : Hid (M.rs (M.one 5 r (fun _ => C.zero)) ⟨2, 5, 0, 0, g, n⟩ p2 e = (5, (x : Int), (k : Int), 0))) (HF3 : Hid (M.fd (M.one 5 r (fun _ => C.zero)) ⟨2, 5, 0, 0, g, n⟩ p2 e = (0, 0, 6))) :
    Calls Try.prog 6 #[.int .i64 a0, .int .u64 a1, .int .i64 a2, .int .i64 a3, .int .i64 a4] w fun e w' => e = .returned (.bool true) ∧ Below w.heap.size w w' := by
  have W5 : Hid (I64 5) := hideIt (by decide)
  have qe := eqGuardSlots
  have qn := run_eql_slots
  go_enter Try.func6, Try.ntmps6
  go_wp2_with fail
  refine (works_is _).mono ?_
  rintro _ w1 ⟨rfl, g1⟩
  go_wp2_with fail
  refine (new_own g1).mono ?_
  rintro _ w2 ⟨s, O, rfl, B2⟩
  have HB2 := hideIt B2
  clear B2 g1
  go_wp2_with fail
  refine (add_own HB2.out 5 r 0 W5.out (by omega) HA.out.1).mono ?_
  rintro _ w3 ⟨rfl, O2, B3, _⟩
  rw [HA.out.2] at B3
  have HB3 := hideIt B3
  clear B3 HB2 hU hV hT hB hr hn hk hq hg hx hm hm1 hq1
  go_upto_region 10 with fail
  obtain ⟨W4, hW4, X4, g4⟩ := boxNew w3 ⟨2, 5, 0, 0, g, n⟩
  simp only at hW4
  rw [hW4]
  have HB4 := hideIt (HB3.out.kept g4)
  have HX4 := hideIt X4
  clear hW4 X4 HB3
  obtain ⟨X, hX⟩ : ∃ X, X = w3.heap.size := ⟨_, rfl⟩
  rw [← hX] at HX4 ⊢
  clear hX g4
  obtain ⟨x0, x1, x2, x3, x4, x5, _, _⟩ := HX4.out
  simp only at x0 x1 x2 x3 x4 x5
  have HP := hideIt (find_is HB4.out.sat HB4.out.good p1 2 5 0 0 g n d 5 x 0 W5.out (Nat.lt_trans HP16.out.1 (by decide)) HF1.out)
  go_wp2_with fail
  refine HP.out.mono ?_
  rintro _ w5 ⟨rfl, g5⟩
  clear HP x0 x1 x2 x3 x4 x5
  go_upto_region 12 with fail
  obtain ⟨W6, hW6, Y6, g6⟩ := sboxNew w5 5 x
  rw [hW6]
  have HB6 := hideIt (HB4.out.kept (gbTrans g5 g6))
  have HX6 := hideIt (HX4.out.kept (gbTrans g5 g6))
  have HY6 := hideIt Y6
  clear hW6 Y6 HB4 HX4 g5 g6 hg1 hs1
  obtain ⟨Y0, hY0⟩ : ∃ Y, Y = w5.heap.size := ⟨_, rfl⟩
  rw [← hY0] at HY6 ⊢
  clear hY0
  go_cut [16, 17, 18] (fun s16 s17 s18 wc => ∃ Y : Nat, s16 = .pointer (some ⟨Y, 0, none⟩) ∧ s17 = .int .i64 k ∧ s18 = .int .i64 0 ∧ Hid (Own w wc O2 s 1 (M.one 5 r (fun _ => C.zero))) ∧ Hid (Box wc X ⟨2, 5, 0, 0, g, n⟩) ∧ Hid (SBox wc Y 5 x) ∧ Hid (SBox wc Y0 5 x))
  case first =>
    have T0b := HX6.out
    have T0 : Six W6.drew X ⟨2, 5, 0, 0, g, n⟩ := (T0b.kept (gbDrew (gbRefl W6 none))).tup
    go_region_held3 (fun w' => Six w' X ⟨2, 5, 0, 0, g, n⟩)
      (first | with_reducible exact T0 | (refine Box.tup (Box.kept T0b ?_); repeat (first | with_reducible exact G2 | with_reducible exact gbRefl W6 none | with_reducible refine gbDrew ?_ | with_reducible refine gbAllocN ?_ _ | with_reducible refine gbSetNew ?_ _ _ _ (by with_reducible first | exact Nat.le_refl _ | exact G2.size))) | fail)
      ((first | (go_at_call 9; refine (resolve_is (HB6.out.kept (by repeat (first | with_reducible exact gbRefl W6 none | with_reducible refine gbDrew ?_ | with_reducible refine gbAllocN ?_ _))).sat HB6.out.good p2 2 5 0 0 g n e 5 x k 0 W5.out (Nat.lt_trans HP16.out.2 (by decide)) HF2.out).mono ?_; rintro _ v7 ⟨rfl, g5⟩; have hc3 := gcell g5; have hf3 := gfroz g5; have G2 : W6.grownBy v7 none := (by first | exact gbTrans (gbDrewN W6 1 none) g5 | exact gbTrans (gbDrew (gbAllocN (gbRefl W6 none) _)) g5)) | fail))
    · rename_i hold
      clear hold T0
      obtain ⟨W6, hW6, Y6, g6⟩ := sboxNew v7 5 x
      rw [hW6]
      go_wp2
      go_meet
      exact ⟨_, rfl, rfl, rfl, hideIt (HB6.out.kept (gbTrans G2 g6)), hideIt (T0b.kept (gbTrans G2 g6)), Y6, hideIt (HY6.out.kept (gbTrans G2 g6))⟩
    · rename_i hold
      clear hold T0
      have Z0 : SBox v7 W6.heap.size 0 0 := ((SBox.made W6 0 0).kept (gbDrew (gbRefl _ none))).kept g5
      obtain ⟨W6, hW6, Y6, g6⟩ := Z0.put 5 x
      rw [hW6]
      have G7 := gbNew (gbTrans (gbAny G2 _) g6) (Nat.le_refl _)
      go_wp2
      go_meet
      exact ⟨_, rfl, rfl, rfl, hideIt (HB6.out.kept G7), hideIt (T0b.kept G7), Y6, hideIt (HY6.out.kept (G7))⟩
  case rest =>
    obtain ⟨Y7, rfl, rfl, rfl, HB7, HX7, HY7, HY6k7⟩ := hcut
    clear HB6 HX6 HY6
    go_upto_region 13 with fail
    go_cut [19, 20] (fun s19 s20 wc => ∃ Y : Nat, s19 = .pointer (some ⟨Y, 0, none⟩) ∧ s20 = .int .i64 6 ∧ Hid (Own w wc O2 s 1 (M.one 5 r (fun _ => C.zero))) ∧ Hid (Box wc X ⟨2, 5, 0, 0, g, n⟩) ∧ Hid (SBox wc Y 0 0) ∧ Hid (SBox wc Y0 5 x) ∧ Hid (SBox wc Y7 5 x))
    case first =>
      have T0b := HX7.out
      have T0 : Six wc.drew X ⟨2, 5, 0, 0, g, n⟩ := (T0b.kept (gbDrew (gbRefl wc none))).tup
      go_region_held3 (fun w' => Six w' X ⟨2, 5, 0, 0, g, n⟩)
        (first | with_reducible exact T0 | (refine Box.tup (Box.kept T0b ?_); repeat (first | with_reducible exact G2 | with_reducible exact gbRefl wc none | with_reducible refine gbDrew ?_ | with_reducible refine gbAllocN ?_ _ | with_reducible refine gbSetNew ?_ _ _ _ (by with_reducible first | exact Nat.le_refl _ | exact G2.size))) | fail)
        ((first | (go_at_call 11; refine (find_is (HB7.out.kept (by repeat (first | with_reducible exact gbRefl wc none | with_reducible refine gbDrew ?_ | with_reducible refine gbAllocN ?_ _))).sat HB7.out.good p2 2 5 0 0 g n e 0 0 6 W5.out (Nat.lt_trans HP16.out.2 (by decide)) HF3.out).mono ?_; rintro _ v8 ⟨rfl, g5⟩; have hc3 := gcell g5; have hf3 := gfroz g5; have G2 : wc.grownBy v8 none := (by first | exact gbTrans (gbDrewN wc 1 none) g5 | exact gbTrans (gbDrew (gbAllocN (gbRefl wc none) _)) g5)) | fail))
      · rename_i hold
        clear hold T0
        obtain ⟨W6, hW6, Y6, g6⟩ := sboxNew v8 0 0
        rw [hW6]
        go_wp2
        go_meet
        exact ⟨_, rfl, rfl, hideIt (HB7.out.kept (gbTrans G2 g6)), hideIt (T0b.kept (gbTrans G2 g6)), Y6, hideIt (HY6k7.out.kept (gbTrans G2 g6)), hideIt (HY7.out.kept (gbTrans G2 g6))⟩
      · rename_i hold
        clear hold T0
        have Z0 : SBox v8 wc.heap.size 0 0 := ((SBox.made wc 0 0).kept (gbDrew (gbRefl _ none))).kept g5
        obtain ⟨W6, hW6, Y6, g6⟩ := Z0.put 0 0
        rw [hW6]
        have G7 := gbNew (gbTrans (gbAny G2 _) g6) (Nat.le_refl _)
        go_wp2
        go_meet
        exact ⟨_, rfl, rfl, hideIt (HB7.out.kept G7), hideIt (T0b.kept G7), Y6, hideIt (HY6k7.out.kept (G7)), hideIt (HY7.out.kept (G7))⟩
    case rest =>
      obtain ⟨Y8, rfl, rfl, HB8, HX8, HY8, HY6k7k8, HY7k8⟩ := hcut
      obtain ⟨y0, y1, _⟩ := HY6k7k8.out
      obtain ⟨z0, z1, _⟩ := HY7k8.out
      have hq5 := M.seq_refl 5 x
      go_wp2
      go_ret
      exact ⟨rfl, gbEnd HB8.out.gr⟩

theorem walk (a0 a1 : Int) (w1 : (Lit.int .u64 a1).wf = true) (a2 a3 a4 : Int) (w : World) :
    Calls Try.prog 6 #[.int .i64 a0, .int .u64 a1, .int .i64 a2, .int .i64 a3, .int .i64 a4] w fun e w' => e = .returned (.bool true) ∧ Below w.heap.size w w' := by
  have hb := u64_wf w1
  obtain ⟨U, V, T, B, r, n, q, g, m, x, k, hU, hV, hT, hB, hr, hn, hk, hq, hg, hq1, hm, hx, hm1, r1, r4, n4, k1, k6, hgn, hxr, x16⟩ := args a0 a1 a2 a3 a4 hb.1 hb.2
  have b1 := M.join_lt g x r n hgn hxr
  have b2 := M.join_lt (g * 2 ^ r + x) 0 k (n + r) b1 (Nat.two_pow_pos k)
  rw [Nat.add_zero] at b2
  have b3 := (M.pow_small (n + r + k) (by omega)).1
  have b4 := (M.pow_small (n + r) (by omega)).1
  have sh : ∀ i k : Nat, k * 2 ^ i < 65536 → IntKind.u64.wrap ((k : Int) * 2 ^ i) = ((k * 2 ^ i : Nat) : Int) := by
    intro i k hk
    rw [IntKind.wrap_u64, show ((k : Int) * 2 ^ i) = ((k * 2 ^ i : Nat) : Int) by simp]
    omega
  refine core a0 a1 a2 a3 a4 U V T B r n q g m x k (g * 2 ^ r) (g * 2 ^ r + x) ((g * 2 ^ r + x) * 2 ^ k) (n + r) (n + r + k) w hU hV hT hB hr hn hk hq hg hq1 hm hx hm1 r1 r4 n4 k1 k6 x16 ?_ (sh _ _ (by omega)) (by omega) (sh _ _ (by omega)) (hideIt (by omega)) (by omega) (by omega) ?_ (by omega) ?_ (M.one_add 5 r (by omega) (by omega) r1 r4) (M.left_fd r n g x r1 r4 (by omega) hgn hxr) (M.left_rs r n g x k r1 r4 (by omega) hgn hxr (by omega)) (M.more_fd r n g x k r1 r4 (by omega) hgn hxr k1 (by omega))
  · rw [IntKind.wrap_u64]; omega
  · rw [IntKind.wrap_i64]; omega
  · rw [IntKind.wrap_i64]; omega

set_option maxRecDepth 100000 in
theorem lifted (os : Os) (started : os.Started) (H : Type) (enc : TypeId × Value → H) :
    ReturnsInHanded {} Try.checked os 6 .any (Rows.guardLeftSpec.pre6 enc Try.prog Try.f6 Rows.guardLeftRow.domain false) (Rows.guardLeftSpec.post enc Try.prog Try.f6 false true false false) := by
  refine returnsInHanded_of_change (C := Try.checked) own started (by kernel_rfl) Try.func6
    (ChangeSpec.witness6 (enc := enc) (C := Try.checked) false ⟨#[], #[.int .i64 0, .int .u64 0, .int .i64 0, .int .i64 0, .int .i64 0], []⟩ 8 (by kernel_rfl) (by kernel_rfl) (by kernel_rfl) (by kernel_rfl)) ?_
  intro W base args ds gs before hval0 hW hcnd _
  have hval : ∀ (j : Nat) t v, Try.f6.params[j]? = some t → args[j]? = some v → Value.okWide Try.prog W .any base t v := hval0
  have hW' := hW
  obtain ⟨p, q, hA0, hV, rfl, hfz, hnd⟩ := hW
  have hA : DataW.TrodAll enc Try.prog W 0 (fun _ => true) true Try.f6.params.toList args.toList ds p := hA0
  rw [Try.params6] at hA hval
  obtain ⟨v0, vs0, d0, ds0, p0, q0, hargs, rfl, rfl, h0, r0⟩ := trodAll_cons hA
  obtain ⟨v1, vs1, d1, ds1, p1, q1, rfl, rfl, rfl, h1, r1⟩ := trodAll_cons r0
  obtain ⟨v2, vs2, d2, ds2, p2, q2, rfl, rfl, rfl, h2, r2⟩ := trodAll_cons r1
  obtain ⟨v3, vs3, d3, ds3, p3, q3, rfl, rfl, rfl, h3, r3⟩ := trodAll_cons r2
  obtain ⟨v4, vs4, d4, ds4, p4, q4, rfl, rfl, rfl, h4, r4⟩ := trodAll_cons r3
  obtain ⟨rfl, rfl, rfl⟩ := trodAll_nil r4
  obtain rfl : args = #[v0, v1, v2, v3, v4] := by cases args; simp_all
  obtain ⟨rfl, rfl⟩ := trodVars_none hV
  obtain ⟨a0, rfl, rfl, rfl, w0⟩ := open_int Try.underlying3 (hval 0 3 v0 rfl rfl) h0
  obtain ⟨a1, rfl, rfl, rfl, w1⟩ := open_int Try.underlying24 (hval 1 24 v1 rfl rfl) h1
  obtain ⟨a2, rfl, rfl, rfl, w2⟩ := open_int Try.underlying3 (hval 2 3 v2 rfl rfl) h2
  obtain ⟨a3, rfl, rfl, rfl, w3⟩ := open_int Try.underlying3 (hval 3 3 v3 rfl rfl) h3
  obtain ⟨a4, rfl, rfl, rfl, w4⟩ := open_int Try.underlying3 (hval 4 3 v4 rfl rfl) h4
  clear hA0 hval0
  refine (walk a0 a1 w1 a2 a3 a4 W).mono fun e W' ⟨he, bel⟩ => ?_
  subst he
  exact ⟨_, rfl, _, _, _, [], _, [], hW', trodAll_mk1 (shut_bool Try.underlying4 _), (trodAll_cons_mk (shut_int Try.underlying3 w0) (trodAll_cons_mk (shut_int Try.underlying24 w1) (trodAll_cons_mk (shut_int Try.underlying3 w2) (trodAll_cons_mk (shut_int Try.underlying3 w3) (trodAll_cons_mk (shut_int Try.underlying3 w4) trodAll_mk0))))), rfl, bel.frame _, fun h => by cases h⟩

theorem over : Rows.guardLeftRow.holds Try.pinned (OpenSpec.ofChange Rows.guardLeftSpec) :=
  OpenClaim.holds_of_wide 6 Try.f6 rfl rfl rfl rfl rfl rfl rfl ⟨rfl, rfl, rfl, rfl, rfl⟩ rfl rfl rfl rfl rfl (by kernel_rfl) Try.func6 (by kernel_rfl)
    (of_decide_eq_true (by kernel_rfl)) (by unfold Func.isWrapper; first | (rw [if_pos (by decide +kernel)]; kernel_rfl) | (rw [if_neg (by decide +kernel)]; exact ⟨rfl, rfl⟩))
    (fun os started H enc _ => lifted os started H enc)

theorem proved : Rows.GuardLeftSaid := over
end Go.Proofs.Ytakappaaiknpfaa.guardLeft
namespace Go.Proofs.Ytakappaaiknpfaa
theorem guardLeft_holds : Rows.GuardLeftSaid := guardLeft.proved
#print axioms guardLeft_holds
end Go.Proofs.Ytakappaaiknpfaa
