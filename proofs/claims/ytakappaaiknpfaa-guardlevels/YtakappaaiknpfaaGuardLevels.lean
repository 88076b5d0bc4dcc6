/- GuardLevels: through two nodes: the address that is made of both guards and both slots' numbers leads to the second one's slot; its front leads to the first one's. For every two radixes, guards and slots; no condition. -/
import Derived.Test.YtakappaaiknpfaaWrk
import Derived.Test.YtakappaaiknpfaaTwo
import Derived.Deep.Cut
import Derived.Deep.DeepCutAuto
import Derived.Deep.RegionHeld3
import Derived.Test.YtakappaaiknpfaaArgs
import Derived.ProofKit
import Derived.OpenShut
import Derived.ShutString
import Derived.ChangeOld
import Derived.Below
import Derived.Deep.Slices
namespace Go.Proofs.Ytakappaaiknpfaa.guardLevels
open Go.ChangeShapes Go.WideShapes Go.ChangeAt Go.RowKit
set_option linter.unusedVariables false

theorem own : ownKnob Try.prog.godebug = none := by kernel_rfl
theorem laidOut : laidOutB Try.prog = true := by kernel_rfl

theorem pw (n : Nat) (h : n ≤ 16) : IntKind.u64.wrap (2 ^ n) = ((2 ^ n : Nat) : Int) := by
  obtain ⟨e1, e2⟩ := M.pow_small n h
  rw [IntKind.wrap_u64, show ((2 : Int) ^ n) = ((2 ^ n : Nat) : Int) by simp]
  generalize 2 ^ n = Q at e1 e2
  omega

/-- What comes in, brought into bounds. -/
theorem args (a0 a1 a2 a3 A B : Int) (h2 : 0 ≤ a2) (h3 : 0 ≤ a3) : ∃ U V P Q a b g h m n i k : Nat, IntKind.u64.wrap a0 = (U : Int) ∧ IntKind.u64.wrap a1 = (V : Int) ∧ IntKind.u64.wrap A = (P : Int) ∧ IntKind.u64.wrap B = (Q : Int) ∧
    1 + (U : Int) % 3 = (a : Int) ∧ 1 + (V : Int) % 3 = (b : Int) ∧ a2.tmod 8 = (g : Int) ∧ a3.tmod 4 = (h : Int) ∧ IntKind.u64.wrap (2 ^ a) = (m : Int) ∧ IntKind.u64.wrap (2 ^ b) = (n : Int) ∧ (P : Int).tmod (m : Int) = (i : Int) ∧ (Q : Int).tmod (n : Int) = (k : Int) ∧ 1 ≤ m ∧ 1 ≤ n ∧
    1 ≤ a ∧ a ≤ 3 ∧ 1 ≤ b ∧ b ≤ 3 ∧ g < 8 ∧ h < 4 ∧ i < 2 ^ a ∧ k < 2 ^ b ∧ i < 8 ∧ k < 8 := by
  obtain ⟨U, hU, _⟩ := M.wrap_nat a0
  obtain ⟨V, hV, _⟩ := M.wrap_nat a1
  obtain ⟨P, hP, _⟩ := M.wrap_nat A
  obtain ⟨Q, hQ, _⟩ := M.wrap_nat B
  obtain ⟨G, rfl⟩ : ∃ G : Nat, a2 = (G : Int) := ⟨a2.toNat, by omega⟩
  obtain ⟨H, rfl⟩ : ∃ H : Nat, a3 = (H : Int) := ⟨a3.toNat, by omega⟩
  have ha : 1 + U % 3 ≤ 3 := by omega
  have hb : 1 + V % 3 ≤ 3 := by omega
  have e1 : 1 ≤ 2 ^ (1 + U % 3) := Nat.one_le_two_pow
  have e2 : 1 ≤ 2 ^ (1 + V % 3) := Nat.one_le_two_pow
  have m1 : 2 ^ (1 + U % 3) ≤ 8 := by have : 2 ^ (1 + U % 3) ≤ 2 ^ 3 := Nat.pow_le_pow_right (by omega) ha; simpa using this
  have m2 : 2 ^ (1 + V % 3) ≤ 8 := by have : 2 ^ (1 + V % 3) ≤ 2 ^ 3 := Nat.pow_le_pow_right (by omega) hb; simpa using this
  have e3 : P % 2 ^ (1 + U % 3) < 2 ^ (1 + U % 3) := Nat.mod_lt _ (by omega)
  have e4 : Q % 2 ^ (1 + V % 3) < 2 ^ (1 + V % 3) := Nat.mod_lt _ (by omega)
  exact ⟨U, V, P, Q, 1 + U % 3, 1 + V % 3, G % 8, H % 4, 2 ^ (1 + U % 3), 2 ^ (1 + V % 3), P % 2 ^ (1 + U % 3), Q % 2 ^ (1 + V % 3), hU, hV, hP, hQ, by omega, by omega, (Int.ofNat_tmod _ 8).symm, (Int.ofNat_tmod _ 4).symm, pw _ (by omega), pw _ (by omega), (Int.ofNat_tmod _ _).symm, (Int.ofNat_tmod _ _).symm, e1, e2, by omega, ha, by omega, hb, by omega, by omega, e3, e4, by omega, by omega⟩

set_option maxRecDepth 10000 in
set_option maxHeartbeats 4000000 in
theorem core (a0 a1 a2 a3 A B : Int) (U V P Q a b g h m n i k c G1 G2 G3 H1 p1 p2 d e d1 : Nat) (w : World) (hU : IntKind.u64.wrap a0 = (U : Int)) (hV : IntKind.u64.wrap a1 = (V : Int)) (hP : IntKind.u64.wrap A = (P : Int)) (hQ : IntKind.u64.wrap B = (Q : Int))
    (ha : 1 + (U : Int) % 3 = (a : Int)) (hb : 1 + (V : Int) % 3 = (b : Int)) (hg : a2.tmod 8 = (g : Int)) (hh : a3.tmod 4 = (h : Int)) (hm : IntKind.u64.wrap (2 ^ a) = (m : Int)) (hn : IntKind.u64.wrap (2 ^ b) = (n : Int)) (hi : (P : Int).tmod (m : Int) = (i : Int)) (hk : (Q : Int).tmod (n : Int) = (k : Int)) (hm1 : 1 ≤ m) (hn1 : 1 ≤ n)
    (r1 : 1 ≤ a) (r3 : a ≤ 3) (b1 : 1 ≤ b) (b3 : b ≤ 3) (g8 : g < 8) (h4 : h < 4) (i8 : i < 8) (k8 : k < 8)
    (hc : 2 + (b : Int) = (c : Int)) (hg1 : IntKind.u64.wrap ((g : Int) * 2 ^ a) = (G1 : Int)) (hg2 : (G1 : Int) + (i : Int) = (G2 : Int)) (hg3 : IntKind.u64.wrap ((G2 : Int) * 2 ^ c) = (G3 : Int)) (hh1 : IntKind.u64.wrap ((h : Int) * 2 ^ b) = (H1 : Int)) (hp1 : (G3 : Int) + (H1 : Int) = (p1 : Int)) (hp2 : (p1 : Int) + (k : Int) = (p2 : Int)) (B16 : G1 < 65536 ∧ G2 < 65536 ∧ G3 < 65536 ∧ H1 < 65536 ∧ p1 < 65536 ∧ p2 < 65536)
    (HA1 : Hid (M.addE (fun _ => none) 1 a = 0 ∧ M.addS (fun _ => none) 1 a = M.one 1 a (fun _ => C.zero))) (HA2 : Hid (M.addE (M.one 1 a (fun _ => C.zero)) 2 b = 0 ∧ M.addS (M.one 1 a (fun _ => C.zero)) 2 b = M.two a b i C.zero)) (HA3 : Hid (M.putE (M.two a b i C.zero) 1 i (M.nxt h) = 0 ∧ M.putS (M.two a b i C.zero) 1 i (M.nxt h) = M.two a b i (M.nxt h)))
    (he : 3 + (a : Int) = (e : Int)) (hd1 : (e : Int) + 2 = (d1 : Int)) (hd : (d1 : Int) + (b : Int) = (d : Int)) (d16 : (d : Int) ≤ 16) (hwe : IntKind.i64.wrap (e : Int) = (e : Int)) (hwc : IntKind.i64.wrap (c : Int) = (c : Int)) (c5 : (c : Int) ≤ 5) (hsh : (p2 : Int) / 2 ^ c = (G2 : Int)) (HF1 : Hid (M.fd (M.two a b i (M.nxt h)) ⟨2, 1, 0, 0, g, 3⟩ p2 d = (2, (k : Int), 0))) (HF2 : Hid (M.rs (M.two a b i (M.nxt h)) ⟨2, 1, 0, 0, g, 3⟩ G2 e = (1, (i : Int), 0, 0))) :
    Calls Try.prog 4 #[.int .i64 a0, .int .i64 a1, .int .u64 a2, .int .u64 a3, sv A B] w fun e w' => e = .returned (.bool true) ∧ Below w.heap.size w w' := by
  have W1 : Hid (I64 1 ∧ I64 2) := hideIt (by decide)
  have qe := eqGuardSlots
  have qn := run_eql_slots
  have HB16 := hideIt B16
  go_enter Try.func4, Try.ntmps4
  go_upto_region 1 with fail
  obtain ⟨W0, hW0, Y0, g0⟩ := sboxNew w A B
  rw [hW0]
  clear hW0
  go_wp2_with fail
  refine (works_is _).mono ?_
  rintro _ w1 ⟨rfl, g1⟩
  have G01 := gbTrans g0 g1
  obtain ⟨y0, y1, _⟩ := Y0.kept g1
  clear Y0 g0 g1
  go_wp2_with fail
  go_quiet (fail)
  have HG1 := hideIt (gbTrans G01 (gbDrewN w1 nq none))
  clear y0 y1 G01 hP hQ hi hk
  go_wp2_with fail
  clear hU hV ha hb hg hh hm hn hm1 hn1
  refine (new_own HG1.out).mono ?_
  rintro _ w2 ⟨s, O, rfl, B2⟩
  have HB2 := hideIt B2
  clear B2 HG1
  go_wp2_with fail
  refine (add_own HB2.out 1 a 0 W1.out.1 (by omega) HA1.out.1).mono ?_
  rintro _ w3 ⟨rfl, O1, B3, _⟩
  rw [HA1.out.2] at B3
  have HB3 := hideIt B3
  clear B3 HB2
  go_wp2_with fail
  refine (add_own HB3.out 2 b 0 W1.out.2 (by omega) HA2.out.1).mono ?_
  rintro _ w4 ⟨rfl, O2, B4, _⟩
  rw [HA2.out.2] at B4
  have HB4 := hideIt B4
  clear B4 HB3
  go_wp2_with fail
  refine (put_own HB4.out 1 i 2 2 0 0 h 2 0 W1.out.1 (by decide) (by omega) HA3.out.1).mono ?_
  rintro _ w5 ⟨rfl, B5, _⟩
  rw [HA3.out.2] at B5
  have HB5 := hideIt B5
  clear B5 HB4
  go_upto_region 10 with fail
  obtain ⟨W6, hW6, X6, g6⟩ := boxNew w5 ⟨2, 1, 0, 0, g, 3⟩
  simp only at hW6
  rw [hW6]
  have HB6 := hideIt (HB5.out.kept g6)
  have HX6 := hideIt X6
  clear hW6 X6 HB5
  obtain ⟨X, hX⟩ : ∃ X, X = w5.heap.size := ⟨_, rfl⟩
  rw [← hX] at HX6 ⊢
  clear hX g6
  go_quiet (fail)
  have HB7 := hideIt (HB6.out.kept (gbDrewN W6 nq none))
  have HX7 := hideIt (HX6.out.kept (gbDrewN W6 nq none))
  obtain ⟨W7, hW7⟩ : ∃ W7, W7 = W6.drewN nq := ⟨_, rfl⟩
  rw [← hW7] at HB7 HX7 ⊢
  clear hW7 HB6 HX6 hg1 hg2 hg3 hh1 hp1 hp2
  obtain ⟨x0, x1, x2, x3, x4, x5, _, _⟩ := HX7.out
  simp only at x0 x1 x2 x3 x4 x5
  have HP := hideIt (find_is HB7.out.sat HB7.out.good p2 2 1 0 0 g 3 d 2 k 0 W1.out.1 (by have := HB16.out; omega) HF1.out)
  go_wp2_with fail
  refine HP.out.mono ?_
  rintro _ w8 ⟨rfl, g8'⟩
  clear HP x0 x1 x2 x3 x4 x5
  go_upto_region 12 with fail
  obtain ⟨W9, hW9, Y9, g9⟩ := sboxNew w8 2 k
  rw [hW9]
  have HB9 := hideIt (HB7.out.kept (gbTrans g8' g9))
  have HX9 := hideIt (HX7.out.kept (gbTrans g8' g9))
  have HY9 := hideIt Y9
  clear hW9 Y9 HB7 HX7 g8' g9 hd hd1
  obtain ⟨Y0, hY0⟩ : ∃ Y, Y = w8.heap.size := ⟨_, rfl⟩
  rw [← hY0] at HY9 ⊢
  clear hY0
  go_cut [18, 19, 20] (fun s18 s19 s20 wc => ∃ Y : Nat, s18 = .pointer (some ⟨Y, 0, none⟩) ∧ s19 = .int .i64 0 ∧ s20 = .int .i64 0 ∧ Hid (Own w wc O2 s 2 (M.two a b i (M.nxt h))) ∧ Hid (Box wc X ⟨2, 1, 0, 0, g, 3⟩) ∧ Hid (SBox wc Y 1 i) ∧ Hid (SBox wc Y0 2 k))
  case first =>
    have T0b := HX9.out
    have T0 : Six W9.drew X ⟨2, 1, 0, 0, g, 3⟩ := (T0b.kept (gbDrew (gbRefl W9 none))).tup
    go_region_held3 (fun w' => Six w' X ⟨2, 1, 0, 0, g, 3⟩)
      (first | with_reducible exact T0 | (refine Box.tup (Box.kept T0b ?_); repeat (first | with_reducible exact G2 | with_reducible exact gbRefl W9 none | with_reducible refine gbDrew ?_ | with_reducible refine gbAllocN ?_ _ | with_reducible refine gbSetNew ?_ _ _ _ (by with_reducible first | exact Nat.le_refl _ | exact G2.size))) | fail)
      ((first | (go_at_call 9; refine (resolve_is (HB9.out.kept (by repeat (first | with_reducible exact gbRefl W9 none | with_reducible refine gbDrew ?_ | with_reducible refine gbAllocN ?_ _))).sat HB9.out.good G2 2 1 0 0 g 3 e 1 i 0 0 W1.out.1 (Nat.lt_trans HB16.out.2.1 (by decide)) HF2.out).mono ?_; rintro _ v7 ⟨rfl, g5⟩; have hc3 := gcell g5; have hf3 := gfroz g5; have G2 : W9.grownBy v7 none := (by first | exact gbTrans (gbDrewN W9 1 none) g5 | exact gbTrans (gbDrew (gbAllocN (gbRefl W9 none) _)) g5)) | fail))
    · rename_i hold
      clear hold T0
      obtain ⟨W6, hW6, Y6, g6⟩ := sboxNew v7 1 i
      rw [hW6]
      go_wp2
      go_meet
      exact ⟨_, rfl, rfl, rfl, hideIt (HB9.out.kept (gbTrans G2 g6)), hideIt (T0b.kept (gbTrans G2 g6)), Y6, hideIt (HY9.out.kept (gbTrans G2 g6))⟩
    · rename_i hold
      clear hold T0
      have Z0 : SBox v7 W9.heap.size 0 0 := ((SBox.made W9 0 0).kept (gbDrew (gbRefl _ none))).kept g5
      obtain ⟨W6, hW6, Y6, g6⟩ := Z0.put 1 i
      rw [hW6]
      have G7 := gbNew (gbTrans (gbAny G2 _) g6) (Nat.le_refl _)
      go_wp2
      go_meet
      exact ⟨_, rfl, rfl, rfl, hideIt (HB9.out.kept G7), hideIt (T0b.kept G7), Y6, hideIt (HY9.out.kept (G7))⟩
  case rest =>
    obtain ⟨Y7, rfl, rfl, rfl, HB7, HX7, HY7, HY9k7⟩ := hcut
    obtain ⟨y0, y1, _⟩ := HY9k7.out
    obtain ⟨z0, z1, _⟩ := HY7.out
    have hq5 := M.seq_refl 2 k
    have hq6 := M.seq_refl 1 i
    go_wp2
    go_ret
    exact ⟨rfl, gbEnd HB7.out.gr⟩

theorem walk (a0 a1 a2 : Int) (w2 : (Lit.int .u64 a2).wf = true) (a3 : Int) (w3 : (Lit.int .u64 a3).wf = true) (A B : Int) (w : World) :
    Calls Try.prog 4 #[.int .i64 a0, .int .i64 a1, .int .u64 a2, .int .u64 a3, sv A B] w fun e w' => e = .returned (.bool true) ∧ Below w.heap.size w w' := by
  obtain ⟨U, V, P, Q, a, b, g, h, m, n, i, k, hU, hV, hP, hQ, ha, hb, hg, hh, hm, hn, hi, hk, hm1, hn1, r1, r3, b1, b3, g8, h4, hia, hkb, i8, k8⟩ := args a0 a1 a2 a3 A B (u64_wf w2).1 (u64_wf w3).1
  have hz : h * 2 ^ b + k < 2 ^ (2 + b) := M.join_lt h k b 2 h4 hkb
  have hx : g * 2 ^ a + i < 2 ^ (3 + a) := M.join_lt g i a 3 g8 hia
  have hl := M.join_lt _ _ _ _ hx hz
  have p1 := (M.pow_small (3 + a + (2 + b)) (by omega)).1
  have p2 := (M.pow_small (2 + b) (by omega)).1
  have p3 := (M.pow_small (3 + a) (by omega)).1
  have sh : ∀ i k : Nat, k * 2 ^ i < 65536 → IntKind.u64.wrap ((k : Int) * 2 ^ i) = ((k * 2 ^ i : Nat) : Int) := by
    intro i k hk
    rw [IntKind.wrap_u64, show ((k : Int) * 2 ^ i) = ((k * 2 ^ i : Nat) : Int) by simp]
    omega
  have hsh : ((((g * 2 ^ a + i) * 2 ^ (2 + b) + (h * 2 ^ b + k) : Nat) : Int) / 2 ^ (2 + b)) = ((g * 2 ^ a + i : Nat) : Int) := by
    rw [M.cast_shr, Nat.add_comm, Nat.add_mul_div_right _ _ (Nat.two_pow_pos _), Nat.div_eq_of_lt hz, Nat.zero_add]
  have hF := M.two_fd a b g h i k r1 r3 b1 b3 g8 h4 hia hkb
  rw [← Nat.add_assoc] at hF hsh
  refine core a0 a1 a2 a3 A B U V P Q a b g h m n i k (2 + b) (g * 2 ^ a) (g * 2 ^ a + i) ((g * 2 ^ a + i) * 2 ^ (2 + b)) (h * 2 ^ b) ((g * 2 ^ a + i) * 2 ^ (2 + b) + h * 2 ^ b) ((g * 2 ^ a + i) * 2 ^ (2 + b) + h * 2 ^ b + k) (3 + a + 2 + b) (3 + a) (3 + a + 2) w hU hV hP hQ ha hb hg hh hm hn hi hk hm1 hn1 r1 r3 b1 b3 g8 h4 i8 k8 (by omega) (sh _ _ (by omega)) (by omega) (sh _ _ (by omega)) (sh _ _ (by omega)) (by omega) (by omega) (by omega) (M.one_add 1 a (by omega) (by omega) r1 (by omega)) (M.two_add a b i b1 (by omega)) (M.two_put a b i h hia h4) (by omega) (by omega) (by omega) (by omega) ?_ ?_ (by omega) hsh hF (M.two_rs a b g h i r1 r3 g8 hia)
  · rw [IntKind.wrap_i64]; omega
  · rw [IntKind.wrap_i64]; omega

set_option maxRecDepth 100000 in
theorem lifted (os : Os) (started : os.Started) (H : Type) (enc : TypeId × Value → H) :
    ReturnsInHanded {} Try.checked os 4 .any (Rows.guardLevelsSpec.pre6 enc Try.prog Try.f4 Rows.guardLevelsRow.domain false) (Rows.guardLevelsSpec.post enc Try.prog Try.f4 false true false false) := by
  refine returnsInHanded_of_change (C := Try.checked) own started (by kernel_rfl) Try.func4
    (ChangeSpec.witness6 (enc := enc) (C := Try.checked) false ⟨#[], #[.int .i64 0, .int .i64 0, .int .u64 0, .int .u64 0, .agg #[.int .i64 0, .int .i64 0]], []⟩ 8 (by kernel_rfl) (by kernel_rfl) (by kernel_rfl) (by kernel_rfl)) ?_
  intro W base args ds gs before hval0 hW hcnd _
  have hval : ∀ (j : Nat) t v, Try.f4.params[j]? = some t → args[j]? = some v → Value.okWide Try.prog W .any base t v := hval0
  have hW' := hW
  obtain ⟨p, q, hA0, hV, rfl, hfz, hnd⟩ := hW
  have hA : DataW.TrodAll enc Try.prog W 0 (fun _ => true) true Try.f4.params.toList args.toList ds p := hA0
  rw [Try.params4] at hA hval
  obtain ⟨v0, vs0, d0, ds0, p0, q0, hargs, rfl, rfl, h0, r0⟩ := trodAll_cons hA
  obtain ⟨v1, vs1, d1, ds1, p1, q1, rfl, rfl, rfl, h1, r1⟩ := trodAll_cons r0
  obtain ⟨v2, vs2, d2, ds2, p2, q2, rfl, rfl, rfl, h2, r2⟩ := trodAll_cons r1
  obtain ⟨v3, vs3, d3, ds3, p3, q3, rfl, rfl, rfl, h3, r3⟩ := trodAll_cons r2
  obtain ⟨v4, vs4, d4, ds4, p4, q4, rfl, rfl, rfl, h4, r4⟩ := trodAll_cons r3
  obtain ⟨rfl, rfl, rfl⟩ := trodAll_nil r4
  obtain rfl : args = #[v0, v1, v2, v3, v4] := by cases args; simp_all
  obtain ⟨rfl, rfl⟩ := trodVars_none hV
  obtain ⟨a0, rfl, rfl, rfl, w0⟩ := open_int Try.underlying3 (hval 0 3 v0 rfl rfl) h0
  obtain ⟨a1, rfl, rfl, rfl, w1⟩ := open_int Try.underlying3 (hval 1 3 v1 rfl rfl) h1
  obtain ⟨a2, rfl, rfl, rfl, w2⟩ := open_int Try.underlying24 (hval 2 24 v2 rfl rfl) h2
  obtain ⟨a3, rfl, rfl, rfl, w3⟩ := open_int Try.underlying24 (hval 3 24 v3 rfl rfl) h3
  obtain ⟨A4, B4, rfl⟩ := slotArg (hval 4 32 v4 rfl rfl) h4
  have k4 := h4
  have lt4 : ∀ x ∈ p4, x.block < W.heap.size := by obtain ⟨m, hm⟩ := k4; exact DataW.trod_lt m _ _ _ hm
  clear hA0 hval0
  refine (walk a0 a1 a2 w2 a3 w3 A4 B4 W).mono fun e W' ⟨he, bel⟩ => ?_
  subst he
  exact ⟨_, rfl, _, _, _, [], _, [], hW', trodAll_mk1 (shut_bool Try.underlying4 _), (trodAll_cons_mk (shut_int Try.underlying3 w0) (trodAll_cons_mk (shut_int Try.underlying3 w1) (trodAll_cons_mk (shut_int Try.underlying24 w2) (trodAll_cons_mk (shut_int Try.underlying24 w3) (trodAll_cons_mk (Below.trod laidOut (by kernel_rfl) (of_decide_eq_true (by kernel_rfl)) k4 bel lt4) trodAll_mk0))))), rfl, bel.frame _, fun h => by cases h⟩

theorem over : Rows.guardLevelsRow.holds Try.pinned (OpenSpec.ofChange Rows.guardLevelsSpec) :=
  OpenClaim.holds_of_wide 4 Try.f4 rfl rfl rfl rfl rfl rfl rfl ⟨rfl, rfl, rfl, rfl, rfl⟩ rfl rfl rfl rfl rfl (by kernel_rfl) Try.func4 (by kernel_rfl)
    (of_decide_eq_true (by kernel_rfl)) (by unfold Func.isWrapper; first | (rw [if_pos (by decide +kernel)]; kernel_rfl) | (rw [if_neg (by decide +kernel)]; exact ⟨rfl, rfl⟩))
    (fun os started H enc _ => lifted os started H enc)

theorem proved : Rows.GuardLevelsSaid := over
end Go.Proofs.Ytakappaaiknpfaa.guardLevels
namespace Go.Proofs.Ytakappaaiknpfaa
theorem guardLevels_holds : Rows.GuardLevelsSaid := guardLevels.proved
#print axioms guardLevels_holds
end Go.Proofs.Ytakappaaiknpfaa
