/- UntypedApart: whatever is made of a span, one behind the other: all objects are right, lie in it, and are apart; what is used does not become less; what is refused uses nothing; no condition. -/
import Derived.Test.YtadllapdhdjpbaaWorks
import Derived.Test.YtadllapdhdjpbaaApart
import Derived.Deep.Cut
import Derived.Test.YtadllapdhdjpbaaAsks
import Derived.Test.YtadllapdhdjpbaaArgs
import Derived.ProofKit
import Derived.OpenShut
import Derived.ShutString
import Derived.ChangeOld
import Derived.Below
import Derived.Deep.Slices
namespace Go.Proofs.Ytadllapdhdjpbaa.untypedApart
open Go.ChangeShapes Go.WideShapes Go.ChangeAt Go.RowKit
set_option linter.unusedVariables false

theorem own : ownKnob Try.prog.godebug = none := by kernel_rfl
theorem laidOut : laidOutB Try.prog = true := by kernel_rfl

set_option maxRecDepth 10000 in
set_option maxHeartbeats 2000000 in
theorem core_wrong (A B c : Int) (v : Value) (w : World) (hc : (c == 0) = false)
    (HC : ∀ w : World, Calls Try.prog 16 #[sp A B, .int .i64 65536] w fun e w' => e = .returned (.int .i64 c) ∧ w.grownBy w' none)
    (HR : ∀ w : World, Calls Try.prog 17 #[sp A B] w fun e w' => e = .returned (.bool false) ∧ w.grownBy w' none) :
    Calls Try.prog 4 #[sp A B, v] w fun e w' => e = .returned (.bool true) ∧ w.grownBy w' none := by
  have hc2 : (c != 0) = true := by simpa using hc
  clear hc
  go_enter Try.func4, Try.ntmps4
  go_wp2_with fail
  obtain ⟨W, hW, X, g0⟩ := boxNew w A B
  rw [hW]
  clear hW
  refine (works_any _).mono ?_
  rintro _ w1 ⟨rfl, g1⟩
  have X1 := X.kept g1
  have x0 := X1.at0
  have x1 := X1.at1
  go_wp2_with fail
  refine (HC _).mono ?_
  rintro _ w2 ⟨rfl, g2⟩
  have X2 := X1.kept g2
  clear x0 x1
  have x0 := X2.at0
  have x1 := X2.at1
  go_wp2_with fail
  refine (HR _).mono ?_
  rintro _ w3 ⟨rfl, g3⟩
  go_wp2
  go_ret
  exact ⟨rfl, gbTrans g0 (gbTrans g1 (gbTrans g2 g3))⟩

set_option maxRecDepth 10000 in
set_option maxHeartbeats 4000000 in
theorem core (a d p len cap : Nat) (x : Addr) (w : World) (hd : d ≤ 16) (hsh : wrap64 (2 ^ d) = (p : Int)) (hp1 : p ≤ 65536) (ha : a ≤ 65536) (hpd : Hid (2 ^ d = p))
    (HX : Hid (∀ i, i < len → ∃ k n c, El3 w (x.add (i * 3)) k n c))
    (HC : ∀ w : World, Calls Try.prog 16 #[sp a d, .int .i64 65536] w fun e w' => e = .returned (.int .i64 0) ∧ w.grownBy w' none) :
    Calls Try.prog 4 #[sp a d, .slice (some x) len cap] w fun e w' => e = .returned (.bool true) ∧ w.grownBy w' none := by
  go_enter Try.func4, Try.ntmps4
  go_wp2_with fail
  obtain ⟨W, hW, X, g0⟩ := boxNew w a d
  rw [hW]
  clear hW
  refine (works_any _).mono ?_
  rintro _ w1 ⟨rfl, g1⟩
  have X1 := X.kept g1
  have x0 := X1.at0
  have x1 := X1.at1
  go_wp2_with fail
  refine (HC _).mono ?_
  rintro _ w2 ⟨rfl, g2⟩
  have X2 := X1.kept g2
  have G2 := gbTrans g0 (gbTrans g1 g2)
  clear x0 x1
  go_wp2
  go_loopg [5, 6, 7, 8, 9, 10, 11, 12, 13] 12 (fun g all used i _ _ _ _ _ _ wr => ∃ (j t : Nat) (L : List (Int × Int)), j + g = 12 ∧ i = .int .i64 j ∧ used = .int .i64 t ∧ Hid (M.Held a p L t) ∧ Hid (L.length ≤ 16 * j) ∧ Hid (Lst wr w2.heap.size all L) ∧ w2.grownBy wr none)
  case atStart => exact ⟨0, 0, [], by omega, rfl, rfl, hideIt (M.Held.nil _ _), hideIt (by simp), hideIt (Lst.nil _ _), gbRefl _ _⟩
  case round =>
    obtain ⟨j, t, L, hj, rfl, rfl, HH, HN, HL, gw⟩ := hrel
    by_cases hlt : j < len ∧ j < 12
    · obtain ⟨hlt, hlt2⟩ := hlt
      have hlt' : (j : Int) < (len : Int) := by omega
      have hlt2' : (j : Int) < 12 := by omega
      obtain ⟨k, n, c, E0⟩ := HX.out j hlt
      have E := E0.kept (gbTrans G2 gw)
      have P := X2.kept gw
      obtain ⟨a0, a1⟩ := P.all
      have b0 : ∀ y : Gr wr, y.w.cell? (x.add (j * 3)) = some (.int .i64 k) := fun y => (E.kept y.g).at0
      have b1 : ∀ y : Gr wr, y.w.cell? ⟨(x.add (j * 3)).block, (x.add (j * 3)).off + 1, none⟩ = some (.int .i64 n) := fun y => (E.kept y.g).at1
      have b2 : ∀ y : Gr wr, y.w.cell? ⟨(x.add (j * 3)).block, (x.add (j * 3)).off + 2, none⟩ = some (.int .i64 c) := fun y => (E.kept y.g).at2
      rcases M.pln_ways a d t k n c with ⟨e, he, q⟩ | ⟨a', d', p', s, b, m, y, f, F, hy, q⟩
      · have HP := fun w => plan_no a d t k n c e he q w
        clear q
        go_wp2
        refine wp_region_grown (by kernel_rfl) (by kernel_rfl) fun _ => ?_
        repeat (go_big_quiet_step ((go_at_call 10; with_reducible exact callsGr (HP _))))
        refine wpQuiet_nil ?_
        rintro w3 ⟨⟨_, g3⟩, rfl⟩
        go_wp2
        go_roundg (gk - 1)
        case rel => exact ⟨j + 1, t, L, by omega, by go_num, rfl, HH, hideIt (by have := HN.out; omega), hideIt (HL.out.kept g3), gbTrans gw g3⟩
        case measure => omega
      · obtain ⟨rfl, y1, y2, hb, z, hz, z1, z2, z3, hst, ⟨o, ho, hlf⟩, hin⟩ := M.round6 F hpd.out hy HH.out
        have HP := fun w => plan_is a d t k n y _ 0 _ q w
        rw [hz] at HP
        have HB : ∀ w : World, Calls Try.prog 8 #[.int .i64 k, .int .i64 n] w fun x w' => x = .returned (.tuple #[.int .i64 b, .int .i64 0]) ∧ w.grownBy w' none := fun w => (bits_is k n b 0 hb w).mono fun _ _ ⟨h1, h2⟩ => ⟨h1, by rw [h2]; exact gbRefl _ _⟩
        have HF := fun w => left_is a d z o hlf w
        have HI := hideIt hin
        have HS := hideIt hst
        clear q F hy hz hst hlf hin hb
        have p0 := P.at0
        have p1 := P.at1
        have e0 := E.at0
        have e1 := E.at1
        have e2 := E.at2
        go_wp2
        go_region_held3 (fun w' => w'.cell? ⟨w.heap.size, 0, none⟩ = some (.int .i64 a) ∧ w'.cell? ⟨w.heap.size, 1, none⟩ = some (.int .i64 d) ∧ w'.cell? (x.add (j * 3)) = some (.int .i64 k) ∧ w'.cell? ⟨(x.add (j * 3)).block, (x.add (j * 3)).off + 1, none⟩ = some (.int .i64 n) ∧ w'.cell? ⟨(x.add (j * 3)).block, (x.add (j * 3)).off + 2, none⟩ = some (.int .i64 y))
          (first | exact ⟨p0, p1, e0, e1, e2⟩ | go_keep | exact ⟨(P.kept G1).at0, (P.kept G1).at1, (E.kept G1).at0, (E.kept G1).at1, (E.kept G1).at2⟩ | fail)
          ((go_at_call 10; refine (HP _).mono ?_; rintro _ w3 ⟨v3, rfl, hl3, g3⟩; have G1 : wr.grownBy w3 none := gbTrans (gbDrewN wr 1 none) g3))
        rename_i hold
        clear hold p0 p1 e0 e1 e2 a0 a1 b0 b1 b2
        obtain ⟨g, cap3, rfl, hcap3, hg1, hg2, hrow⟩ := hl3.row (M.rowL_len f m b y) y1
        have HL3 := hideIt hl3
        have HR3 := hideIt hrow
        clear hl3 hrow
        have P3 := P.kept G1
        have E3 := E.kept G1
        obtain ⟨a0, a1⟩ := P3.all
        have b0 : ∀ y : Gr w3, y.w.cell? (x.add (j * 3)) = some (.int .i64 k) := fun y => (E3.kept y.g).at0
        have b1 : ∀ y : Gr w3, y.w.cell? ⟨(x.add (j * 3)).block, (x.add (j * 3)).off + 1, none⟩ = some (.int .i64 n) := fun y => (E3.kept y.g).at1
        go_wp2
        refine wp_region_grown (by kernel_rfl) (by kernel_rfl) fun _ => ?_
        repeat (go_big_quiet_step ((go_at_call 8; with_reducible exact callsGr (HB _))))
        refine wpQuiet_nil ?_
        rintro w4 ⟨⟨_, g4⟩, rfl⟩
        have P4 := P3.kept g4
        have E4 := E3.kept g4
        have p0 := P4.at0
        have p1 := P4.at1
        have e0 := E4.at0
        have e1 := E4.at1
        have e2 := E4.at2
        clear a0 a1 b0 b1
        go_wp2
        obtain ⟨wo, rfl⟩ : ∃ wo, wo = wr := ⟨_, rfl⟩
        obtain ⟨Gk, rfl⟩ : ∃ Gk, Gk = gk := ⟨_, rfl⟩
        clear p0 p1 e0 e1 e2
        go_loopg [13] y (fun g i wx => ∃ i2 : Nat, i2 + g = y ∧ i = .int .i64 i2 ∧ w4.grownBy wx none)
        case atStart => exact ⟨0, by omega, rfl, gbRefl _ _⟩
        case round =>
          obtain ⟨i, hi, rfl, gx⟩ := hrel
          by_cases hli : i < y
          · have hli' : (i : Int) < (y : Int) := by omega
            obtain ⟨q, r, hq, hq2, hqr, htr, hinn⟩ := HI.out i hli
            obtain ⟨c0, c1, _, _⟩ := (HL3.out.kept (gbTrans g4 gx)).el (M.rowL_len f m b y) i _ (M.rowL_get f m b y i hli)
            simp only [hq] at c0 c1
            have L5 := hideIt (HL3.out.kept (gbTrans g4 gx))
            have HN2 := fun w => in_is q b a d true hinn w
            have d0 : ∀ y : Gr wr, y.w.cell? ⟨g, i * 2, none⟩ = some (.int .i64 q) := fun y => y.g.cell c0 (by simp)
            have d1 : ∀ y : Gr wr, y.w.cell? ⟨g, i * 2 + 1, none⟩ = some (.int .i64 b) := fun y => y.g.cell c1 (by simp)
            obtain ⟨a0, a1⟩ := (P4.kept gx).all
            have dz1 : decide ((r : Int) < (t : Int)) = false := decide_eq_false (by omega)
            have dz2 : decide (r < t) = false := decide_eq_false (by omega)
            clear c0 c1 hq hinn htr
            go_wp2
            refine wp_region_grown (by kernel_rfl) (by kernel_rfl) fun _ => ?_
            repeat (go_big_quiet_step ((go_at_call 18; with_reducible exact callsGr (HN2 _))))
            refine wpQuiet_nil ?_
            rintro w5 ⟨⟨_, g5⟩, rfl⟩
            go_wp2
            go_roundg (gk - 1)
            case rel => exact ⟨i + 1, by omega, by go_num, gbTrans gx g5⟩
            case measure => omega
          · have hli' : ¬ (i : Int) < (y : Int) := by omega
            have GX := gbTrans G1 (gbTrans g4 gx)
            have GW := gbTrans gw GX
            have hown := HL.out.lt
            have HL5 := hideIt (HL.out.kept GX)
            have HR5 := hideIt (HR3.out.kept (gbTrans g4 gx))
            have HLn : Hid (L.length + y ≤ 1000000) := hideIt (by have := HN.out; omega)
            have HLl : Hid ((M.rowL f m b y).length = y) := hideIt (M.rowL_len f m b y)
            have hB : w2.heap.size ≤ wr.heap.size := GW.size
            go_upto_region 24 with (at_builtin; refine wpList_append_span rfl (.tmp 135) (.tmp 136) rfl w2.heap.size _ L rfl HL5.out ⟨g, 0, none⟩ y cap3 (M.rowL f m b y) rfl HLl.out HR5.out HLn.out hB ?_; intro v6 w6 ho6 hg6; have ho6 : Hid (Lst w6 w2.heap.size v6 (L ++ M.rowL f m b y)) := ho6)
            have hg6 : wr.grownBy w6 u5.ownBlock := hg6
            have G6 : w2.grownBy w6 none := gbNews (gbTrans (gbAny GW _) hg6) (fun k e => (hown k e).1)
            obtain ⟨a0, a1⟩ := (X2.kept G6).all
            refine wp_region_grown (by kernel_rfl) (by kernel_rfl) fun _ => ?_
            repeat (go_big_quiet_step ((go_at_call 13; with_reducible exact callsGr (HF _))))
            refine wpQuiet_nil ?_
            rintro w7 ⟨⟨_, g7⟩, rfl⟩
            go_wp2
            go_roundg (Gk - 1)
            case rel => exact ⟨j + 1, z, L ++ M.rowL f m b y, by omega, by go_num, rfl, HS, hideIt (by rw [List.length_append, M.rowL_len]; have := HN.out; omega), hideIt (ho6.out.kept g7), gbTrans G6 g7⟩
            case measure => omega
    · have HA : Hid (M.all L = true) := hideIt HH.out.all
      by_cases h1 : j < len
      · have h1' : (j : Int) < (len : Int) := by omega
        have h2' : ¬ (j : Int) < 12 := by omega
        go_wp2_with fail
        refine (all_lst _ _ _ L true HL.out HA.out).mono ?_
        rintro _ w3 ⟨rfl, g3⟩
        go_wp2
        go_ret
        exact ⟨rfl, gbTrans G2 (gbTrans gw g3)⟩
      · have h1' : ¬ (j : Int) < (len : Int) := by omega
        go_wp2_with fail
        refine (all_lst _ _ _ L true HL.out HA.out).mono ?_
        rintro _ w3 ⟨rfl, g3⟩
        go_wp2
        go_ret
        exact ⟨rfl, gbTrans G2 (gbTrans gw g3)⟩

set_option maxRecDepth 10000 in
set_option maxHeartbeats 2000000 in
theorem core_none (a d cap : Nat) (w : World)
    (HC : ∀ w : World, Calls Try.prog 16 #[sp a d, .int .i64 65536] w fun e w' => e = .returned (.int .i64 0) ∧ w.grownBy w' none) :
    Calls Try.prog 4 #[sp a d, .slice none 0 cap] w fun e w' => e = .returned (.bool true) ∧ w.grownBy w' none := by
  go_enter Try.func4, Try.ntmps4
  go_wp2_with fail
  obtain ⟨W, hW, X, g0⟩ := boxNew w a d
  rw [hW]
  clear hW
  refine (works_any _).mono ?_
  rintro _ w1 ⟨rfl, g1⟩
  have X1 := X.kept g1
  have x0 := X1.at0
  have x1 := X1.at1
  go_wp2_with fail
  refine (HC _).mono ?_
  rintro _ w2 ⟨rfl, g2⟩
  go_wp2
  refine wp_loop_rounds 1 ?_
  rw [rounds_succ]
  go_wp2_with fail
  refine (all_none _ _ _).mono ?_
  rintro _ w3 ⟨rfl, g3⟩
  go_wp2
  go_ret
  exact ⟨rfl, gbTrans g0 (gbTrans g1 (gbTrans g2 g3))⟩

theorem walk (A B : Int) (x : Option Addr) (len cap : Nat) (w : World) (hx : ∀ i, i < len → ∃ y k n c, x = some y ∧ El3 w (y.add (i * 3)) k n c) :
    Calls Try.prog 4 #[sp A B, .slice x len cap] w fun e w' => e = .returned (.bool true) ∧ Below w.heap.size w w' := by
  refine endWalk ?_
  cases h : M.rgt A B
  · obtain ⟨c, hc, HC⟩ := check_right A B false h
    exact core_wrong A B c _ w hc HC (rright_is A B false h)
  · obtain ⟨c, hc, HC⟩ := check_right A B true h
    obtain rfl : c = 0 := by simpa using hc
    obtain ⟨a, d, p, rfl, rfl, hd, hp, hpw, p1, p2, p3, _⟩ := M.rgt_nat h
    cases x with
    | some y => exact core a d p len cap y w hd (M.shl_val d p hd hp) p2 (by omega) (hideIt hp) (hideIt fun i hi => by obtain ⟨y', k, n, c, e, E⟩ := hx i hi; cases e; exact ⟨k, n, c, E⟩) HC
    | none =>
      have : len = 0 := Classical.byContradiction fun e => by obtain ⟨_, _, _, _, e, _⟩ := hx 0 (by omega); cases e
      subst this
      exact core_none a d cap w HC

set_option maxRecDepth 100000 in
theorem lifted (os : Os) (started : os.Started) (H : Type) (enc : TypeId × Value → H) :
    ReturnsInHanded {} Try.checked os 4 .any (Rows.untypedApartSpec.pre6 enc Try.prog Try.f4 Rows.untypedApartRow.domain false) (Rows.untypedApartSpec.post enc Try.prog Try.f4 false true false false) := by
  refine returnsInHanded_of_change (C := Try.checked) own started (by kernel_rfl) Try.func4
    (ChangeSpec.witness6 (enc := enc) (C := Try.checked) false ⟨#[], #[.agg #[.int .i64 0, .int .i64 0], .slice none 0 0], []⟩ 8 (by kernel_rfl) (by kernel_rfl) (by kernel_rfl) (by kernel_rfl)) ?_
  intro W base args ds gs before hval0 hW hcnd _
  have hval : ∀ (j : Nat) t v, Try.f4.params[j]? = some t → args[j]? = some v → Value.okWide Try.prog W .any base t v := hval0
  have hW' := hW
  obtain ⟨p, q, hA0, hV, rfl, hfz, hnd⟩ := hW
  have hA : DataW.TrodAll enc Try.prog W 0 (fun _ => true) true Try.f4.params.toList args.toList ds p := hA0
  rw [Try.params4] at hA hval
  obtain ⟨v0, vs0, d0, ds0, p0, q0, hargs, rfl, rfl, h0, r0⟩ := trodAll_cons hA
  obtain ⟨v1, vs1, d1, ds1, p1, q1, rfl, rfl, rfl, h1, r1⟩ := trodAll_cons r0
  obtain ⟨rfl, rfl, rfl⟩ := trodAll_nil r1
  obtain rfl : args = #[v0, v1] := by cases args; simp_all
  obtain ⟨rfl, rfl⟩ := trodVars_none hV
  obtain ⟨A0, B0, rfl⟩ := spanArg (hval 0 23 v0 rfl rfl) h0
  have k0 := h0
  have lt0 : ∀ x ∈ p0, x.block < W.heap.size := by obtain ⟨m, hm⟩ := k0; exact DataW.trod_lt m _ _ _ hm
  obtain ⟨x1, len1, cap1, rfl⟩ := okWide_slice Try.underlying35 (hval 1 35 v1 rfl rfl)
  have hx1 := asksArg h1
  have k1 := h1
  have lt1 : ∀ x ∈ p1, x.block < W.heap.size := by obtain ⟨m, hm⟩ := k1; exact DataW.trod_lt m _ _ _ hm
  clear hA0 hval0
  refine (walk A0 B0 x1 len1 cap1 W hx1).mono fun e W' ⟨he, bel⟩ => ?_
  subst he
  exact ⟨_, rfl, _, _, _, [], _, [], hW', trodAll_mk1 (shut_bool Try.underlying4 _), (trodAll_cons_mk (Below.trod laidOut (by kernel_rfl) (of_decide_eq_true (by kernel_rfl)) k0 bel lt0) (trodAll_cons_mk (Below.trod laidOut (by kernel_rfl) (of_decide_eq_true (by kernel_rfl)) k1 bel lt1) trodAll_mk0)), rfl, bel.frame _, fun h => by cases h⟩

theorem over : Rows.untypedApartRow.holds Try.pinned (OpenSpec.ofChange Rows.untypedApartSpec) :=
  OpenClaim.holds_of_wide 4 Try.f4 rfl rfl rfl rfl rfl rfl rfl ⟨rfl, rfl, rfl, rfl, rfl⟩ rfl rfl rfl rfl rfl (by kernel_rfl) Try.func4 (by kernel_rfl)
    (of_decide_eq_true (by kernel_rfl)) (by unfold Func.isWrapper; first | (rw [if_pos (by decide +kernel)]; kernel_rfl) | (rw [if_neg (by decide +kernel)]; exact ⟨rfl, rfl⟩))
    (fun os started H enc _ => lifted os started H enc)

theorem proved : Rows.UntypedApartSaid := over
end Go.Proofs.Ytadllapdhdjpbaa.untypedApart
namespace Go.Proofs.Ytadllapdhdjpbaa
theorem untypedApart_holds : Rows.UntypedApartSaid := untypedApart.proved
#print axioms untypedApart_holds
end Go.Proofs.Ytadllapdhdjpbaa
