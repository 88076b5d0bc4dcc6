/- WalkDoes (13.1, 13.2): over any memory, from any directory, any addresses: where they lie, what is loaded and stored: the program answers as the document does. For every input; no condition. -/
import Derived.Test.YtgneacfiabpfmaaFacts
import Derived.Test.YtgneacfiabpfmaaRto
import Derived.Deep.Cut
import Derived.Deep.RegionHeld3
import Derived.Test.YtgneacfiabpfmaaArgs
import Derived.ProofKit
import Derived.OpenShut
import Derived.ShutString
import Derived.ChangeOld
import Derived.Below
import Derived.Deep.Slices
namespace Go.Proofs.Ytgneacfiabpfmaa.walkDoes
open Go.ChangeShapes Go.WideShapes Go.ChangeAt Go.RowKit
set_option linter.unusedVariables false

theorem own : ownKnob Try.prog.godebug = none := by kernel_rfl
theorem laidOut : laidOutB Try.prog = true := by kernel_rfl

theorem eqRow {w : World} {g n : Nat} {F : Nat → Nat} (h : w.rowIs g 41 n (fun i => .int .u64 (F i : Int))) (hn : n ≤ 65536) (cap : Nat) : Y2.Sl w (.slice (some ⟨g, 0, none⟩) n cap) n (fun i => (F i : Int)) := Y2.Sl.ofRow h hn

set_option maxHeartbeats 8000000 in
set_option maxRecDepth 10000 in
theorem core (a0 : Int) (x1 : Option Addr) (len1 cap1 : Nat) (a2 : Int) (y3 : Option Addr) (len3 cap3 : Nat) (y4 : Option Addr) (len4 cap4 : Nat) (n : Nat) (w : World)
    (HM : ∀ w', w.grownBy w' none → Calls Try.prog 7 #[.int .i64 a0, .slice x1 len1 cap1] w' fun e w'' => ∃ p b q c F, e = .returned (.tuple #[.pointer (some ⟨p, 0, none⟩), .pointer (some ⟨q, 0, none⟩), .bool true]) ∧ Two w' w'' p b q c n F)
    (H3 : Hid (∀ i, i < len3 → ∃ x z, y3 = some x ∧ w.cell? (x.add i) = some (.int .i64 z))) (H4 : Hid (Ws w y4 len4)) (n1 : n ≤ 320) :
    Calls Try.prog 3 #[.int .i64 a0, .slice x1 len1 cap1, .int .i64 a2, .slice y3 len3 cap3, .slice y4 len4 cap4] w fun e w' => e = .returned (.bool true) ∧ w.grownBy w' none := by
  have qe := eqGuard_r
  have qn := run_neq_r
  go_enter Try.func3, Try.ntmps3
  go_wp2_with fail
  refine (HM _ (gbRefl _ _)).mono ?_
  rintro e w0 ⟨p, b, q, c, F0, rfl, T0⟩
  replace T0 := hideIt T0
  clear HM
  go_wp2_with fail
  go_loopw [14] (fun i wr => ∃ (j : Nat) (F : Nat → Nat), j ≤ 30 ∧ i = .int .i64 j ∧ Two w wr p b q c n F) (fun i _ => 30 - (intOf i).toNat)
  case atStart => exact ⟨0, _, by omega, rfl, T0.out⟩
  case round =>
    obtain ⟨j, F, hj, rfl, T⟩ := hrel
    replace T := hideIt T
    clear T0
    rcases (show (j < len3 ∧ j < 30) ∨ (j < len3 ∧ ¬ j < 30) ∨ ¬ j < len3 by omega) with ⟨l1, l2⟩ | ⟨l1, l2⟩ | l1
    · obtain ⟨x3, z, rfl, E1⟩ := H3.out j l1
      replace E1 := hideIt E1
      obtain ⟨⟨⟨u, v, B⟩, f⟩, hp⟩ : ∃ y, M.pe n F a2 z = y := ⟨_, rfl⟩
      obtain ⟨wb, wj⟩ : ∃ wb, ((j : Int) % 2 == 0) = wb := ⟨_, rfl⟩
      obtain ⟨⟨y, g⟩, ht⟩ : ∃ y, M.to n F a2 z wb = y := ⟨_, rfl⟩
      have HP := fun w' (k : wr.grownBy w' none) => page_is w' p b n F a2 z _ _ (T.out.m.kept k) hp
      have HQ := fun w' (k : wr.grownBy w' none) => rpage_is w' q c n F a2 z _ _ (T.out.r.kept k) hp
      have HT := fun w' (k : wr.grownBy w' none) => to_is w' p b n F a2 z wb _ _ (T.out.m.kept k) ht
      have HU := fun w' (k : wr.grownBy w' none) => rto_is w' q c n F a2 z wb _ _ (T.out.r.kept k) ht
      have he : M.eq ⟨u, v, B⟩ ⟨u, v, B⟩ = true := M.eq_refl _
      clear hp ht
      by_cases l4 : j < len4
      · obtain ⟨x4, o, rfl, E2, ol⟩ := H4.out j l4
        replace E2 := hideIt E2
        obtain ⟨⟨y2, h2⟩, hs⟩ : ∃ y, M.to n F a2 z true = y := ⟨_, rfl⟩
        replace hs := hideIt hs
        have e1 := T.out.g.cell E1.out (by simp)
        go_wp2_with fail
        refine (HP _ (gbRefl _ _)).mono ?_
        rintro e w1 ⟨rfl, g1⟩
        clear HP e1
        go_upto_region 8 with fail
        obtain ⟨W1, hW1, X1, k1⟩ := boxNew w1 ⟨u, v, B⟩ 29
        simp only at hW1
        rw [hW1]
        clear hW1
        have K1 := gbTrans g1 k1
        clear g1 k1
        have e1 := (gbTrans T.out.g K1).cell E1.out (by simp)
        go_wp2_with fail
        refine (HQ _ K1).mono ?_
        rintro e w2 ⟨rfl, g2⟩
        clear HQ e1
        go_upto_region 9 with fail
        obtain ⟨W2, hW2, X2, k2⟩ := boxNew w2 ⟨u, v, B⟩ 33
        simp only at hW2
        rw [hW2]
        clear hW2
        have K2 := gbTrans K1 (gbTrans g2 k2)
        replace X1 := X1.kept (gbTrans g2 k2)
        clear g2 k2 K1
        have e1 := (gbTrans T.out.g K2).cell E1.out (by simp)
        go_wp2_with fail
        refine (HT _ K2).mono ?_
        rintro e w3 ⟨rfl, g3⟩
        clear HT e1
        have K3 := gbTrans K2 g3
        replace X1 := X1.kept g3
        replace X2 := X2.kept g3
        clear g3 K2
        have e1 := (gbTrans T.out.g K3).cell E1.out (by simp)
        go_wp2_with fail
        refine (HU _ K3).mono ?_
        rintro e w4 ⟨rfl, g4⟩
        clear HU e1 wj
        have K4 := gbTrans K3 g4
        replace X1 := X1.kept g4
        replace X2 := X2.kept g4
        clear g4 K3
        go_upto_region 11 with fail
        obtain ⟨y0, y1, y2⟩ := X1.all
        obtain ⟨z0, z1, z2⟩ := X2.all
        simp only at y0 y1 y2 z0 z1 z2
        clear X1 X2
        refine wp_region_grown (by kernel_rfl) (by kernel_rfl) fun _ => ?_
        repeat (go_big_quiet_step ((go_at_call 12; with_reducible exact callsGr (from_any _ _ _ _))))
        refine wpQuiet_nil ?_
        rintro w5 ⟨⟨_, g5⟩, rfl⟩
        have K5 := gbTrans K4 g5
        clear g5 K4 y0 y1 y2 z0 z1 z2
        have T5 := hideIt (T.out.kept K5)
        have e1 := T5.out.g.cell E1.out (by simp)
        clear K5
        have e2 := T5.out.g.cell E2.out (by simp)
        have d1 := T5.out.kept (gbDrew (gbRefl w5 none))
        have e3 := d1.g.cell E1.out (by simp)
        have e4 := d1.g.cell E2.out (by simp)
        replace d1 := hideIt d1
        go_upto_region 13 with fail
        go_region_held3 (fun w' => w'.cell? (x3.add j) = some (.int .i64 z) ∧ w'.cell? (x4.add j) = some (.int .u64 (o : Int)))
          (first | with_reducible exact ⟨e1, e2⟩ | with_reducible exact ⟨e3, e4⟩ | with_reducible exact ⟨e7, e8⟩ | with_reducible exact ⟨e5, e6⟩ | fail)
          ((first
            | (go_at_call 14; refine (rstore_is _ q c n F a2 z o y2 h2 (d1.out.mid g6).1 ol hs.out).mono ?_; rintro e w7 ⟨rfl, r7, g7⟩; have T7 := hideIt (d1.out.turn m6 g6 r7 g7); have e7 := T7.out.g.cell E1.out (by simp); have e8 := T7.out.g.cell E2.out (by simp))
            | (go_at_call 13; refine (store_is _ p b n F a2 z o y2 h2 d1.out.m ol hs.out).mono ?_; rintro e w6 ⟨rfl, m6, g6⟩; have G6 := (d1.out.mid g6).2; have e5 := G6.cell E1.out (by simp); have e6 := G6.cell E2.out (by simp))))
        rename_i hold
        clear hold e1 e2 e3 e4 e5 e6 e7 e8 G6 m6 g6 r7 g7 d1 T5 E2 H4
        obtain ⟨⟨y7, h7⟩, hl⟩ : ∃ y, M.ld n (M.sw n F a2 z o) a2 z = y := ⟨_, rfl⟩
        have e1 := T7.out.g.cell E1.out (by simp)
        have HL := fun w' (k : World.grownBy w7 w' none) => load_is w' p b n _ a2 z y7 h7 (T7.out.m.kept k) hl
        have HR := fun w' (k : World.grownBy w7 w' none) => rload_is w' q c n _ a2 z y7 h7 (T7.out.r.kept k) hl
        clear hl
        go_wp2_with fail
        refine (HL _ (gbRefl _ _)).mono ?_
        rintro e w8 ⟨rfl, g8⟩
        clear e1 HL
        have e1 := (gbTrans T7.out.g g8).cell E1.out (by simp)
        go_wp2_with fail
        refine (HR _ g8).mono ?_
        rintro e w9 ⟨rfl, g9⟩
        have T9 := hideIt (T7.out.kept (gbTrans g8 g9))
        clear HR e1 g8 g9
        go_wp2
        go_roundw
        case rel => exact ⟨j + 1, _, by omega, by go_num, T9.out⟩
        case measure => simp [intOf]; omega
      · have d4 : decide ((j : Int) < (len4 : Int)) = false := by simp; omega
        have e1 := T.out.g.cell E1.out (by simp)
        go_wp2_with fail
        refine (HP _ (gbRefl _ _)).mono ?_
        rintro e w1 ⟨rfl, g1⟩
        clear HP e1
        go_upto_region 8 with fail
        obtain ⟨W1, hW1, X1, k1⟩ := boxNew w1 ⟨u, v, B⟩ 29
        simp only at hW1
        rw [hW1]
        clear hW1
        have K1 := gbTrans g1 k1
        clear g1 k1
        have e1 := (gbTrans T.out.g K1).cell E1.out (by simp)
        go_wp2_with fail
        refine (HQ _ K1).mono ?_
        rintro e w2 ⟨rfl, g2⟩
        clear HQ e1
        go_upto_region 9 with fail
        obtain ⟨W2, hW2, X2, k2⟩ := boxNew w2 ⟨u, v, B⟩ 33
        simp only at hW2
        rw [hW2]
        clear hW2
        have K2 := gbTrans K1 (gbTrans g2 k2)
        replace X1 := X1.kept (gbTrans g2 k2)
        clear g2 k2 K1
        have e1 := (gbTrans T.out.g K2).cell E1.out (by simp)
        go_wp2_with fail
        refine (HT _ K2).mono ?_
        rintro e w3 ⟨rfl, g3⟩
        clear HT e1
        have K3 := gbTrans K2 g3
        replace X1 := X1.kept g3
        replace X2 := X2.kept g3
        clear g3 K2
        have e1 := (gbTrans T.out.g K3).cell E1.out (by simp)
        go_wp2_with fail
        refine (HU _ K3).mono ?_
        rintro e w4 ⟨rfl, g4⟩
        clear HU e1 wj
        have K4 := gbTrans K3 g4
        replace X1 := X1.kept g4
        replace X2 := X2.kept g4
        clear g4 K3
        go_upto_region 11 with fail
        obtain ⟨y0, y1, y2⟩ := X1.all
        obtain ⟨z0, z1, z2⟩ := X2.all
        simp only at y0 y1 y2 z0 z1 z2
        clear X1 X2
        refine wp_region_grown (by kernel_rfl) (by kernel_rfl) fun _ => ?_
        repeat (go_big_quiet_step ((go_at_call 12; with_reducible exact callsGr (from_any _ _ _ _))))
        refine wpQuiet_nil ?_
        rintro w5 ⟨⟨_, g5⟩, rfl⟩
        have K5 := gbTrans K4 g5
        clear g5 K4 y0 y1 y2 z0 z1 z2
        have T5 := hideIt (T.out.kept K5)
        have e1 := T5.out.g.cell E1.out (by simp)
        clear K5
        go_upto_region 13 with fail
        go_quiet (fail)
        have T7 := hideIt (T5.out.kept (gbDrewN _ nq none))
        clear e1
        obtain ⟨⟨y7, h7⟩, hl⟩ : ∃ y, M.ld n F a2 z = y := ⟨_, rfl⟩
        have e1 := T7.out.g.cell E1.out (by simp)
        have HL := fun w' (k : World.grownBy (w5.drewN nq) w' none) => load_is w' p b n _ a2 z y7 h7 (T7.out.m.kept k) hl
        have HR := fun w' (k : World.grownBy (w5.drewN nq) w' none) => rload_is w' q c n _ a2 z y7 h7 (T7.out.r.kept k) hl
        clear hl
        go_wp2_with fail
        refine (HL _ (gbRefl _ _)).mono ?_
        rintro e w8 ⟨rfl, g8⟩
        clear e1 HL
        have e1 := (gbTrans T7.out.g g8).cell E1.out (by simp)
        go_wp2_with fail
        refine (HR _ g8).mono ?_
        rintro e w9 ⟨rfl, g9⟩
        have T9 := hideIt (T7.out.kept (gbTrans g8 g9))
        clear HR e1 g8 g9
        go_wp2
        go_roundw
        case rel => exact ⟨j + 1, _, by omega, by go_num, T9.out⟩
        case measure => simp [intOf]; omega
    · have nl : n ≤ 65536 := by omega
      go_upto_region 19 with fail
      have c1 := T.out.r.is.cell
      have d1 := T.out.kept (gbDrew (gbRefl wr none))
      have c2 := d1.r.is.cell
      replace d1 := hideIt d1
      go_region_held3 (fun w' => w'.cell? ⟨q, 0, none⟩ = some (.slice (some ⟨c, 0, none⟩) n n))
        (first | with_reducible exact c1 | with_reducible exact c2 | with_reducible exact c4 | with_reducible exact c3 | fail)
        ((first
          | (go_at_call 17; refine (Y2.same_sl _ _ _ n (fun i => (F i : Int)) (fun i => (F i : Int)) (Y2.Sl.ofRow (c := n) h3 nl) (Y2.Sl.ofRow (c := n) D3.out.r.is.row nl) (fun _ _ => rfl)).mono ?_; rintro e w4 ⟨rfl, q4, rfl⟩; have D4 := hideIt (D3.out.kept (gbDrewN _ q4 none)); have c4 := D4.out.r.is.cell)
          | (go_at_call 18; refine (words_is _ p b n F d1.out.m).mono ?_; rintro e w3 ⟨r3, rfl, h3, g3, l3⟩; have D3 := hideIt (d1.out.kept g3); have c3 := D3.out.r.is.cell)))
      go_wp2
      go_ret
      exact ⟨rfl, D4.out.g⟩
    · have nl : n ≤ 65536 := by omega
      go_upto_region 19 with fail
      have c1 := T.out.r.is.cell
      have d1 := T.out.kept (gbDrew (gbRefl wr none))
      have c2 := d1.r.is.cell
      replace d1 := hideIt d1
      go_region_held3 (fun w' => w'.cell? ⟨q, 0, none⟩ = some (.slice (some ⟨c, 0, none⟩) n n))
        (first | with_reducible exact c1 | with_reducible exact c2 | with_reducible exact c4 | with_reducible exact c3 | fail)
        ((first
          | (go_at_call 17; refine (Y2.same_sl _ _ _ n (fun i => (F i : Int)) (fun i => (F i : Int)) (Y2.Sl.ofRow (c := n) h3 nl) (Y2.Sl.ofRow (c := n) D3.out.r.is.row nl) (fun _ _ => rfl)).mono ?_; rintro e w4 ⟨rfl, q4, rfl⟩; have D4 := hideIt (D3.out.kept (gbDrewN _ q4 none)); have c4 := D4.out.r.is.cell)
          | (go_at_call 18; refine (words_is _ p b n F d1.out.m).mono ?_; rintro e w3 ⟨r3, rfl, h3, g3, l3⟩; have D3 := hideIt (d1.out.kept g3); have c3 := D3.out.r.is.cell)))
      go_wp2
      go_ret
      exact ⟨rfl, D4.out.g⟩

theorem walk (a0 : Int) (x1 : Option Addr) (len1 cap1 : Nat) (a2 : Int) (x3 : Option Addr) (len3 cap3 : Nat) (x4 : Option Addr) (len4 cap4 : Nat) (w : World) (hx1 : Ws w x1 len1) (hx3 : ∀ i, i < len3 → ∃ x z, x3 = some x ∧ w.cell? (x.add i) = some (.int .i64 z)) (hx4 : Ws w x4 len4) :
    Calls Try.prog 3 #[.int .i64 a0, .slice x1 len1 cap1, .int .i64 a2, .slice x3 len3 cap3, .slice x4 len4 cap4] w fun e w' => e = .returned (.bool true) ∧ Below w.heap.size w w' := by
  refine endWalk ?_
  obtain ⟨U, n, u1, u2, n0, n1⟩ := sizeArg a0
  exact core a0 x1 len1 cap1 a2 x3 len3 cap3 x4 len4 cap4 n w (fun w' g => made_is a0 n x1 len1 cap1 w' U u1 u2 n0 n1 (hx1.kept g)) (hideIt hx3) (hideIt hx4) n1

set_option maxRecDepth 100000 in
theorem lifted (os : Os) (started : os.Started) (H : Type) (enc : TypeId × Value → H) :
    ReturnsInHanded {} Try.checked os 3 .any (Rows.walkDoesSpec.pre6 enc Try.prog Try.f3 Rows.walkDoesRow.domain false) (Rows.walkDoesSpec.post enc Try.prog Try.f3 false true false false) := by
  refine returnsInHanded_of_change (C := Try.checked) own started (by kernel_rfl) Try.func3
    (ChangeSpec.witness6 (enc := enc) (C := Try.checked) false ⟨#[], #[.int .i64 0, .slice none 0 0, .int .i64 0, .slice none 0 0, .slice none 0 0], []⟩ 8 (by kernel_rfl) (by kernel_rfl) (by kernel_rfl) (by kernel_rfl)) ?_
  intro W base args ds gs before hval0 hW hcnd _
  have hval : ∀ (j : Nat) t v, Try.f3.params[j]? = some t → args[j]? = some v → Value.okWide Try.prog W .any base t v := hval0
  have hW' := hW
  obtain ⟨p, q, hA0, hV, rfl, hfz, hnd⟩ := hW
  have hA : DataW.TrodAll enc Try.prog W 0 (fun _ => true) true Try.f3.params.toList args.toList ds p := hA0
  rw [Try.params3] at hA hval
  obtain ⟨v0, vs0, d0, ds0, p0, q0, hargs, rfl, rfl, h0, r0⟩ := trodAll_cons hA
  obtain ⟨v1, vs1, d1, ds1, p1, q1, rfl, rfl, rfl, h1, r1⟩ := trodAll_cons r0
  obtain ⟨v2, vs2, d2, ds2, p2, q2, rfl, rfl, rfl, h2, r2⟩ := trodAll_cons r1
  obtain ⟨v3, vs3, d3, ds3, p3, q3, rfl, rfl, rfl, h3, r3⟩ := trodAll_cons r2
  obtain ⟨v4, vs4, d4, ds4, p4, q4, rfl, rfl, rfl, h4, r4⟩ := trodAll_cons r3
  obtain ⟨rfl, rfl, rfl⟩ := trodAll_nil r4
  obtain rfl : args = #[v0, v1, v2, v3, v4] := by cases args; simp_all
  obtain ⟨rfl, rfl⟩ := trodVars_none hV
  obtain ⟨a0, rfl, rfl, rfl, w0⟩ := open_int Try.underlying3 (hval 0 3 v0 rfl rfl) h0
  obtain ⟨x1, len1, cap1, rfl⟩ := okWide_slice Try.underlying22 (hval 1 22 v1 rfl rfl)
  have hx1 := wordsArg h1
  have k1 := h1
  have lt1 : ∀ x ∈ p1, x.block < W.heap.size := by obtain ⟨m, hm⟩ := k1; exact DataW.trod_lt m _ _ _ hm
  obtain ⟨a2, rfl, rfl, rfl, w2⟩ := open_int Try.underlying3 (hval 2 3 v2 rfl rfl) h2
  obtain ⟨x3, len3, cap3, rfl⟩ := okWide_slice Try.underlying23 (hval 3 23 v3 rfl rfl)
  have hx3 := intsArg h3
  have k3 := h3
  have lt3 : ∀ x ∈ p3, x.block < W.heap.size := by obtain ⟨m, hm⟩ := k3; exact DataW.trod_lt m _ _ _ hm
  obtain ⟨x4, len4, cap4, rfl⟩ := okWide_slice Try.underlying22 (hval 4 22 v4 rfl rfl)
  have hx4 := wordsArg h4
  have k4 := h4
  have lt4 : ∀ x ∈ p4, x.block < W.heap.size := by obtain ⟨m, hm⟩ := k4; exact DataW.trod_lt m _ _ _ hm
  clear hA0 hval0
  refine (walk a0 x1 len1 cap1 a2 x3 len3 cap3 x4 len4 cap4 W hx1 hx3 hx4).mono fun e W' ⟨he, bel⟩ => ?_
  subst he
  exact ⟨_, rfl, _, _, _, [], _, [], hW', trodAll_mk1 (shut_bool Try.underlying4 _), (trodAll_cons_mk (shut_int Try.underlying3 w0) (trodAll_cons_mk (Below.trod laidOut (by kernel_rfl) (of_decide_eq_true (by kernel_rfl)) k1 bel lt1) (trodAll_cons_mk (shut_int Try.underlying3 w2) (trodAll_cons_mk (Below.trod laidOut (by kernel_rfl) (of_decide_eq_true (by kernel_rfl)) k3 bel lt3) (trodAll_cons_mk (Below.trod laidOut (by kernel_rfl) (of_decide_eq_true (by kernel_rfl)) k4 bel lt4) trodAll_mk0))))), rfl, bel.frame _, fun h => by cases h⟩

theorem over : Rows.walkDoesRow.holds Try.pinned (OpenSpec.ofChange Rows.walkDoesSpec) :=
  OpenClaim.holds_of_wide 3 Try.f3 rfl rfl rfl rfl rfl rfl rfl ⟨rfl, rfl, rfl, rfl, rfl⟩ rfl rfl rfl rfl rfl (by kernel_rfl) Try.func3 (by kernel_rfl)
    (of_decide_eq_true (by kernel_rfl)) (by unfold Func.isWrapper; first | (rw [if_pos (by decide +kernel)]; kernel_rfl) | (rw [if_neg (by decide +kernel)]; exact ⟨rfl, rfl⟩))
    (fun os started H enc _ => lifted os started H enc)

theorem proved : Rows.WalkDoesSaid := over
end Go.Proofs.Ytgneacfiabpfmaa.walkDoes
namespace Go.Proofs.Ytgneacfiabpfmaa
theorem walkDoes_holds : Rows.WalkDoesSaid := walkDoes.proved
#print axioms walkDoes_holds
end Go.Proofs.Ytgneacfiabpfmaa
