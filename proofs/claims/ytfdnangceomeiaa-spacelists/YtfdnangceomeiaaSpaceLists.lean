/- SpaceLists (15.3): a directory with three tables, and frames behind them: what is mapped where nothing was is listed, and else nothing new; unmapped, all words are as before. For every input; no condition. -/
import Derived.Test.YtfdnangceomeiaaLfa
import Derived.Test.YtfdnangceomeiaaOpo
import Derived.Deep.Cut
import Derived.Deep.DeepCutAuto
import Derived.Deep.RegionHeld3
import Derived.Deep.LoopGhost
import Derived.Test.YtfdnangceomeiaaArgs
import Derived.ProofKit
import Derived.OpenShut
import Derived.ShutString
import Derived.ChangeOld
import Derived.Below
import Derived.Deep.Slices
namespace Go.Proofs.Ytfdnangceomeiaa.spaceLists
open Go.ChangeShapes Go.WideShapes Go.ChangeAt Go.RowKit
set_option linter.unusedVariables false

theorem own : ownKnob Try.prog.godebug = none := by kernel_rfl
theorem laidOut : laidOutB Try.prog = true := by kernel_rfl

/-- What the law has. -/
structure Inv (w wr : World) (p b : Nat) (F : Nat → Nat) : Prop where
  nw : Nw w wr p b 512 F
  lf : Lf F
abbrev MT : TypeId := 52
/-- Both lists, and the row of words. -/
structure Bl (wr : World) (B1 B2 : Nat) (v1 v2 : Value) (L1 L2 : List K3) (r : Nat) (F : Nat → Nat) : Prop where
  one : L3 MT wr B1 v1 L1
  two : L3 MT wr B2 v2 L2
  row : wr.rowIs r 46 512 (fun i => .int .u64 (F i : Int))
theorem Bl.kept {wr w' : World} {B1 B2 : Nat} {v1 v2 : Value} {L1 L2 : List K3} {r : Nat} {F : Nat → Nat} (h : Bl wr B1 B2 v1 v2 L1 L2 r F) (g : wr.grownBy w' none) : Bl w' B1 B2 v1 v2 L1 L2 r F :=
  ⟨h.one.kept g, h.two.kept g, Y2.rowKeep h.row g (by simp)⟩

set_option maxHeartbeats 8000000 in
set_option maxRecDepth 100000 in
theorem core (x0 : Option Addr) (len0 cap0 : Nat) (a1 a2 : Int) (o : Bool) (U A g V k f Q : Nat) (w : World) (v1 : IntKind.u64.wrap a1 = (U : Int)) (v2 : (U : Int) % 768 = (A : Int)) (Al : A < 768) (v3 : (A : Int) / 16 = (g : Int))
    (v4 : IntKind.u64.wrap a2 = (V : Int)) (v5 : (V : Int) % 20 = (k : Int)) (kl : k < 20) (v6 : 64 + 16 * (k : Int) = (f : Int)) (fl : f < 512) (HQ : Hid (f = 16 * Q ∧ 4 ≤ Q ∧ Q < 24)) (hx0 : Acts5 w x0 len0) :
    Calls Try.prog 5 #[.slice x0 len0 cap0, .int .i64 a1, .int .i64 a2, .bool o] w fun e w' => e = .returned (.bool true) ∧ w.grownBy w' none := by
  have HX := hideIt hx0
  have hA : Hid (A / 16 = g ∧ g < 48) := hideIt ⟨by omega, by omega⟩
  have VV := hideIt (And.intro v1 (And.intro v2 (And.intro v3 (And.intro v4 (And.intro v5 v6)))))
  clear hx0 v1 v2 v3 v4 v5 v6
  go_enter Try.func5, Try.ntmps5
  go_wp2_with fail
  refine (works_is _).mono ?_
  rintro e w0 ⟨rfl, g0⟩
  go_wp2_with fail
  refine (new_nw _ 512 (by omega) (by omega)).mono ?_
  rintro e w1 ⟨p, b, rfl, H1⟩
  replace H1 : Hid (Nw w w1 p b 512 (M.ti 0)) := hideIt ⟨by rw [M.ti_zero]; exact H1.m, gbTrans g0 H1.g, Nat.le_trans g0.size H1.b0⟩
  clear g0
  go_wp2_with fail
  go_loopg [11] 3 (fun gk i wr => ∃ (j : Nat), j + gk = 3 ∧ i = .int .i64 j ∧ Hid (Nw w wr p b 512 (M.ti j)))
  case atStart => exact ⟨0, rfl, rfl, H1⟩
  case round =>
    obtain ⟨j, hj, rfl, H⟩ := hrel
    clear H1
    by_cases hlt : j < 3
    · have T := hideIt (M.ti_table hlt)
      obtain ⟨y, hy⟩ : ∃ y : Nat, 256 * j = y := ⟨_, rfl⟩
      obtain ⟨z, hz⟩ : ∃ z : Nat, 16 * j = z := ⟨_, rfl⟩
      obtain ⟨t, ht⟩ : ∃ t : Nat, 16 + z = t := ⟨_, rfl⟩
      rw [hy, hz, ht] at T
      have e1 : 256 * (j : Int) = (y : Int) := by omega
      have e2 : 16 * (j : Int) = (z : Int) := by omega
      have e3 : 16 + (z : Int) = (t : Int) := by omega
      have yl : y < 768 := by omega
      have zl : z < 48 := by omega
      have tl : t < 64 := by omega
      clear hy hz ht
      go_wp2_with fail
      refine (table_is _ p b 512 _ _ 0 y 0 t H.out.m T.out).mono ?_
      rintro e w2 ⟨rfl, m2, g2⟩
      have H2 := hideIt (H.out.turn m2 g2)
      clear H m2 g2 T e1 e2 e3
      go_wp2
      go_roundg (gk - 1)
      case rel => exact ⟨j + 1, by omega, by go_num, H2⟩
      case measure => omega
    · obtain rfl : j = 3 := by omega
      have H2 : Hid (Inv w _ p b (M.ti 3)) := hideIt ⟨H.out, Lf.begin⟩
      clear H hlt hj
      go_wp2_with fail
      go_loopg [12] 30 (fun gk i wr => ∃ (j : Nat) (F : Nat → Nat), j + gk = 30 ∧ i = .int .i64 j ∧ Hid (Inv w wr p b F))
      case atStart => exact ⟨0, _, rfl, rfl, H2⟩
      case round =>
        obtain ⟨j, F, hj, rfl, H⟩ := hrel
        clear H2
        by_cases hlt : j < len0 ∧ j < 30
        · obtain ⟨c1, c2⟩ := hlt
          obtain ⟨x, r, rfl, hE⟩ := HX.out j c1
          have hdj : decide ((j : Int) < 30) = true := by simp; omega
          obtain ⟨A1, y, q1, q2, q3⟩ := modArg r.a 768 (by omega)
          replace q2 : (A1 : Int) % 768 = (y : Int) := q2
          obtain ⟨B1, k1, f1, Q1, b1, b2, b3, b4, b5, b6⟩ := frameArg r.t
          obtain ⟨m, hm⟩ : ∃ m : Nat, 16 * k1 = m := ⟨_, rfl⟩
          have z2 : IntKind.i64.wrap (16 * (k1 : Int)) = (m : Int) := wI (by omega) (by omega)
          have z3 : IntKind.i64.wrap (64 + (m : Int)) = (f1 : Int) := wI (by omega) (by omega)
          have z5 : IntKind.i64.wrap (k1 : Int) = (k1 : Int) := wI rfl (by omega)
          have z8 : (B1 : Int).tmod 20 = (k1 : Int) := by rw [Int.tmod_eq_emod_of_nonneg (by omega)]; exact b2
          obtain ⟨K, G, hk⟩ := H.out.lf.map (A := y) q3 b4 b5 b6 r.w
          replace hk := hideIt hk
          have E0 := hE.kept H.out.nw.g
          have S0 : (wr.cell? ⟨(x.add (j * 5)).block, (x.add (j * 5)).off + 3, none⟩ = some (.int .i64 r.t) ∧ wr.cell? ⟨(x.add (j * 5)).block, (x.add (j * 5)).off + 4, none⟩ = some (.bool r.w)) := ⟨E0.at3, E0.at4⟩
          have Hd0 := hideIt (H.out.nw.kept (gbDrew (gbRefl wr none)))
          have E1 := hE.kept Hd0.out.g
          have S1 : (wr.drew.cell? ⟨(x.add (j * 5)).block, (x.add (j * 5)).off + 3, none⟩ = some (.int .i64 r.t) ∧ wr.drew.cell? ⟨(x.add (j * 5)).block, (x.add (j * 5)).off + 4, none⟩ = some (.bool r.w)) := ⟨E1.at3, E1.at4⟩
          replace hE := hideIt hE
          have y2 := E0.at2
          clear E0 E1 hm b3 b4 b5 b6
          go_upto_region 15 with fail
          clear q1 q2 y2
          go_region_held3 (fun w' => w'.cell? ⟨(x.add (j * 5)).block, (x.add (j * 5)).off + 3, none⟩ = some (.int .i64 r.t) ∧ w'.cell? ⟨(x.add (j * 5)).block, (x.add (j * 5)).off + 4, none⟩ = some (.bool r.w))
            (first | with_reducible exact S0 | with_reducible exact S1 | with_reducible exact S4 | fail)
            ((go_at_call 19; refine (map_is _ p b 512 F G 0 y K f1 r.w Hd0.out.m hk.out.1).mono ?_; rintro e w4 ⟨rfl, m4, g4⟩; have H4 : Hid (Inv w w4 p b G) := hideIt ⟨Hd0.out.turn m4 g4, hk.out.2⟩; have E4 := hE.out.kept H4.out.nw.g; have S4 : (w4.cell? ⟨(x.add (j * 5)).block, (x.add (j * 5)).off + 3, none⟩ = some (.int .i64 r.t) ∧ w4.cell? ⟨(x.add (j * 5)).block, (x.add (j * 5)).off + 4, none⟩ = some (.bool r.w)) := ⟨E4.at3, E4.at4⟩))
          rename_i hold
          clear hold S0 S1 S4 E4 m4 g4
          clear z2 z3 z5 z8 b1 b2
          go_wp2
          go_roundg (gk - 1)
          case rel => exact ⟨j + 1, _, by omega, by go_num, H4⟩
          case measure => omega
        · go_upto_region 12 with fail
          go_cut [56] from 49 to 56 (fun s wc => s = .bool false ∧ wc = wr)
          case first =>
            by_cases k1 : (j : Int) < (len0 : Int)
            · have k2 : ¬ (j : Int) < 30 := by omega
              go_wp2
              go_meet
              exact ⟨rfl, rfl⟩
            · go_wp2
              go_meet
              exact ⟨rfl, rfl⟩
          case rest =>
          obtain ⟨rfl, rfl⟩ := hcut
          clear hlt hj
          by_cases h0 : F (16 + g) = 0
          · obtain ⟨LA, LB, l1, l2, o1, o2⟩ := H.out.lf.list_yes (o := o) hA.out.2 h0 HQ.out.2.1 HQ.out.2.2
            have T1 := hideIt (H.out.lf.map_yes (o := o) hA.out.1 Al HQ.out.1 HQ.out.2.2 h0)
            have T2 := hideIt (H.out.lf.back (Q := Q) (o := o) hA.out.1 Al h0)
            rw [← HQ.out.1] at l2
            obtain ⟨G, hG⟩ : ∃ G, M.st F (16 + g) (M.wd Q o) = G := ⟨_, rfl⟩
            rw [hG] at T1 T2 l2
            replace l1 := hideIt l1
            replace l2 := hideIt l2
            replace o1 := hideIt o1
            replace o2 := hideIt o2
            clear h0 hG
            obtain ⟨nA, hnA⟩ : ∃ n, LA.length = n := ⟨_, rfl⟩
            obtain ⟨nB, hnB⟩ : ∃ n, LB.length = n := ⟨_, rfl⟩
            have hn1 : Hid ((LA ++ LB).length = nA + nB) := hideIt (by rw [List.length_append, hnA, hnB])
            have hn2 : Hid ((LA ++ (⟨g, (f : Int), o⟩ :: LB)).length = nA + nB + 1) := hideIt (by rw [List.length_append, List.length_cons, hnA, hnB]; omega)
            have hb : Hid (nA + nB ≤ 256) := hideIt (by have := M.ln_len 512 F 0 256; have e := l1.out; rw [lsOk] at e; simp only [Prod.mk.injEq, and_true] at e; rw [e, hn1.out] at this; exact this)
            replace hnA := hideIt hnA
            replace hnB := hideIt hnB
            obtain ⟨N1, hN1⟩ : ∃ N1, nA + nB = N1 := ⟨_, rfl⟩
            rw [hN1] at hn1 hn2 hb
            have N1l := hb.out
            replace hN1 := hideIt hN1
            go_wp2_with fail
            refine (list_is _ p b 512 F 0 0 _ H.out.nw.m l1.out).mono ?_
            rintro e w3 ⟨v3, rfl, L3a, g3⟩
            obtain ⟨s3, c3, rfl⟩ := L3a.slice hn1.out
            have H3 := hideIt (H.out.nw.kept g3)
            have hb3 : ∀ k, Value.ownBlock (.slice s3 N1 c3) = some k → k ≠ b := fun k hk e => by
              have h1 := (L3a.lt k hk).1
              have h2 := H.out.nw.m.blt
              omega
            replace L3a := hideIt L3a
            replace hb3 := hideIt hb3
            clear H g3
            go_wp2_with fail
            refine (words_is _ p b 512 F H3.out.m).mono ?_
            rintro e w4 ⟨r4, rfl, hr4, g4, hl4⟩
            have H4 := hideIt (H3.out.kept g4)
            have hne : ¬ r4 = b := by have := H3.out.m.blt; omega
            have R4 := hideIt (And.intro (L3a.out.kept g4) hr4)
            clear H3 g4 hl4 hr4 L3a
            obtain ⟨v1, v2, v3, v4, v5, v6⟩ := id VV.out
            go_wp2_with fail
            refine (map_is _ p b 512 F G 0 A 0 f o H4.out.m T1.out).mono ?_
            rintro e w5 ⟨rfl, m5, g5⟩
            have H5 := hideIt (H4.out.turn m5 g5)
            have R5 := hideIt (And.intro (R4.out.1.keep g5 hb3.out) (Y2.rowKeep R4.out.2 g5 (by simpa using hne)))
            clear H4 m5 g5 R4 T1 hb3 v1 v2 v4 v5 v6
            go_wp2_with fail
            refine (list_is _ p b 512 G 0 0 _ H5.out.m l2.out).mono ?_
            rintro e w6 ⟨v6, rfl, L6, g6⟩
            obtain ⟨s6, c6, rfl⟩ := L6.slice hn2.out
            have H6 := hideIt (H5.out.kept g6)
            have R6 : Hid (Bl w6 _ _ (.slice s3 N1 c3) (.slice s6 (N1 + 1) c6) (LA ++ LB) (LA ++ (⟨g, (f : Int), o⟩ :: LB)) r4 F) := hideIt ⟨R5.out.1.kept g6, L6, Y2.rowKeep R5.out.2 g6 (by simp)⟩
            clear H5 g6 L6 R5 l1 l2
            have qe := eqGuard_m
            have qn := run_neq_m
            have hd4 : ((N1 : Int) + 1 != (N1 : Int) + 1) = false := by simp
            go_wp2_with fail
            go_loopg [23, 24] (N1 + 1) (fun gk s t wr => ∃ (j k : Nat), j + gk = N1 + 1 ∧ t = .int .i64 j ∧ s = .int .i64 k ∧ Hid (k = at1 nA j) ∧ w6.grownBy wr none)
            case atStart => exact ⟨0, 0, by omega, rfl, rfl, hideIt (by unfold at1; rw [if_pos (by omega)]), gbRefl _ _⟩
            case round =>
              obtain ⟨j, k, hj, rfl, rfl, hk, gw⟩ := hrel
              by_cases hlt : j < N1 + 1
              · obtain ⟨g6, d6, e6, _, _⟩ := R6.out.two.has hn2.out hlt
                cases e6
                by_cases hm : j = nA
                · obtain ⟨a0, a1, a2⟩ := (R6.out.two.el hn2.out j ⟨g, (f : Int), o⟩ (by rw [hm]; exact at_mid hnA.out)).kept gw
                  simp only at a0 a1 a2
                  have hk2 : Hid (k = at1 nA (j + 1)) := hideIt (by rw [hk.out, hm]; exact at1_mid _)
                  clear hk
                  replace hm := hideIt hm
                  have l6 : (j : Int) < (N1 : Int) + 1 := by omega
                  go_wp2
                  go_roundg (gk - 1)
                  case rel => exact ⟨j + 1, k, by omega, by go_num, rfl, hk2, gw⟩
                  case measure => omega
                · obtain ⟨e, x1, x2, x3, x4, x5⟩ := two_lists (k := ⟨g, (f : Int), o⟩) hnA.out hn1.out o1.out o2.out hlt hm
                  rw [← hk.out] at x2 x4 x5
                  obtain ⟨a0, a1, a2⟩ := (R6.out.two.el hn2.out j e x1).kept gw
                  obtain ⟨g3, d3, e3, _, _⟩ := R6.out.one.has hn1.out x4
                  cases e3
                  obtain ⟨b0, b1, b2⟩ := (R6.out.one.el hn1.out k e x2).kept gw
                  have q3 := M.eq3_refl (e.p : Int) e.a e.w
                  have x6 : decide ((N1 : Int) ≤ (k : Int)) = false := by simp; omega
                  replace x5 := hideIt x5
                  have l6 : (j : Int) < (N1 : Int) + 1 := by omega
                  clear x1 x2 hm
                  replace hk := hideIt hk.out
                  go_wp2
                  go_quiet (fail)
                  go_wp2
                  go_roundg (gk - 1)
                  case rel => exact ⟨j + 1, k + 1, by omega, by go_num, by go_num, x5, gbTrans gw (gbDrewN _ _ _)⟩
                  case measure => omega
              · have H7 := hideIt (H6.out.kept gw)
                have R7 := hideIt (Y2.rowKeep R6.out.row gw (by simp))
                have l6 : ¬ (j : Int) < (N1 : Int) + 1 := by omega
                clear H6 R6 gw hk o1 o2
                go_wp2_with fail
                refine (unmap_is _ p b 512 G F 0 A 0 H7.out.m T2.out).mono ?_
                rintro e w8 ⟨rfl, m8, g8⟩
                have H8 := hideIt (H7.out.turn m8 g8)
                have R8 := hideIt (Y2.rowKeep R7.out g8 (by simpa using hne))
                clear H7 m8 g8 R7 T2
                go_wp2_with fail
                refine (words_is _ p b 512 F H8.out.m).mono ?_
                rintro e w9 ⟨r2, rfl, hr2, g9, _⟩
                have H9 := hideIt (H8.out.kept g9)
                have R9 := hideIt (And.intro (Y2.rowKeep R8.out g9 (by simp)) hr2)
                clear H8 g9 hr2 R8
                go_wp2_with fail
                refine (Y2.same_sl _ _ _ 512 (fun i => (F i : Int)) (fun i => (F i : Int)) (Y2.Sl.ofRow (c := 512) R9.out.2 (by omega)) (Y2.Sl.ofRow (c := 512) R9.out.1 (by omega)) (fun _ _ => rfl)).mono ?_
                rintro e w10 ⟨rfl, q10, rfl⟩
                go_wp2
                go_ret
                exact ⟨rfl, gbTrans H9.out.g (gbDrewN _ _ _)⟩
          · obtain ⟨LA, LB, x, u, l1, o1⟩ := H.out.lf.list_no hA.out.2 h0
            have T1 := hideIt (H.out.lf.map_no (o := o) hA.out.1 Al HQ.out.1 HQ.out.2.2 h0)
            replace l1 := hideIt l1
            replace o1 := hideIt o1
            clear h0
            obtain ⟨nA, hnA⟩ : ∃ n, LA.length = n := ⟨_, rfl⟩
            obtain ⟨N1, hN1⟩ : ∃ n, (LA ++ (⟨g, x, u⟩ :: LB)).length = n := ⟨_, rfl⟩
            have hl : nA < N1 := by rw [List.length_append, List.length_cons, hnA] at hN1; omega
            have N1l : N1 ≤ 256 := by have := M.ln_len 512 F 0 256; have e := l1.out; rw [lsOk] at e; simp only [Prod.mk.injEq, and_true] at e; rw [e, hN1] at this; exact this
            replace hnA := hideIt hnA
            replace hN1 := hideIt hN1
            go_wp2_with fail
            refine (list_is _ p b 512 F 0 0 _ H.out.nw.m l1.out).mono ?_
            rintro e w3 ⟨v3, rfl, L3a, g3⟩
            obtain ⟨s3, c3, rfl⟩ := L3a.slice hN1.out
            have H3 := hideIt (H.out.nw.kept g3)
            have hb3 : ∀ k, Value.ownBlock (.slice s3 N1 c3) = some k → k ≠ b := fun k hk e => by
              have h1 := (L3a.lt k hk).1
              have h2 := H.out.nw.m.blt
              omega
            replace L3a := hideIt L3a
            replace hb3 := hideIt hb3
            clear H g3
            go_wp2_with fail
            refine (words_is _ p b 512 F H3.out.m).mono ?_
            rintro e w4 ⟨r4, rfl, hr4, g4, hl4⟩
            have H4 := hideIt (H3.out.kept g4)
            have R4 := hideIt (L3a.out.kept g4)
            clear H3 g4 hl4 hr4 L3a
            obtain ⟨v1, v2, v3, v4, v5, v6⟩ := id VV.out
            go_wp2_with fail
            refine (map_is _ p b 512 F F 0 A 4 f o H4.out.m T1.out).mono ?_
            rintro e w5 ⟨rfl, m5, g5⟩
            have H5 := hideIt (H4.out.turn m5 g5)
            have R5 := hideIt (R4.out.keep g5 hb3.out)
            clear H4 m5 g5 R4 T1 hb3 v1 v2 v4 v5 v6
            go_wp2_with fail
            refine (list_is _ p b 512 F 0 0 _ H5.out.m l1.out).mono ?_
            rintro e w6 ⟨v6, rfl, L6, g6⟩
            obtain ⟨s6, c6, rfl⟩ := L6.slice hN1.out
            have H6 := hideIt (H5.out.kept g6)
            have R6 := hideIt (R5.out.kept g6)
            clear H5 g6 L6 R5 l1
            go_wp2_with fail
            go_loopg [22] (nA + 1) (fun gk t wr => ∃ (j : Nat), j + gk = nA + 1 ∧ j ≤ nA ∧ t = .int .i64 j ∧ w6.grownBy wr none)
            case atStart => exact ⟨0, by omega, by omega, rfl, gbRefl _ _⟩
            case round =>
              obtain ⟨j, hj, hjn, rfl, gw⟩ := hrel
              have hlt : j < N1 := by omega
              obtain ⟨g6, d6, e6, _, _⟩ := R6.out.has hN1.out hlt
              cases e6
              by_cases hm : j = nA
              · obtain ⟨a0, a1, a2⟩ := (R6.out.el hN1.out j ⟨g, x, u⟩ (by rw [hm]; exact at_mid hnA.out)).kept gw
                simp only at a0 a1 a2
                have H7 := hideIt (H6.out.kept gw)
                clear H6 hm
                go_wp2
                go_ret
                exact ⟨rfl, H7.out.g⟩
              · obtain ⟨e, x1, x3⟩ := at_front (LB := ⟨g, x, u⟩ :: LB) hnA.out o1.out (show j < nA by omega)
                obtain ⟨a0, a1, a2⟩ := (R6.out.el hN1.out j e x1).kept gw
                clear x1
                replace hm := hideIt hm
                go_wp2
                go_roundg (gk - 1)
                case rel => exact ⟨j + 1, by have := hm.out; omega, by have := hm.out; omega, by go_num, gw⟩
                case measure => omega

theorem walk (x0 : Option Addr) (len0 cap0 : Nat) (a1 a2 : Int) (b3 : Bool) (w : World) (hx0 : Acts5 w x0 len0) :
    Calls Try.prog 5 #[.slice x0 len0 cap0, .int .i64 a1, .int .i64 a2, .bool b3] w fun e w' => e = .returned (.bool true) ∧ Below w.heap.size w w' := by
  refine endWalk ?_
  obtain ⟨U, A, v1, v2, hA⟩ := modArg a1 768 (by omega)
  obtain ⟨V, k, f, Q, v3, v4, v5, v6, v7, v8⟩ := frameArg a2
  exact core x0 len0 cap0 a1 a2 b3 U A (A / 16) V k f Q w v1 v2 hA (by omega) v3 v4 (by omega) v5 (by omega) (hideIt ⟨v6, v7, v8⟩) hx0

set_option maxRecDepth 100000 in
theorem lifted (os : Os) (started : os.Started) (H : Type) (enc : TypeId × Value → H) :
    ReturnsInHanded {} Try.checked os 5 .any (Rows.spaceListsSpec.pre6 enc Try.prog Try.f5 Rows.spaceListsRow.domain false) (Rows.spaceListsSpec.post enc Try.prog Try.f5 false true false false) := by
  refine returnsInHanded_of_change (C := Try.checked) own started (by kernel_rfl) Try.func5
    (ChangeSpec.witness6 (enc := enc) (C := Try.checked) false ⟨#[], #[.slice none 0 0, .int .i64 0, .int .i64 0, .bool false], []⟩ 8 (by kernel_rfl) (by kernel_rfl) (by kernel_rfl) (by kernel_rfl)) ?_
  intro W base args ds gs before hval0 hW hcnd _
  have hval : ∀ (j : Nat) t v, Try.f5.params[j]? = some t → args[j]? = some v → Value.okWide Try.prog W .any base t v := hval0
  have hW' := hW
  obtain ⟨p, q, hA0, hV, rfl, hfz, hnd⟩ := hW
  have hA : DataW.TrodAll enc Try.prog W 0 (fun _ => true) true Try.f5.params.toList args.toList ds p := hA0
  rw [Try.params5] at hA hval
  obtain ⟨v0, vs0, d0, ds0, p0, q0, hargs, rfl, rfl, h0, r0⟩ := trodAll_cons hA
  obtain ⟨v1, vs1, d1, ds1, p1, q1, rfl, rfl, rfl, h1, r1⟩ := trodAll_cons r0
  obtain ⟨v2, vs2, d2, ds2, p2, q2, rfl, rfl, rfl, h2, r2⟩ := trodAll_cons r1
  obtain ⟨v3, vs3, d3, ds3, p3, q3, rfl, rfl, rfl, h3, r3⟩ := trodAll_cons r2
  obtain ⟨rfl, rfl, rfl⟩ := trodAll_nil r3
  obtain rfl : args = #[v0, v1, v2, v3] := by cases args; simp_all
  obtain ⟨rfl, rfl⟩ := trodVars_none hV
  obtain ⟨x0, len0, cap0, rfl⟩ := okWide_slice Try.underlying23 (hval 0 23 v0 rfl rfl)
  have hx0 := opsArg h0
  have k0 := h0
  have lt0 : ∀ x ∈ p0, x.block < W.heap.size := by obtain ⟨m, hm⟩ := k0; exact DataW.trod_lt m _ _ _ hm
  obtain ⟨a1, rfl, rfl, rfl, w1⟩ := open_int Try.underlying3 (hval 1 3 v1 rfl rfl) h1
  obtain ⟨a2, rfl, rfl, rfl, w2⟩ := open_int Try.underlying3 (hval 2 3 v2 rfl rfl) h2
  obtain ⟨b3, rfl, rfl, rfl⟩ := open_bool Try.underlying4 (hval 3 4 v3 rfl rfl) h3
  clear hA0 hval0
  refine (walk x0 len0 cap0 a1 a2 b3 W hx0).mono fun e W' ⟨he, bel⟩ => ?_
  subst he
  exact ⟨_, rfl, _, _, _, [], _, [], hW', trodAll_mk1 (shut_bool Try.underlying4 _), (trodAll_cons_mk (Below.trod laidOut (by kernel_rfl) (of_decide_eq_true (by kernel_rfl)) k0 bel lt0) (trodAll_cons_mk (shut_int Try.underlying3 w1) (trodAll_cons_mk (shut_int Try.underlying3 w2) (trodAll_cons_mk (shut_bool Try.underlying4 _) trodAll_mk0)))), rfl, bel.frame _, fun h => by cases h⟩

theorem over : Rows.spaceListsRow.holds Try.pinned (OpenSpec.ofChange Rows.spaceListsSpec) :=
  OpenClaim.holds_of_wide 5 Try.f5 rfl rfl rfl rfl rfl rfl rfl ⟨rfl, rfl, rfl, rfl, rfl⟩ rfl rfl rfl rfl rfl (by kernel_rfl) Try.func5 (by kernel_rfl)
    (of_decide_eq_true (by kernel_rfl)) (by unfold Func.isWrapper; first | (rw [if_pos (by decide +kernel)]; kernel_rfl) | (rw [if_neg (by decide +kernel)]; exact ⟨rfl, rfl⟩))
    (fun os started H enc _ => lifted os started H enc)

theorem proved : Rows.SpaceListsSaid := over
end Go.Proofs.Ytfdnangceomeiaa.spaceLists
namespace Go.Proofs.Ytfdnangceomeiaa
theorem spaceLists_holds : Rows.SpaceListsSaid := spaceLists.proved
#print axioms spaceLists_holds
end Go.Proofs.Ytfdnangceomeiaa
