/- RevokeDoes holds for every input: whatever acts come in (at most sixty are played), whatever is deleted and revoked, in however few steps: the program and the document answer alike, tell the same, and leave the same slots. No condition. -/
import Derived.Test.YtdnoidnpiaadaaaGreatH3
import Derived.Test.YtdnoidnpiaadaaaGreatBdl
import Derived.Deep.Cut
import Derived.Deep.CutRange
import Derived.Deep.DeepCutAuto
import Derived.Deep.RegionHeld3
import Derived.Deep.LoopGhost
import Derived.Test.YtdnoidnpiaadaaaGreatArgs
import Derived.ProofKit
import Derived.OpenShut
import Derived.ShutString
import Derived.ChangeOld
import Derived.Below
import Derived.Deep.Slices
namespace Go.Proofs.YtdnoidnpiaadaaaGreat.revokeDoes
open Go.ChangeShapes Go.WideShapes Go.ChangeAt Go.RowKit
set_option linter.unusedVariables false

theorem own : ownKnob Tryz.prog.godebug = none := by kernel_rfl
theorem laidOut : laidOutB Tryz.prog = true := by kernel_rfl

set_option maxRecDepth 10000 in
set_option maxHeartbeats 16000000 in
theorem core (xo : Option Addr) (len cap : Nat) (w : World) (HX : Hid (∀ i, i < len → ∃ x q st, xo = some x ∧ El19 w (x.add (i * 19)) q st ∧ Op18 q ∧ I64 st)) :
    Calls Tryz.prog 4 #[.slice xo len cap] w fun e w' => e = .returned (.bool true) ∧ Below w.heap.size w w' := by
  go_enter Tryz.func4, Tryz.ntmps4
  go_wp2_with fail
  refine (newCaps (gbRefl w none)).mono ?_
  rintro _ w1 ⟨p, s, t, rfl, A1, g1⟩
  have H1 := hideIt A1
  have G1' := hideIt g1
  clear A1 g1
  go_wp2_with fail
  refine (newRc G1'.out).mono ?_
  rintro _ w2 ⟨q, rfl, A2, g2⟩
  have HB : Hid (Bh w w2 (fun i => w.heap.size ≤ i ∧ i < w1.heap.size) (fun i => w1.heap.size ≤ i ∧ i < w2.heap.size) p s t 0 q (fun _ => none) .nil (fun _ => none) .nil) := ⟨H1.out.kept g2, A2, fun i hi e => by omega⟩
  clear A2 g2 H1 G1'
  go_wp2
  go_loopg [5] 60 (fun y i wr => ∃ (j : Nat) (S : St) (f : T9.Fo) (P R : Nat → Prop) (m : Nat), j + y = 60 ∧ i = .int .i64 j ∧ Hid (Bh w wr P R p s t m q S f S f) ∧ Hid (M.Inv S f) ∧ Hid (f.len ≤ j) ∧ Hid (m ≤ j))
  case atStart => exact ⟨0, _, _, _, _, _, by omega, rfl, HB, M.Inv.none, Nat.le_refl 0, Nat.le_refl 0⟩
  case round =>
    obtain ⟨j, S, f, P, R, m, hj, rfl, HC, HI, HL, HM⟩ := hrel
    by_cases hlt : j < len ∧ j < 60
    · obtain ⟨hlt, hlt2⟩ := hlt
      have hlt' : (j : Int) < (len : Int) := by omega
      have hlt2' : (j : Int) < 60 := by omega
      obtain ⟨x9, qq, st, rfl, E0, QQ, hst⟩ := HX.out j hlt
      have E := hideIt (E0.kept HC.out.gr)
      clear E0
      go_upto_region 8 with (first | (refine wpList_load_op9 rfl _ rfl _ qq st rfl E.out ?_) | (refine wpList_store_op9 rfl _ _ rfl _ qq st rfl rfl (opZero9 wr).1 (opZero9 wr).2 ?_; intro W5 B5 g5))
      have g5' : wr.grownBy W5 none := gbNew (gbTrans (gbAlloc _ _ _) g5) (Nat.le_refl _)
      have HC5 := hideIt (HC.out.kept g5')
      have HN5 := hideIt (Nb.mk (HC.out.out (Nat.le_refl _)).1 (HC.out.out (Nat.le_refl _)).2 B5.ob.lt)
      have HX5 := hideIt B5
      have hm9 : m ≤ 1000 := Nat.le_trans HM.out (by omega)
      have hl9 : f.len ≤ 59 := Nat.le_trans HL.out (by omega)
      have hl10 : f.len ≤ 60 := Nat.le_trans hl9 (by decide)
      clear HC g5 g5' E B5
      obtain ⟨k0, a, a2, b, b2, d, d2, ⟨ck, co, cr, cb, cg, cn⟩, n, rt, bd, gd, bt⟩ := qq
      have HQ := hideIt QQ
      clear QQ
      have y1 := HX5.out.ob.at1
      have y2 := HX5.out.ob.at2
      simp only at y1 y2
      try dsimp only [qcs9]
      go_upto_region 14 with fail
      obtain ⟨W6, hW6, X6, g6⟩ := sboxNew W5 a a2
      rw [hW6]
      clear hW6 y1 y2
      obtain ⟨YY, hYY⟩ : ∃ YY, W5.heap.size = YY := ⟨_, rfl⟩
      have HC6 := hideIt (HC5.out.kept g6)
      have HN6 : Hid (Nb W6 P R wr.heap.size) := HN5.out.kept g6
      have HX6 := hideIt (HX5.out.kept g6)
      have HS6 := hideIt X6
      have HM6 : Hid (Nb W6 P R W5.heap.size) := Nb.mk (HC5.out.out (Nat.le_refl _)).1 (HC5.out.out (Nat.le_refl _)).2 X6.lt
      rw [hYY] at HS6 HM6 ⊢
      clear X6 g6 hYY HC5 HN5 HX5
      have y18 := HX6.out.st
      rcases Int.lt_trichotomy st 0 with hs0 | hs0 | hs0
      · by_cases hmx : st < -2000
        · have hs1 : ¬ st = 0 := by omega
          have hs2 : ¬ 0 < st := by omega
          obtain ⟨x0, x1⟩ := HS6.out.tup
          go_upto_region 10 with fail
          clear hs0 hs1 hs2 y18 hmx
          go_wp2_with fail
          refine (rev_both HC6.out HI.out a a2 _ HQ.out.a HQ.out.a2 hl10).mono ?_
          rintro _ w7 ⟨tv, d7, e7, P1, rfl, F7, K7⟩
          have HK7 := hideIt K7
          have HS7 : Hid (SBox w7 YY a a2) := F7.fr.sbox HS6.out (fun e => e.elim HM6.out.np HM6.out.nr)
          have HX7 : Hid (OBox9 w7 wr.heap.size ⟨k0, a, a2, b, b2, d, d2, ⟨ck, co, cr, cb, cg, cn⟩, n, rt, bd, gd, bt⟩ st) := F7.fr.obox9 HX6.out (fun e => e.elim HN6.out.np HN6.out.nr)
          clear x0 x1 K7 F7
          obtain ⟨x0, x1⟩ := HS7.out.tup
          go_wp2_with fail
          refine HK7.out.mono ?_
          rintro _ w8 ⟨tv2, T, P2, R2, S2, f2, rfl, b8⟩
          clear x0 x1
          have HB8 := hideIt b8
          have HS8 : Hid (SBox w8 YY a a2) := b8.bf.fr.sbox HS6.out (fun e => e.elim HM6.out.np HM6.out.nr)
          clear b8 HK7 HS7 HX7
          go_wp2_with fail
          refine (samec_is HB8.out.la HB8.out.lb HB8.out.tl).mono ?_
          rintro _ wa ⟨rfl, ga⟩
          have HBa := hideIt (HB8.out.bh.kept ga)
          have HSa := hideIt (HS8.out.kept ga)
          have HIa := hideIt HB8.out.inv
          have HLa : Hid (f2.len ≤ j + 1) := Nat.le_succ_of_le (Nat.le_trans HB8.out.len HL.out)
          have HMa : Hid (m ≤ j + 1) := Nat.le_succ_of_le HM.out
          clear ga HB8 HS8 HC6 HN6 HX6 HS6 HM6
          have d0 : (d7 != d7) = false := by cases d7 <;> rfl
          obtain ⟨fv, hfv⟩ : ∃ z, M.fin S2 (a, a2) = z := ⟨_, rfl⟩
          obtain ⟨rr, hrr⟩ : ∃ z, M.rad S2 a = z := ⟨_, rfl⟩
          have HFR := hideIt (And.intro hfv hrr)
          clear hfv hrr
          have hla : f2.len ≤ 60 := Nat.le_trans HLa.out hlt2
          have c0 : ∀ y : Gr wa, y.w.cell? ⟨p, 0, none⟩ = some (.pointer (some ⟨s, 0, none⟩)) := fun y => (HBa.out.kept y.g).cs.c0
          have x0 : ∀ y : Gr wa, y.w.cell? ⟨YY, 0, none⟩ = some (.int .i64 a) := fun y => (HSa.out.kept y.g).at0
          have x1 : ∀ y : Gr wa, y.w.cell? ⟨YY, 1, none⟩ = some (.int .i64 a2) := fun y => (HSa.out.kept y.g).at1
          have H1 : ∀ y : Gr wa, Calls Tryz.prog 8 #[.pointer (some ⟨p, 0, none⟩), .pointer (some ⟨q, 0, none⟩)] y.w fun x w' => x = .returned (.bool true) ∧ y.w.grownBy w' none := fun y => same10_is (HBa.out.kept y.g) hla
          have H2 : ∀ y : Gr wa, Calls Tryz.prog 25 #[.pointer (some ⟨p, 0, none⟩), sv a a2] y.w fun x w' => x = .returned (.bool fv) ∧ y.w.grownBy w' none := fun y => HBa.out.cs.final a a2 fv HQ.out.a HFR.out.1 y.w y.g
          have H3 : ∀ y : Gr wa, Calls Tryz.prog 26 #[.pointer (some ⟨q, 0, none⟩), sv a a2] y.w fun x w' => x = .returned (.bool fv) ∧ y.w.grownBy w' none := fun y => (HBa.out.kept y.g).rc.final a a2 fv HFR.out.1
          have H4 : ∀ y : Gr wa, Calls Tryz.prog 9 #[.pointer (some ⟨s, 0, none⟩), .int .i64 a] y.w fun x w' => x = .returned (.int .i64 rr) ∧ y.w.grownBy w' none := fun y => (HBa.out.kept y.g).cs.radix a rr HQ.out.a HFR.out.2
          have H5 : ∀ y : Gr wa, Calls Tryz.prog 10 #[.pointer (some ⟨q, 0, none⟩), .int .i64 a] y.w fun x w' => x = .returned (.int .i64 rr) ∧ y.w.grownBy w' none := fun y => (HBa.out.kept y.g).rc.radix a rr HFR.out.2
          have e1 : (fv != fv) = false := by cases fv <;> rfl
          go_upto_region 22 with fail
          refine wp_region_grown (by kernel_rfl) (by kernel_rfl) fun _ => ?_
          repeat (go_big_quiet_step ((first | (go_at_call 8; with_reducible exact callsGr (H1 _)) | (go_at_call 25; with_reducible exact callsGr (H2 _)) | (go_at_call 26; with_reducible exact callsGr (H3 _)) | (go_at_call 9; with_reducible exact callsGr (H4 _)) | (go_at_call 10; with_reducible exact callsGr (H5 _)))))
          refine wpQuiet_nil ?_
          rintro w9 ⟨⟨_, g9⟩, rfl⟩
          have HB9 := hideIt (HBa.out.kept g9)
          clear c0 x0 x1 H1 H2 H3 H4 H5 e1
          go_wp2
          go_roundg (gk - 1)
          case rel => exact ⟨j + 1, _, _, _, _, _, by omega, by go_num, HB9, HIa, HLa, HMa⟩
          case measure => omega
        · have hs1 : ¬ st = 0 := by omega
          have hs2 : ¬ 0 < st := by omega
          obtain ⟨x0, x1⟩ := HS6.out.tup
          go_upto_region 10 with fail
          clear hs0 hs1 hs2 y18 hmx
          go_wp2_with fail
          refine (rev_both HC6.out HI.out a a2 _ HQ.out.a HQ.out.a2 hl10).mono ?_
          rintro _ w7 ⟨tv, d7, e7, P1, rfl, F7, K7⟩
          have HK7 := hideIt K7
          have HS7 : Hid (SBox w7 YY a a2) := F7.fr.sbox HS6.out (fun e => e.elim HM6.out.np HM6.out.nr)
          have HX7 : Hid (OBox9 w7 wr.heap.size ⟨k0, a, a2, b, b2, d, d2, ⟨ck, co, cr, cb, cg, cn⟩, n, rt, bd, gd, bt⟩ st) := F7.fr.obox9 HX6.out (fun e => e.elim HN6.out.np HN6.out.nr)
          clear x0 x1 K7 F7
          obtain ⟨x0, x1⟩ := HS7.out.tup
          go_wp2_with fail
          refine HK7.out.mono ?_
          rintro _ w8 ⟨tv2, T, P2, R2, S2, f2, rfl, b8⟩
          clear x0 x1
          have HB8 := hideIt b8
          have HS8 : Hid (SBox w8 YY a a2) := b8.bf.fr.sbox HS6.out (fun e => e.elim HM6.out.np HM6.out.nr)
          clear b8 HK7 HS7 HX7
          go_wp2_with fail
          refine (samec_is HB8.out.la HB8.out.lb HB8.out.tl).mono ?_
          rintro _ wa ⟨rfl, ga⟩
          have HBa := hideIt (HB8.out.bh.kept ga)
          have HSa := hideIt (HS8.out.kept ga)
          have HIa := hideIt HB8.out.inv
          have HLa : Hid (f2.len ≤ j + 1) := Nat.le_succ_of_le (Nat.le_trans HB8.out.len HL.out)
          have HMa : Hid (m ≤ j + 1) := Nat.le_succ_of_le HM.out
          clear ga HB8 HS8 HC6 HN6 HX6 HS6 HM6
          have d0 : (d7 != d7) = false := by cases d7 <;> rfl
          obtain ⟨fv, hfv⟩ : ∃ z, M.fin S2 (a, a2) = z := ⟨_, rfl⟩
          obtain ⟨rr, hrr⟩ : ∃ z, M.rad S2 a = z := ⟨_, rfl⟩
          have HFR := hideIt (And.intro hfv hrr)
          clear hfv hrr
          have hla : f2.len ≤ 60 := Nat.le_trans HLa.out hlt2
          have c0 : ∀ y : Gr wa, y.w.cell? ⟨p, 0, none⟩ = some (.pointer (some ⟨s, 0, none⟩)) := fun y => (HBa.out.kept y.g).cs.c0
          have x0 : ∀ y : Gr wa, y.w.cell? ⟨YY, 0, none⟩ = some (.int .i64 a) := fun y => (HSa.out.kept y.g).at0
          have x1 : ∀ y : Gr wa, y.w.cell? ⟨YY, 1, none⟩ = some (.int .i64 a2) := fun y => (HSa.out.kept y.g).at1
          have H1 : ∀ y : Gr wa, Calls Tryz.prog 8 #[.pointer (some ⟨p, 0, none⟩), .pointer (some ⟨q, 0, none⟩)] y.w fun x w' => x = .returned (.bool true) ∧ y.w.grownBy w' none := fun y => same10_is (HBa.out.kept y.g) hla
          have H2 : ∀ y : Gr wa, Calls Tryz.prog 25 #[.pointer (some ⟨p, 0, none⟩), sv a a2] y.w fun x w' => x = .returned (.bool fv) ∧ y.w.grownBy w' none := fun y => HBa.out.cs.final a a2 fv HQ.out.a HFR.out.1 y.w y.g
          have H3 : ∀ y : Gr wa, Calls Tryz.prog 26 #[.pointer (some ⟨q, 0, none⟩), sv a a2] y.w fun x w' => x = .returned (.bool fv) ∧ y.w.grownBy w' none := fun y => (HBa.out.kept y.g).rc.final a a2 fv HFR.out.1
          have H4 : ∀ y : Gr wa, Calls Tryz.prog 9 #[.pointer (some ⟨s, 0, none⟩), .int .i64 a] y.w fun x w' => x = .returned (.int .i64 rr) ∧ y.w.grownBy w' none := fun y => (HBa.out.kept y.g).cs.radix a rr HQ.out.a HFR.out.2
          have H5 : ∀ y : Gr wa, Calls Tryz.prog 10 #[.pointer (some ⟨q, 0, none⟩), .int .i64 a] y.w fun x w' => x = .returned (.int .i64 rr) ∧ y.w.grownBy w' none := fun y => (HBa.out.kept y.g).rc.radix a rr HFR.out.2
          have e1 : (fv != fv) = false := by cases fv <;> rfl
          go_upto_region 22 with fail
          refine wp_region_grown (by kernel_rfl) (by kernel_rfl) fun _ => ?_
          repeat (go_big_quiet_step ((first | (go_at_call 8; with_reducible exact callsGr (H1 _)) | (go_at_call 25; with_reducible exact callsGr (H2 _)) | (go_at_call 26; with_reducible exact callsGr (H3 _)) | (go_at_call 9; with_reducible exact callsGr (H4 _)) | (go_at_call 10; with_reducible exact callsGr (H5 _)))))
          refine wpQuiet_nil ?_
          rintro w9 ⟨⟨_, g9⟩, rfl⟩
          have HB9 := hideIt (HBa.out.kept g9)
          clear c0 x0 x1 H1 H2 H3 H4 H5 e1
          go_wp2
          go_roundg (gk - 1)
          case rel => exact ⟨j + 1, _, _, _, _, _, by omega, by go_num, HB9, HIa, HLa, HMa⟩
          case measure => omega
      · subst hs0
        go_wp2_with (refine wpList_load_op rfl _ rfl _ ⟨k0, a, a2, b, b2, d, d2, ⟨ck, co, cr, cb, cg, cn⟩, n, rt, bd, gd, bt⟩ rfl HX6.out.el ?_)
        go_at_call 7
        refine (act_ex HC6.out HI.out k0 a a2 b b2 d d2 ck co cr cb cg cn n rt bd gd bt HQ.out hm9 hl9).mono ?_
        rintro _ wa ⟨P2, R2, m2, S2, f2, rfl, B2, I2, l2, n2, F2⟩
        have HBa := hideIt B2
        have HIa := hideIt I2
        have HLa : Hid (f2.len ≤ j + 1) := Nat.le_trans l2 (Nat.succ_le_succ HL.out)
        have HMa : Hid (m2 ≤ j + 1) := Nat.le_trans n2 (Nat.succ_le_succ HM.out)
        have HSa : Hid (SBox wa YY a a2) := F2.fr.sbox HS6.out (fun e => e.elim HM6.out.np HM6.out.nr)
        clear B2 I2 l2 n2 F2 y18 HC6 HN6 HX6 HS6 HM6
        obtain ⟨fv, hfv⟩ : ∃ z, M.fin S2 (a, a2) = z := ⟨_, rfl⟩
        obtain ⟨rr, hrr⟩ : ∃ z, M.rad S2 a = z := ⟨_, rfl⟩
        have HFR := hideIt (And.intro hfv hrr)
        clear hfv hrr
        have hla : f2.len ≤ 60 := Nat.le_trans HLa.out hlt2
        have c0 : ∀ y : Gr wa, y.w.cell? ⟨p, 0, none⟩ = some (.pointer (some ⟨s, 0, none⟩)) := fun y => (HBa.out.kept y.g).cs.c0
        have x0 : ∀ y : Gr wa, y.w.cell? ⟨YY, 0, none⟩ = some (.int .i64 a) := fun y => (HSa.out.kept y.g).at0
        have x1 : ∀ y : Gr wa, y.w.cell? ⟨YY, 1, none⟩ = some (.int .i64 a2) := fun y => (HSa.out.kept y.g).at1
        have H1 : ∀ y : Gr wa, Calls Tryz.prog 8 #[.pointer (some ⟨p, 0, none⟩), .pointer (some ⟨q, 0, none⟩)] y.w fun x w' => x = .returned (.bool true) ∧ y.w.grownBy w' none := fun y => same10_is (HBa.out.kept y.g) hla
        have H2 : ∀ y : Gr wa, Calls Tryz.prog 25 #[.pointer (some ⟨p, 0, none⟩), sv a a2] y.w fun x w' => x = .returned (.bool fv) ∧ y.w.grownBy w' none := fun y => HBa.out.cs.final a a2 fv HQ.out.a HFR.out.1 y.w y.g
        have H3 : ∀ y : Gr wa, Calls Tryz.prog 26 #[.pointer (some ⟨q, 0, none⟩), sv a a2] y.w fun x w' => x = .returned (.bool fv) ∧ y.w.grownBy w' none := fun y => (HBa.out.kept y.g).rc.final a a2 fv HFR.out.1
        have H4 : ∀ y : Gr wa, Calls Tryz.prog 9 #[.pointer (some ⟨s, 0, none⟩), .int .i64 a] y.w fun x w' => x = .returned (.int .i64 rr) ∧ y.w.grownBy w' none := fun y => (HBa.out.kept y.g).cs.radix a rr HQ.out.a HFR.out.2
        have H5 : ∀ y : Gr wa, Calls Tryz.prog 10 #[.pointer (some ⟨q, 0, none⟩), .int .i64 a] y.w fun x w' => x = .returned (.int .i64 rr) ∧ y.w.grownBy w' none := fun y => (HBa.out.kept y.g).rc.radix a rr HFR.out.2
        have e1 : (fv != fv) = false := by cases fv <;> rfl
        go_upto_region 22 with fail
        refine wp_region_grown (by kernel_rfl) (by kernel_rfl) fun _ => ?_
        repeat (go_big_quiet_step ((first | (go_at_call 8; with_reducible exact callsGr (H1 _)) | (go_at_call 25; with_reducible exact callsGr (H2 _)) | (go_at_call 26; with_reducible exact callsGr (H3 _)) | (go_at_call 9; with_reducible exact callsGr (H4 _)) | (go_at_call 10; with_reducible exact callsGr (H5 _)))))
        refine wpQuiet_nil ?_
        rintro w9 ⟨⟨_, g9⟩, rfl⟩
        have HB9 := hideIt (HBa.out.kept g9)
        clear c0 x0 x1 H1 H2 H3 H4 H5 e1
        go_wp2
        go_roundg (gk - 1)
        case rel => exact ⟨j + 1, _, _, _, _, _, by omega, by go_num, HB9, HIa, HLa, HMa⟩
        case measure => omega
      · have hs1 : ¬ st = 0 := by omega
        have hs2 : 0 < st := hs0
        obtain ⟨x0, x1⟩ := HS6.out.tup
        go_wp2_with fail
        refine (del_both HC6.out HI.out a a2 st HQ.out.a HQ.out.a2 hl10).mono ?_
        rintro _ w7 ⟨tv, d7, e7, P1, rfl, F7, K7⟩
        have HK7 := hideIt K7
        have HS7 : Hid (SBox w7 YY a a2) := F7.fr.sbox HS6.out (fun e => e.elim HM6.out.np HM6.out.nr)
        have HX7 : Hid (OBox9 w7 wr.heap.size ⟨k0, a, a2, b, b2, d, d2, ⟨ck, co, cr, cb, cg, cn⟩, n, rt, bd, gd, bt⟩ st) := F7.fr.obox9 HX6.out (fun e => e.elim HN6.out.np HN6.out.nr)
        clear x0 x1 K7 F7
        clear y18
        have y18 := HX7.out.st
        obtain ⟨x0, x1⟩ := HS7.out.tup
        go_wp2_with fail
        refine HK7.out.mono ?_
        rintro _ w8 ⟨tv2, T, P2, R2, S2, f2, rfl, b8⟩
        clear x0 x1 y18
        have HB8 := hideIt b8
        have HS8 : Hid (SBox w8 YY a a2) := b8.bf.fr.sbox HS6.out (fun e => e.elim HM6.out.np HM6.out.nr)
        clear b8 HK7 HS7 HX7
        go_wp2_with fail
        refine (samec_is HB8.out.la HB8.out.lb HB8.out.tl).mono ?_
        rintro _ wa ⟨rfl, ga⟩
        have HBa := hideIt (HB8.out.bh.kept ga)
        have HSa := hideIt (HS8.out.kept ga)
        have HIa := hideIt HB8.out.inv
        have HLa : Hid (f2.len ≤ j + 1) := Nat.le_succ_of_le (Nat.le_trans HB8.out.len HL.out)
        have HMa : Hid (m ≤ j + 1) := Nat.le_succ_of_le HM.out
        clear ga HB8 HS8 HC6 HN6 HX6 HS6 HM6
        have d0 : (d7 != d7) = false := by cases d7 <;> rfl
        obtain ⟨fv, hfv⟩ : ∃ z, M.fin S2 (a, a2) = z := ⟨_, rfl⟩
        obtain ⟨rr, hrr⟩ : ∃ z, M.rad S2 a = z := ⟨_, rfl⟩
        have HFR := hideIt (And.intro hfv hrr)
        clear hfv hrr
        have hla : f2.len ≤ 60 := Nat.le_trans HLa.out hlt2
        have c0 : ∀ y : Gr wa, y.w.cell? ⟨p, 0, none⟩ = some (.pointer (some ⟨s, 0, none⟩)) := fun y => (HBa.out.kept y.g).cs.c0
        have x0 : ∀ y : Gr wa, y.w.cell? ⟨YY, 0, none⟩ = some (.int .i64 a) := fun y => (HSa.out.kept y.g).at0
        have x1 : ∀ y : Gr wa, y.w.cell? ⟨YY, 1, none⟩ = some (.int .i64 a2) := fun y => (HSa.out.kept y.g).at1
        have H1 : ∀ y : Gr wa, Calls Tryz.prog 8 #[.pointer (some ⟨p, 0, none⟩), .pointer (some ⟨q, 0, none⟩)] y.w fun x w' => x = .returned (.bool true) ∧ y.w.grownBy w' none := fun y => same10_is (HBa.out.kept y.g) hla
        have H2 : ∀ y : Gr wa, Calls Tryz.prog 25 #[.pointer (some ⟨p, 0, none⟩), sv a a2] y.w fun x w' => x = .returned (.bool fv) ∧ y.w.grownBy w' none := fun y => HBa.out.cs.final a a2 fv HQ.out.a HFR.out.1 y.w y.g
        have H3 : ∀ y : Gr wa, Calls Tryz.prog 26 #[.pointer (some ⟨q, 0, none⟩), sv a a2] y.w fun x w' => x = .returned (.bool fv) ∧ y.w.grownBy w' none := fun y => (HBa.out.kept y.g).rc.final a a2 fv HFR.out.1
        have H4 : ∀ y : Gr wa, Calls Tryz.prog 9 #[.pointer (some ⟨s, 0, none⟩), .int .i64 a] y.w fun x w' => x = .returned (.int .i64 rr) ∧ y.w.grownBy w' none := fun y => (HBa.out.kept y.g).cs.radix a rr HQ.out.a HFR.out.2
        have H5 : ∀ y : Gr wa, Calls Tryz.prog 10 #[.pointer (some ⟨q, 0, none⟩), .int .i64 a] y.w fun x w' => x = .returned (.int .i64 rr) ∧ y.w.grownBy w' none := fun y => (HBa.out.kept y.g).rc.radix a rr HFR.out.2
        have e1 : (fv != fv) = false := by cases fv <;> rfl
        go_upto_region 22 with fail
        refine wp_region_grown (by kernel_rfl) (by kernel_rfl) fun _ => ?_
        repeat (go_big_quiet_step ((first | (go_at_call 8; with_reducible exact callsGr (H1 _)) | (go_at_call 25; with_reducible exact callsGr (H2 _)) | (go_at_call 26; with_reducible exact callsGr (H3 _)) | (go_at_call 9; with_reducible exact callsGr (H4 _)) | (go_at_call 10; with_reducible exact callsGr (H5 _)))))
        refine wpQuiet_nil ?_
        rintro w9 ⟨⟨_, g9⟩, rfl⟩
        have HB9 := hideIt (HBa.out.kept g9)
        clear c0 x0 x1 H1 H2 H3 H4 H5 e1
        go_wp2
        go_roundg (gk - 1)
        case rel => exact ⟨j + 1, _, _, _, _, _, by omega, by go_num, HB9, HIa, HLa, HMa⟩
        case measure => omega
    · have h12 : ¬ (j < len ∧ j < 60) := hlt
      by_cases k1 : (j : Int) < (len : Int)
      · have k2 : ¬ (j : Int) < 60 := by omega
        go_wp2
        go_ret
        exact ⟨rfl, gbEnd HC.out.gr⟩
      · go_wp2
        go_ret
        exact ⟨rfl, gbEnd HC.out.gr⟩

theorem walk (x0 : Option Addr) (len0 cap0 : Nat) (w : World) (hx0 : ∀ i, i < len0 → ∃ x q st, x0 = some x ∧ El18 w (x.add (i * 19)) q ∧ w.cell? ⟨(x.add (i * 19)).block, (x.add (i * 19)).off + 18, none⟩ = some (.int .i64 st) ∧ Op18 q ∧ I64 st) :
    Calls Tryz.prog 4 #[.slice x0 len0 cap0] w fun e w' => e = .returned (.bool true) ∧ Below w.heap.size w w' :=
  core x0 len0 cap0 w (fun i hi => by
    obtain ⟨x, q, st, h1, h2, h3, h4, h5⟩ := hx0 i hi
    exact ⟨x, q, st, h1, ⟨h2, h3⟩, h4, h5⟩)

set_option maxRecDepth 100000 in
theorem lifted (os : Os) (started : os.Started) (H : Type) (enc : TypeId × Value → H) :
    ReturnsInHanded {} Tryz.checked os 4 .any (Rows.revokeDoesSpec.pre6 enc Tryz.prog Tryz.f4 Rows.revokeDoesRow.domain false) (Rows.revokeDoesSpec.post enc Tryz.prog Tryz.f4 false true false false) := by
  refine returnsInHanded_of_change (C := Tryz.checked) own started (by kernel_rfl) Tryz.func4
    (ChangeSpec.witness6 (enc := enc) (C := Tryz.checked) false ⟨#[], #[.slice none 0 0], []⟩ 8 (by kernel_rfl) (by kernel_rfl) (by kernel_rfl) (by kernel_rfl)) ?_
  intro W base args ds gs before hval0 hW hcnd _
  have hval : ∀ (j : Nat) t v, Tryz.f4.params[j]? = some t → args[j]? = some v → Value.okWide Tryz.prog W .any base t v := hval0
  have hW' := hW
  obtain ⟨p, q, hA0, hV, rfl, hfz, hnd⟩ := hW
  have hA : DataW.TrodAll enc Tryz.prog W 0 (fun _ => true) true Tryz.f4.params.toList args.toList ds p := hA0
  rw [Tryz.params4] at hA hval
  obtain ⟨v0, vs0, d0, ds0, p0, q0, hargs, rfl, rfl, h0, r0⟩ := trodAll_cons hA
  obtain ⟨rfl, rfl, rfl⟩ := trodAll_nil r0
  obtain rfl : args = #[v0] := by cases args; simp_all
  obtain ⟨rfl, rfl⟩ := trodVars_none hV
  obtain ⟨x0, len0, cap0, rfl⟩ := okWide_slice Tryz.underlying62 (hval 0 62 v0 rfl rfl)
  have hx0 := opsArg9 h0
  have k0 := h0
  have lt0 : ∀ x ∈ p0, x.block < W.heap.size := by obtain ⟨m, hm⟩ := k0; exact DataW.trod_lt m _ _ _ hm
  clear hA0 hval0
  refine (walk x0 len0 cap0 W hx0).mono fun e W' ⟨he, bel⟩ => ?_
  subst he
  exact ⟨_, rfl, _, _, _, [], _, [], hW', trodAll_mk1 (shut_bool Tryz.underlying4 _), (trodAll_cons_mk (Below.trod laidOut (by kernel_rfl) (of_decide_eq_true (by kernel_rfl)) k0 bel lt0) trodAll_mk0), rfl, bel.frame _, fun h => by cases h⟩

theorem over : Rows.revokeDoesRow.holds Tryz.pinned (OpenSpec.ofChange Rows.revokeDoesSpec) :=
  OpenClaim.holds_of_wide 4 Tryz.f4 rfl rfl rfl rfl rfl rfl rfl ⟨rfl, rfl, rfl, rfl, rfl⟩ rfl rfl rfl rfl rfl (by kernel_rfl) Tryz.func4 (by kernel_rfl)
    (of_decide_eq_true (by kernel_rfl)) (by unfold Func.isWrapper; first | (rw [if_pos (by decide +kernel)]; kernel_rfl) | (rw [if_neg (by decide +kernel)]; exact ⟨rfl, rfl⟩))
    (fun os started H enc _ => lifted os started H enc)

theorem proved : Rows.RevokeDoesSaid := over
end Go.Proofs.YtdnoidnpiaadaaaGreat.revokeDoes
namespace Go.Proofs.YtdnoidnpiaadaaaGreat
theorem revokeDoes_holds : Rows.RevokeDoesSaid := revokeDoes.proved
#print axioms revokeDoes_holds
end Go.Proofs.YtdnoidnpiaadaaaGreat
