/- RevokeEnds holds for every input: works, and then, whatever acts made the capabilities (at most fifty), of whatever slot, in however few steps a call: asked again and again, Delete and Revoke are done behind as many calls as there were capabilities at most; then the slot is empty, or (Revoke) it is as it was and nothing comes of it. No condition. -/
import Derived.Test.YtpfjcfgbecoccaaRnd
import Derived.Deep.Cut
import Derived.Deep.DeepCutAuto
import Derived.Deep.RegionHeld3
import Derived.Test.YtpfjcfgbecoccaaArgs
import Derived.ProofKit
import Derived.OpenShut
import Derived.ShutString
import Derived.ChangeOld
import Derived.Below
import Derived.Deep.Slices
namespace Go.Proofs.Ytpfjcfgbecoccaa.revokeEnds
open Go.ChangeShapes Go.WideShapes Go.ChangeAt Go.RowKit
set_option linter.unusedVariables false

theorem own : ownKnob Try.prog.godebug = none := by kernel_rfl
theorem laidOut : laidOutB Try.prog = true := by kernel_rfl

set_option maxRecDepth 10000 in
set_option maxHeartbeats 8000000 in
theorem core (xo : Option Addr) (len cap : Nat) (A B : Int) (iA : I64 A) (iB : I64 B) (a2 : Int) (b3 : Bool) (w : World) (qs : Nat → Q) (HX : Hid (Acts w xo len qs)) :
    Calls Try.prog 3 #[.slice xo len cap, sv A B, .int .i64 a2, .bool b3] w fun e w' => e = .returned (.bool true) ∧ Below w.heap.size w w' := by
  obtain ⟨U, st, hU, hU2, hst, hs1, hs6⟩ := stepsOf5 a2
  have qe := run_eql_cap
  have qg := eqGuardCap
  go_enter Try.func3, Try.ntmps3
  go_upto_region 1 with fail
  obtain ⟨W, hW, X0, g0⟩ := sboxNew w A B
  rw [hW]
  clear hW
  go_wp2_with fail
  refine (works_is _).mono ?_
  rintro _ w1 ⟨rfl, g1⟩
  have gw1 := gbTrans g0 g1
  go_wp2_with fail
  refine (made_is gw1 xo len cap qs (hideIt (fun i hi => by obtain ⟨x, h1, h2, h3⟩ := HX.out i hi; exact ⟨x, h1, h2.kept gw1, h3⟩))).mono ?_
  rintro _ w2 ⟨p, s, t, O, n, rfl, hn, A0, M0, g2, hO⟩
  obtain ⟨⟨S0, f0⟩, hX⟩ : ∃ X, M.mk11 qs (min len 50) = X := ⟨_, rfl⟩
  rw [hX] at A0 M0
  have HC2 := hideIt A0
  have HM := hideIt M0
  have HS2 : Hid (SB w2 O w.heap.size A B) := hideIt ⟨(X0.kept g1).kept g2, fun e => by have := hO _ e; have := X0.lt; have := g1.size; omega⟩
  clear A0 M0 hX hO g2 gw1 g1 X0 g0
  have c0 := HC2.out.c0
  go_wp2_with fail
  refine (HC2.out.full).mono ?_
  rintro _ w3 ⟨vf, rfl, lf, g3⟩
  have HC3 := hideIt (HC2.out.kept g3)
  have HS3 := hideIt (HS2.out.kept g3)
  obtain ⟨N, hN⟩ : ∃ N, (M.full S0).length = N := ⟨_, rfl⟩
  have HN : Hid (N = f0.len) := hideIt (by rw [← hN]; exact M.full_len_pre HM.out.i HC2.out.gs HC2.out.gt)
  have hN50 : N ≤ 50 := by rw [HN.out]; exact Nat.le_trans HM.out.len hn
  obtain ⟨fx, fc, rfl⟩ : ∃ fx fc, vf = .slice fx N fc := by
    rcases lf.form with ⟨rfl, e⟩ | ⟨g, cap, rfl, _⟩
    · rw [e] at hN; subst hN; exact ⟨_, _, rfl⟩
    · rw [hN]; exact ⟨_, _, rfl⟩
  clear lf c0 HC2 HS2 hN g3 hU hst
  obtain ⟨⟨k, o, r, b, g, u⟩, hc⟩ : ∃ c, M.gc S0 (A, B) = c := ⟨_, rfl⟩
  obtain ⟨ev, hev⟩ : ∃ e, M.getE S0 A B = e := ⟨_, rfl⟩
  have hc' : M.getC S0 A B = ⟨k, o, r, b, g, u⟩ := hc
  go_upto_region 6 with fail
  go_cut [11, 12] (fun sz se wc => ∃ Z : Nat, sz = .pointer (some ⟨Z, 0, none⟩) ∧ se = .int .i64 ev ∧ Hid (Box wc Z ⟨k, o, r, b, g, u⟩) ∧ Hid (w3.heap.size ≤ Z) ∧ Hid (w3.grownBy wc none))
  case first =>
    have T0b : Rxi w3 p 0 s w.heap.size 0 1 A B := ⟨HC3.out.c0, HS3.out.sb.at0, HS3.out.sb.at1⟩
    have T0 : Rxi w3.drew p 0 s w.heap.size 0 1 A B := T0b.kept (gbDrewN w3 1 none)
    go_region_held3 (fun w' => Rxi w' p 0 s w.heap.size 0 1 A B)
      (first | with_reducible exact T0 | (focus (refine Rxi.kept T0b ?_; (repeat (first | with_reducible exact G6 | with_reducible exact gbRefl w3 none | with_reducible refine gbDrew ?_ | with_reducible refine gbAllocN ?_ _ | with_reducible refine gbSetNew ?_ _ _ _ (by with_reducible first | exact Nat.le_refl _ | exact G6.size))); done)) | fail)
      ((first | (go_at_call 11; refine ((HC3.out.kept (by repeat (first | with_reducible exact gbRefl w3 none | with_reducible refine gbDrew ?_ | with_reducible refine gbAllocN ?_ _))).get A B _ _ _ _ _ _ _ iA hc' hev).mono ?_; rintro _ u6 ⟨rfl, g6⟩; have hc6 := gcell g6; have hf6 := gfroz g6; have G6 : w3.grownBy u6 none := (by first | exact gbTrans (gbDrewN w3 1 none) g6 | exact gbTrans (gbDrew (gbAllocN (gbRefl w3 none) _)) g6)) | fail))
    · rename_i hold
      clear hold T0
      obtain ⟨W6, hW6, Z6, g7⟩ := boxNew u6 ⟨k, o, r, b, g, u⟩
      simp only at hW6
      rw [hW6]
      go_wp2
      go_meet
      exact ⟨_, rfl, rfl, Z6, G6.size, gbTrans G6 g7⟩
    · rename_i hold
      clear hold T0
      have Z0 : Box u6 w3.heap.size C.zero := ((Box.made w3 C.zero).kept (gbDrew (gbRefl _ none))).kept g6
      obtain ⟨W6, hW6, Z6, g7⟩ := Z0.put ⟨k, o, r, b, g, u⟩
      simp only at hW6
      rw [hW6]
      go_wp2
      go_meet
      exact ⟨_, rfl, rfl, Z6, Nat.le_refl _, gbNew (gbTrans (gbAny G6 _) g7) (Nat.le_refl _)⟩
  case rest =>
  obtain ⟨Z6, rfl, rfl, HZ6, hZ6, G6⟩ := hcut
  have HC6 := hideIt (HC3.out.kept G6.out)
  have HS6 := hideIt (HS3.out.kept G6.out)
  have HB6 : Hid (BB wc O Z6 ⟨k, o, r, b, g, u⟩) := hideIt ⟨HZ6.out, fun e => absurd (HC3.out.lo Z6 e).2 (Nat.not_lt.2 hZ6.out)⟩
  have z0 := HZ6.out.at0
  simp only at z0
  clear HC3 HS3 HZ6 hZ6 G6
  cases hv1 : (ev != 0) with
  | true =>
    go_wp2
    go_ret
    exact ⟨rfl, gbEnd HC6.out.gr⟩
  | false =>
  cases hv2 : (k == 0) with
  | true =>
    go_wp2
    go_ret
    exact ⟨rfl, gbEnd HC6.out.gr⟩
  | false =>
  have hk : k ≠ 0 := by simpa using hv2
  have hkn : (k != 0) = true := by simpa using hk
  have HSm : Hid (M.Sm S0 f0 (A, B)) := hideIt (M.Wks.sm HM.out.w (A, B))
  have Hc := hideIt hc
  clear hc hc' hev
  go_wp2
  go_loopg [13] (N + 1) (fun y i wr => ∃ (j : Nat) (S : St) (f : T9.Fo) (O : Nat → Prop), j + y = N + 1 ∧ i = .int .i64 j ∧ Hid (Cs w wr O p s t 3 S f) ∧ Hid (SB wr O w.heap.size A B) ∧ Hid (BB wr O Z6 ⟨k, o, r, b, g, u⟩) ∧ Hid (M.Inv S f) ∧ Hid (M.gc S (A, B) = ⟨k, o, r, b, g, u⟩) ∧ Hid (b3 = true → M.Sm S f (A, B)) ∧ f.len + j ≤ N)
  case atStart => exact ⟨0, S0, f0, O, by omega, rfl, HC6, HS6, HB6, hideIt HM.out.i, Hc, hideIt (fun _ => HSm.out), by rw [HN.out]; exact Nat.le_refl _⟩
  case round =>
    clear HC6 HS6 HB6 HSm Hc HM HN z0
    obtain ⟨j, S, f, O', hj, rfl, HC, HS, HB, HI, Hc, HSm, hlen⟩ := hrel
    have hat : (M.gc S (A, B)).k ≠ 0 := by rw [Hc.out]; exact hk
    have hpos : 1 ≤ f.len := by unfold T9.Fo.len; exact List.length_pos_of_mem ((HI.out.inv _).2 hat)
    have hle : (j : Int) ≤ (N : Int) := by omega
    have hm : f.len ≤ 1000 := by omega
    have z0 := HS.out.sb.at0
    have z1 := HS.out.sb.at1
    cases b3 with
    | true =>
      obtain ⟨⟨q, y⟩, hr⟩ : ∃ r, M.revR S f (A, B) (st : Int) = r := ⟨_, rfl⟩
      have HR := hideIt (M.rev_one HI.out HC.out.gs HC.out.gt hat (HSm.out rfl) hr)
      go_wp2_with fail
      refine (HC.out.revoke_yes HI.out A B st iA iB hm (M.face_ok hat hs1 (by omega)) q y hr).mono ?_
      rintro _ w7 ⟨tv, O7, rfl, A7, hs, F, tl, hno⟩
      have HC7 := hideIt A7
      have HS7 := hideIt (HS.out.call' F hs)
      have HB7 := hideIt (HB.out.call' F hs)
      have hcy : M.getC y.S A B = ⟨k, o, r, b, g, u⟩ := HR.out.at_.trans Hc.out
      have hey : M.getE y.S A B = 0 := M.getE_ok (M.gc_th (show (M.gc y.S (A, B)).k ≠ 0 by rw [show M.gc y.S (A, B) = _ from hcy]; exact hk))
      clear A7 hs F tl hno HC HS HB hr HI HSm z0 z1
      cases q with
      | true =>
        have hl := HR.out.more rfl
        go_wp2
        go_roundg (gk - 1)
        case rel => exact ⟨j + 1, y.S, y.f, O7, by omega, by go_num, HC7, HS7, HB7, hideIt HR.out.ok.i, hideIt hcy, hideIt (fun _ => HR.out.sm), by omega⟩
        case measure => omega
      | false =>
        have hkin := HR.out.done rfl
        have hm7 : y.f.len ≤ 1000 := Nat.le_trans HR.out.le hm
        obtain ⟨wo, hwo⟩ : ∃ wo, wo = w7 := ⟨_, rfl⟩
        go_upto_region 19 with fail
        go_cut [15, 16] from 83 to 91 (fun sz se wc => ∃ Z : Nat, sz = .pointer (some ⟨Z, 0, none⟩) ∧ se = .int .i64 0 ∧ Hid (Box wc Z ⟨k, o, r, b, g, u⟩) ∧ Hid (w7.heap.size ≤ Z) ∧ Hid (w7.grownBy wc none))
        case first =>
          have T0b : Rxi w7 p 0 s w.heap.size 0 1 A B := ⟨HC7.out.c0, HS7.out.sb.at0, HS7.out.sb.at1⟩
          have T0 : Rxi w7.drew p 0 s w.heap.size 0 1 A B := T0b.kept (gbDrewN w7 1 none)
          go_region_held3 (fun w' => Rxi w' p 0 s w.heap.size 0 1 A B)
            (first | with_reducible exact T0 | (focus (refine Rxi.kept T0b ?_; (repeat (first | with_reducible exact G6 | with_reducible exact gbRefl w7 none | with_reducible refine gbDrew ?_ | with_reducible refine gbAllocN ?_ _ | with_reducible refine gbSetNew ?_ _ _ _ (by with_reducible first | exact Nat.le_refl _ | exact G6.size))); done)) | fail)
            ((first | (go_at_call 11; refine ((HC7.out.kept (by repeat (first | with_reducible exact gbRefl w7 none | with_reducible refine gbDrew ?_ | with_reducible refine gbAllocN ?_ _))).get A B _ _ _ _ _ _ _ iA hcy hey).mono ?_; rintro _ u6 ⟨rfl, g6⟩; have hc6 := gcell g6; have hf6 := gfroz g6; have G6 : w7.grownBy u6 none := (by first | exact gbTrans (gbDrewN w7 1 none) g6 | exact gbTrans (gbDrew (gbAllocN (gbRefl w7 none) _)) g6)) | fail))
          · rename_i hold
            clear hold T0
            obtain ⟨W6, hW6, Z6, g7⟩ := boxNew u6 ⟨k, o, r, b, g, u⟩
            simp only at hW6
            rw [hW6]
            go_wp2
            go_meet
            exact ⟨_, rfl, rfl, Z6, G6.size, gbTrans G6 g7⟩
          · rename_i hold
            clear hold T0
            have Z0 : Box u6 w7.heap.size C.zero := ((Box.made w7 C.zero).kept (gbDrew (gbRefl _ none))).kept g6
            obtain ⟨W6, hW6, Z6, g7⟩ := Z0.put ⟨k, o, r, b, g, u⟩
            simp only at hW6
            rw [hW6]
            go_wp2
            go_meet
            exact ⟨_, rfl, rfl, Z6, Nat.le_refl _, gbNew (gbTrans (gbAny G6 _) g7) (Nat.le_refl _)⟩
        case rest =>
        obtain ⟨Z9, rfl, rfl, HZ9, hZ9, G9⟩ := hcut
        have HC9 := hideIt (HC7.out.kept G9.out)
        have HS9 := hideIt (HS7.out.kept G9.out)
        have HB9 := hideIt (HB7.out.kept G9.out)
        have y0 := HZ9.out.at0
        simp only at y0
        have hsame : M.eq ⟨k, o, r, b, g, u⟩ ⟨k, o, r, b, g, u⟩ = true := M.eq_iff.2 rfl
        clear hwo
        go_upto_region 21 with fail
        have T0 : Six wc.drew Z9 ⟨k, o, r, b, g, u⟩ ∧ Six wc.drew Z6 ⟨k, o, r, b, g, u⟩ ∧ Ptr wc.drew p 1 t ∧ Two wc.drew w.heap.size A B := ⟨(HZ9.out.kept (gbDrewN wc 1 none)).tup, (HB9.out.kept (gbDrewN wc 1 none)).bx.tup, (HC9.out.kept (gbDrewN wc 1 none)).c1, (HS9.out.kept (gbDrewN wc 1 none)).sb.tup⟩
        go_region_held3 (fun w' => Six w' Z9 ⟨k, o, r, b, g, u⟩ ∧ Six w' Z6 ⟨k, o, r, b, g, u⟩ ∧ Ptr w' p 1 t ∧ Two w' w.heap.size A B)
          (first | with_reducible exact T0 | with_reducible exact T1 | fail)
          ((first | (go_at_call 14; refine ((HC9.out.kept (gbDrewN wc 1 none)).kin A B iA iB hm7).mono ?_; rintro _ w8 ⟨vk, rfl, lk, g8⟩; rw [hkin] at lk; obtain ⟨kx, kc, rfl⟩ : ∃ kx kc, vk = .slice kx 0 kc := (by rcases lk.form with ⟨rfl, _⟩ | ⟨g', cap', rfl, _⟩; exact ⟨_, _, rfl⟩; exact ⟨_, _, rfl⟩); have G8 := gbTrans (gbDrewN wc 1 none) g8; have HC8 := hideIt (HC9.out.kept G8); have T1 : Six w8 Z9 ⟨k, o, r, b, g, u⟩ ∧ Six w8 Z6 ⟨k, o, r, b, g, u⟩ ∧ Ptr w8 p 1 t ∧ Two w8 w.heap.size A B := ⟨(HZ9.out.kept G8).tup, (HB9.out.kept G8).bx.tup, HC8.out.c1, (HS9.out.kept G8).sb.tup⟩; clear g8 lk) | fail))
        go_wp2
        go_ret
        exact ⟨rfl, gbEnd HC8.out.gr⟩
    | false =>
      obtain ⟨⟨q, y⟩, hr⟩ : ∃ r, M.delR S f (A, B) (st : Int) = r := ⟨_, rfl⟩
      have HR := hideIt (M.del_one HI.out HC.out.gs HC.out.gt hat hr)
      go_wp2_with fail
      refine (HC.out.delete_yes HI.out A B st iA iB hm (M.face_ok hat hs1 (by omega)) q y hr).mono ?_
      rintro _ w7 ⟨tv, O7, rfl, A7, hs, F, tl, hno⟩
      have HC7 := hideIt A7
      have HS7 := hideIt (HS.out.call' F hs)
      have HB7 := hideIt (HB.out.call' F hs)
      clear A7 hs F tl hno HC HS HB hr HI HSm z0 z1
      cases q with
      | true =>
        have hl := HR.out.more rfl
        go_wp2
        go_roundg (gk - 1)
        case rel => exact ⟨j + 1, y.S, y.f, O7, by omega, by go_num, HC7, HS7, HB7, hideIt HR.out.ok.i, hideIt (hl.1.trans Hc.out), hideIt (fun e => by cases e), by omega⟩
        case measure => omega
      | false =>
        have hcy : M.getC y.S A B = ⟨0, 0, 0, 0, 0, 0⟩ := HR.out.done rfl
        obtain ⟨e9, hey⟩ : ∃ e, M.getE y.S A B = e := ⟨_, rfl⟩
        go_upto_region 19 with fail
        go_cut [15, 16] from 83 to 91 (fun sz se wc => ∃ Z : Nat, sz = .pointer (some ⟨Z, 0, none⟩) ∧ se = .int .i64 e9 ∧ Hid (Box wc Z ⟨0, 0, 0, 0, 0, 0⟩) ∧ Hid (w7.heap.size ≤ Z) ∧ Hid (w7.grownBy wc none))
        case first =>
          have T0b : Rxi w7 p 0 s w.heap.size 0 1 A B := ⟨HC7.out.c0, HS7.out.sb.at0, HS7.out.sb.at1⟩
          have T0 : Rxi w7.drew p 0 s w.heap.size 0 1 A B := T0b.kept (gbDrewN w7 1 none)
          go_region_held3 (fun w' => Rxi w' p 0 s w.heap.size 0 1 A B)
            (first | with_reducible exact T0 | (focus (refine Rxi.kept T0b ?_; (repeat (first | with_reducible exact G6 | with_reducible exact gbRefl w7 none | with_reducible refine gbDrew ?_ | with_reducible refine gbAllocN ?_ _ | with_reducible refine gbSetNew ?_ _ _ _ (by with_reducible first | exact Nat.le_refl _ | exact G6.size))); done)) | fail)
            ((first | (go_at_call 11; refine ((HC7.out.kept (by repeat (first | with_reducible exact gbRefl w7 none | with_reducible refine gbDrew ?_ | with_reducible refine gbAllocN ?_ _))).get A B _ _ _ _ _ _ _ iA hcy hey).mono ?_; rintro _ u6 ⟨rfl, g6⟩; have hc6 := gcell g6; have hf6 := gfroz g6; have G6 : w7.grownBy u6 none := (by first | exact gbTrans (gbDrewN w7 1 none) g6 | exact gbTrans (gbDrew (gbAllocN (gbRefl w7 none) _)) g6)) | fail))
          · rename_i hold
            clear hold T0
            obtain ⟨W6, hW6, Z6, g7⟩ := boxNew u6 ⟨0, 0, 0, 0, 0, 0⟩
            simp only at hW6
            rw [hW6]
            go_wp2
            go_meet
            exact ⟨_, rfl, rfl, Z6, G6.size, gbTrans G6 g7⟩
          · rename_i hold
            clear hold T0
            have Z0 : Box u6 w7.heap.size C.zero := ((Box.made w7 C.zero).kept (gbDrew (gbRefl _ none))).kept g6
            obtain ⟨W6, hW6, Z6, g7⟩ := Z0.put ⟨0, 0, 0, 0, 0, 0⟩
            simp only at hW6
            rw [hW6]
            go_wp2
            go_meet
            exact ⟨_, rfl, rfl, Z6, Nat.le_refl _, gbNew (gbTrans (gbAny G6 _) g7) (Nat.le_refl _)⟩
        case rest =>
        obtain ⟨Z9, rfl, rfl, HZ9, hZ9, G9⟩ := hcut
        have HC9 := hideIt (HC7.out.kept G9.out)
        obtain ⟨y0, y1, y2, y3, y4, y5, _, _⟩ := HZ9.out
        simp only at y0 y1 y2 y3 y4 y5
        have hsame : M.eq ⟨0, 0, 0, 0, 0, 0⟩ ⟨0, 0, 0, 0, 0, 0⟩ = true := M.eq_iff.2 rfl
        cases h6 : (e9 == 6) with
        | true =>
          go_wp2
          go_ret
          exact ⟨rfl, gbEnd HC9.out.gr⟩
        | false =>
          go_wp2
          go_ret
          exact ⟨rfl, gbEnd HC9.out.gr⟩
theorem walk (x0 : Option Addr) (len0 cap0 : Nat) (A1 B1 : Int) (ia1 : I64 A1) (ib1 : I64 B1) (a2 : Int) (b3 : Bool) (w : World) (hx0 : ∀ i, i < len0 → ∃ x q st, x0 = some x ∧ El18 w (x.add (i * 19)) q ∧ w.cell? ⟨(x.add (i * 19)).block, (x.add (i * 19)).off + 18, none⟩ = some (.int .i64 st) ∧ Op18 q ∧ I64 st) :
    Calls Try.prog 3 #[.slice x0 len0 cap0, sv A1 B1, .int .i64 a2, .bool b3] w fun e w' => e = .returned (.bool true) ∧ Below w.heap.size w w' := by
  obtain ⟨qs, h⟩ := actsOf hx0
  exact core x0 len0 cap0 A1 B1 ia1 ib1 a2 b3 w qs (hideIt h)

set_option maxRecDepth 100000 in
theorem lifted (os : Os) (started : os.Started) (H : Type) (enc : TypeId × Value → H) :
    ReturnsInHanded {} Try.checked os 3 .any (Rows.revokeEndsSpec.pre6 enc Try.prog Try.f3 Rows.revokeEndsRow.domain false) (Rows.revokeEndsSpec.post enc Try.prog Try.f3 false true false false) := by
  refine returnsInHanded_of_change (C := Try.checked) own started (by kernel_rfl) Try.func3
    (ChangeSpec.witness6 (enc := enc) (C := Try.checked) false ⟨#[], #[.slice none 0 0, .agg #[.int .i64 0, .int .i64 0], .int .i64 0, .bool false], []⟩ 8 (by kernel_rfl) (by kernel_rfl) (by kernel_rfl) (by kernel_rfl)) ?_
  intro W base args ds gs before hval0 hW hcnd _
  have hval : ∀ (j : Nat) t v, Try.f3.params[j]? = some t → args[j]? = some v → Value.okWide Try.prog W .any base t v := hval0
  have hW' := hW
  obtain ⟨p, q, hA0, hV, rfl, hfz, hnd⟩ := hW
  have hA : DataW.TrodAll enc Try.prog W 0 (fun _ => true) true Try.f3.params.toList args.toList ds p := hA0
  rw [Try.params3] at hA hval
  obtain ⟨v0, vs0, d0, ds0, p0, q0, hargs, rfl, rfl, h0, r0⟩ := trodAll_cons hA
  obtain ⟨v1, vs1, d1, ds1, p1, q1, rfl, rfl, rfl, h1, r1⟩ := trodAll_cons r0
  obtain ⟨v2, vs2, d2, ds2, p2, q2, rfl, rfl, rfl, h2, r2⟩ := trodAll_cons r1
  obtain ⟨v3, vs3, d3, ds3, p3, q3, rfl, rfl, rfl, h3, r3⟩ := trodAll_cons r2
  obtain ⟨rfl, rfl, rfl⟩ := trodAll_nil r3
  obtain rfl : args = #[v0, v1, v2, v3] := by cases args; simp_all
  obtain ⟨rfl, rfl⟩ := trodVars_none hV
  obtain ⟨x0, len0, cap0, rfl⟩ := okWide_slice Try.underlying22 (hval 0 22 v0 rfl rfl)
  have hx0 := opsArg h0
  have k0 := h0
  have lt0 : ∀ x ∈ p0, x.block < W.heap.size := by obtain ⟨m, hm⟩ := k0; exact DataW.trod_lt m _ _ _ hm
  obtain ⟨A1, B1, rfl, ia1, ib1⟩ := slotArg (hval 1 24 v1 rfl rfl) h1
  have k1 := h1
  have lt1 : ∀ x ∈ p1, x.block < W.heap.size := by obtain ⟨m, hm⟩ := k1; exact DataW.trod_lt m _ _ _ hm
  obtain ⟨a2, rfl, rfl, rfl, w2⟩ := open_int Try.underlying3 (hval 2 3 v2 rfl rfl) h2
  obtain ⟨b3, rfl, rfl, rfl⟩ := open_bool Try.underlying4 (hval 3 4 v3 rfl rfl) h3
  clear hA0 hval0
  refine (walk x0 len0 cap0 A1 B1 ia1 ib1 a2 b3 W hx0).mono fun e W' ⟨he, bel⟩ => ?_
  subst he
  exact ⟨_, rfl, _, _, _, [], _, [], hW', trodAll_mk1 (shut_bool Try.underlying4 _), (trodAll_cons_mk (Below.trod laidOut (by kernel_rfl) (of_decide_eq_true (by kernel_rfl)) k0 bel lt0) (trodAll_cons_mk (Below.trod laidOut (by kernel_rfl) (of_decide_eq_true (by kernel_rfl)) k1 bel lt1) (trodAll_cons_mk (shut_int Try.underlying3 w2) (trodAll_cons_mk (shut_bool Try.underlying4 _) trodAll_mk0)))), rfl, bel.frame _, fun h => by cases h⟩

theorem over : Rows.revokeEndsRow.holds Try.pinned (OpenSpec.ofChange Rows.revokeEndsSpec) :=
  OpenClaim.holds_of_wide 3 Try.f3 rfl rfl rfl rfl rfl rfl rfl ⟨rfl, rfl, rfl, rfl, rfl⟩ rfl rfl rfl rfl rfl (by kernel_rfl) Try.func3 (by kernel_rfl)
    (of_decide_eq_true (by kernel_rfl)) (by unfold Func.isWrapper; first | (rw [if_pos (by decide +kernel)]; kernel_rfl) | (rw [if_neg (by decide +kernel)]; exact ⟨rfl, rfl⟩))
    (fun os started H enc _ => lifted os started H enc)

theorem proved : Rows.RevokeEndsSaid := over
end Go.Proofs.Ytpfjcfgbecoccaa.revokeEnds
namespace Go.Proofs.Ytpfjcfgbecoccaa
theorem revokeEnds_holds : Rows.RevokeEndsSaid := revokeEnds.proved
#print axioms revokeEnds_holds
end Go.Proofs.Ytpfjcfgbecoccaa
