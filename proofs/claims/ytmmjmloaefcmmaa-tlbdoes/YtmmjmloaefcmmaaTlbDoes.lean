/- TlbDoes: for every memory and every list of acts (walks, fills, drops, flushes, words that change): each answer of the program's Tlb, and what is kept, are the document's. No condition. -/
import Derived.Test.YtmmjmloaefcmmaaBth
import Derived.Deep.CutRange
import Derived.Deep.DeepCutAuto
import Derived.Deep.CutBlock
import Derived.Deep.RegionHeld3
import Derived.Test.YtmmjmloaefcmmaaArgs
import Derived.ProofKit
import Derived.OpenShut
import Derived.ShutString
import Derived.ChangeOld
import Derived.Below
import Derived.Deep.Slices
namespace Go.Proofs.Ytmmjmloaefcmmaa.tlbDoes
open Go.ChangeShapes Go.WideShapes Go.ChangeAt Go.RowKit
set_option linter.unusedVariables false

theorem own : ownKnob Try.prog.godebug = none := by kernel_rfl
theorem laidOut : laidOutB Try.prog = true := by kernel_rfl

set_option maxHeartbeats 8000000 in
set_option maxRecDepth 100000 in
theorem core (a0 : Int) (x1 : Option Addr) (len1 cap1 : Nat) (x2 : Option Addr) (len2 cap2 : Nat) (n : Nat) (w : World) (n1 : n ≤ 320)
    (HM : ∀ w', w.grownBy w' none → Calls Try.prog 8 #[.int .i64 a0, .slice x1 len1 cap1] w' fun e w'' => ∃ p b q c F, e = .returned (.tuple #[.pointer (some ⟨p, 0, none⟩), .pointer (some ⟨q, 0, none⟩), .bool true]) ∧ Two w' w'' p b q c n F)
    (hx2 : Acts9 w x2 len2) :
    Calls Try.prog 3 #[.int .i64 a0, .slice x1 len1 cap1, .slice x2 len2 cap2] w fun e w' => e = .returned (.bool true) ∧ w.grownBy w' none := by
  have HX2 := hideIt hx2
  have qe := eqGuard_r
  have qn := run_neq_r
  clear hx2
  go_enter Try.func3, Try.ntmps3
  go_wp2_with fail
  refine (HM _ (gbRefl _ _)).mono ?_
  rintro e w2 ⟨p, b, q, c, F, rfl, T2⟩
  have T2 := hideIt T2
  clear HM
  go_wp2_with fail
  refine (tnew_is w _ T2.out.g).mono ?_
  rintro e w3 ⟨t, O, rfl, T3, g3, l3⟩
  have T3 := hideIt T3
  obtain ⟨W4, hW4⟩ : ∃ W4, w3.alloc (.cells #[.slice none 0 0] 33) = W4 := ⟨_, rfl⟩
  have H4 : Hid (Wb w W4 O (fun i => i = w3.heap.size) t w3.heap.size p b q c n F F [] []) := hideIt (by
    have ga : w3.grownBy W4 none := by rw [← hW4]; exact gbAlloc _ _ _
    have hl : w3.heap.size < W4.heap.size := by rw [← hW4]; simp
    have T := T2.out.kept (gbTrans g3 ga)
    have l1 := T2.out.m.plt
    have l2 := T2.out.m.blt
    have l3' := T2.out.r.plt
    have l4 := T2.out.r.blt
    have s3 := g3.size
    have s0 := T3.out.gr.size
    refine ⟨T3.out.kept ga, ⟨⟨.slice none 0 0, by rw [← hW4]; exact heap_alloc_new w3 _, KL.nil _ _ _, fun k hk => by cases hk⟩, rfl, fun i hi => by subst hi; exact ⟨s0, hl⟩, gbTrans T3.out.gr ga, Good.nil⟩, T.m, T.r, T.p0, T.b0, T.q0, T.c0, T.pc, T.bq, T.bc, fun i hi e => by have := (T3.out.lo i hi).2; omega, ⟨fun e => ?_, fun e => ?_, fun e => ?_, fun e => ?_⟩, by omega, by omega, by omega, by omega⟩
    · have := l3 _ e; omega
    · have := l3 _ e; omega
    · have := l3 _ e; omega
    · have := l3 _ e; omega)
  clear T2 T3 g3 l3
  obtain ⟨xq, hxq⟩ : ∃ xq, w3.heap.size = xq := ⟨_, rfl⟩
  rw [hxq] at H4
  go_wp2_with fail
  clear hW4 hxq
  go_loopg [12] 60 (fun gk i wr => ∃ (j : Nat) (O R : Nat → Prop) (L : List K) (F : Nat → Nat), j + gk = 60 ∧ i = .int .i64 j ∧ Hid (Wb w wr O R t xq p b q c n F F L L))
  case atStart => exact ⟨0, _, _, [], F, rfl, rfl, H4⟩
  case round =>
    obtain ⟨j, O, R, L, F, hj, rfl, H⟩ := hrel
    clear H4
    by_cases hlt : j < len2 ∧ j < 60
    · obtain ⟨c1, c2⟩ := hlt
      obtain ⟨x, r, rfl, hE, hv⟩ := HX2.out j c1
      have hdj : decide ((j : Int) < 60) = true := by simp; omega
      obtain ⟨r0, r1, r2, r3, r4, r5, r6, r7, r8⟩ := hE.kept H.out.tp.gr
      clear hE
      go_upto_region 9 with fail
      obtain ⟨W, hW, Y, gY⟩ := oboxNew wr r
      rw [hW]
      clear hW r0 r1 r2 r3 r4 r5 r6 r7 r8
      have HW : Hid (We w W O R t xq p b q c n F F L L wr.heap.size r) := hideIt ⟨H.out.kept gY, Y, fun e => by have := (H.out.tp.lo _ e).2; omega, fun e => by have := (H.out.tr.lo _ e).2; omega, fun e => by have := H.out.m.blt; omega, fun e => by have := H.out.r.blt; omega⟩
      clear H gY Y
      obtain ⟨yb, hyb⟩ : ∃ yb, wr.heap.size = yb := ⟨_, rfl⟩
      rw [hyb] at HW
      rw [hyb]
      clear hyb
      obtain ⟨y0, y1, y2, y3, y4, y5, y6, y7, y8, yl⟩ := HW.out.ob
      go_upto_block 2 with fail
      go_cut [14, 15, 16, 17] from 52 to 150 (fun _ _ _ _ wc => ∃ (O R : Nat → Prop) (L : List K) (F : Nat → Nat), Hid (We w wc O R t xq p b q c n F F L L yb r))
      case first =>
        obtain ⟨H, hH⟩ : ∃ H : Hid (We w W O R t xq p b q c n F F L L yb r), True := ⟨HW, trivial⟩
        clear HW
        by_cases k0 : (r.k == 0) = true
        · obtain ⟨⟨z, f, L'⟩, hk⟩ : ∃ y, M.kt n F L r.s r.d r.a r.w = y := ⟨_, rfl⟩
          replace hk := hideIt hk
          go_wp2_with fail
          refine (tto_is H.out.wb.tp H.out.wb.m r.s r.d r.a r.w z f hk.out).mono ?_
          rintro e w5 ⟨rfl, T5, F5⟩
          have H5 := hideIt (H.out.prog T5 F5)
          clear H T5 F5
          clear y0 y1 y2 y3 y4 y5 y6 y7 y8 yl
          obtain ⟨y0, y1, y2, y3, y4, y5, y6, y7, y8, yl⟩ := H5.out.ob
          go_wp2_with fail
          refine (rtto_is H5.out.wb.tr H5.out.wb.r r.s r.d r.a r.w z f hk.out).mono ?_
          rintro e w6 ⟨rfl, T6, F6⟩
          have H6 := hideIt (H5.out.doc T6 F6)
          clear H5 T6 F6 hk
          clear y0 y1 y2 y3 y4 y5 y6 y7 y8 yl
          go_wp2
          go_meet
          exact ⟨_, _, _, _, H6⟩
        · have k0 : (r.k == 0) = false := by simpa using k0
          by_cases k1 : (r.k == 1) = true
          · obtain ⟨f, hf⟩ : ∃ f, M.kfe r.s r.a ⟨r.e.v, r.e.w, r.e.a⟩ = f := ⟨_, rfl⟩
            replace hf := hideIt hf
            have T0 := H.out.ob.fil
            have Hd := hideIt (H.out.kept (gbDrew (gbRefl _ none)))
            have T1 := Hd.out.ob.fil
            go_upto_region 16 with fail
            go_region_held3 (fun w' => Fil w' yb r)
              (first | with_reducible exact T0 | with_reducible exact T1 | with_reducible exact T5 | with_reducible exact T6 | with_reducible exact T7 | fail)
              ((first
                | (go_at_call 14; refine (rfill_is H6.out.wb.tr r.s r.a r.e.v r.e.w r.e.a f hf.out).mono ?_; rintro e w7 ⟨rfl, Z7, F7⟩; have H7 := hideIt (H6.out.doc Z7 F7); have T7 := H7.out.ob.fil; clear Z7 F7)
                | (go_at_call 12; refine (fill_is H5.out.wb.tp r.s r.a r.e.v r.e.w r.e.a f hf.out).mono ?_; rintro e w6 ⟨rfl, Z6, F6⟩; have H6 := hideIt (H5.out.prog Z6 F6); have T6 := H6.out.ob.fil; clear Z6 F6)
                | (go_at_call 13; refine (lawTo_any r.e.v r.e.w r.e.a _).mono ?_; rintro e w5 ⟨rfl, g5⟩; have H5 := hideIt (Hd.out.kept g5); have T5 := H5.out.ob.fil)))
            rename_i hold
            clear hold T0 T1 T5 T6 T7
            clear y0 y1 y2 y3 y4 y5 y6 y7 y8 yl
            go_wp2
            go_meet
            exact ⟨_, _, _, _, H7⟩
          · have k1 : (r.k == 1) = false := by simpa using k1
            by_cases k2 : (r.k == 2) = true
            · go_wp2_with fail
              refine (drop_is H.out.wb.tp r.s r.a).mono ?_
              rintro e w5 ⟨rfl, T5, F5⟩
              have H5 := hideIt (H.out.prog T5 F5)
              clear H T5 F5
              clear y0 y1 y2 y3 y4 y5 y6 y7 y8 yl
              obtain ⟨y0, y1, y2, y3, y4, y5, y6, y7, y8, yl⟩ := H5.out.ob
              go_wp2_with fail
              refine (rdrop_is H5.out.wb.tr r.s r.a).mono ?_
              rintro e w6 ⟨rfl, T6, F6⟩
              have H6 := hideIt (H5.out.doc T6 F6)
              clear H5 T6 F6
              clear y0 y1 y2 y3 y4 y5 y6 y7 y8 yl
              go_wp2
              go_meet
              exact ⟨_, _, _, _, H6⟩
            · have k2 : (r.k == 2) = false := by simpa using k2
              by_cases k3 : (r.k == 3) = true
              · go_wp2_with fail
                refine (flush_is H.out.wb.tp r.s).mono ?_
                rintro e w5 ⟨rfl, T5, F5⟩
                have H5 := hideIt (H.out.prog T5 F5)
                clear H T5 F5
                clear y0 y1 y2 y3 y4 y5 y6 y7 y8 yl
                obtain ⟨y0, y1, y2, y3, y4, y5, y6, y7, y8, yl⟩ := H5.out.ob
                go_wp2_with fail
                refine (rflush_is H5.out.wb.tr r.s).mono ?_
                rintro e w6 ⟨rfl, T6, F6⟩
                have H6 := hideIt (H5.out.doc T6 F6)
                clear H5 T6 F6
                clear y0 y1 y2 y3 y4 y5 y6 y7 y8 yl
                go_wp2
                go_meet
                exact ⟨_, _, _, _, H6⟩
              · have k3 : (r.k == 3) = false := by simpa using k3
                by_cases k4 : (r.k == 4) = true
                · obtain ⟨f, hf⟩ : ∃ f, Y2.errP n r.a 1 = f := ⟨_, rfl⟩
                  replace hf := hideIt hf
                  have T0 := H.out.ob.ptt
                  have Hd := hideIt (H.out.kept (gbDrew (gbRefl _ none)))
                  have T1 := Hd.out.ob.ptt
                  go_upto_region 25 with fail
                  go_region_held3 (fun w' => Ptt w' yb r)
                    (first | with_reducible exact T0 | with_reducible exact T1 | with_reducible exact T5 | with_reducible exact T6 | fail)
                    ((first
                      | (go_at_call 20; refine (H5.out.wb.r.putAny r.a r.v hv f hf.out).mono ?_; rintro e w6 ⟨rfl, Z6, g6⟩; have H6 := hideIt (H5.out.rput Z6 g6); have T6 := H6.out.ob.ptt; clear Z6 g6)
                      | (go_at_call 19; refine (Hd.out.wb.m.putAny r.a r.v hv f hf.out).mono ?_; rintro e w5 ⟨rfl, Z5, g5⟩; have H5 := hideIt (Hd.out.mput Z5 g5); have T5 := H5.out.ob.ptt; clear Z5 g5)))
                  rename_i hold
                  clear hold T0 T1 T5 T6
                  clear y0 y1 y2 y3 y4 y5 y6 y7 y8 yl
                  go_wp2
                  go_meet
                  exact ⟨_, _, _, _, H6⟩
                · have k4 : (r.k == 4) = false := by simpa using k4
                  clear y0 y1 y2 y3 y4 y5 y6 y7 y8 yl
                  go_wp2
                  go_meet
                  exact ⟨_, _, _, _, H⟩
      case rest =>
      obtain ⟨O, R, L, F, H⟩ := hcut
      clear HW y0 y1 y2 y3 y4 y5 y6 y7 y8 yl
      obtain ⟨⟨⟨v, o, a⟩, z⟩, hk⟩ : ∃ y, M.kg L r.s r.a = y := ⟨_, rfl⟩
      replace hk := hideIt hk
      obtain ⟨y0, y1, y2, y3, y4, y5, y6, y7, y8, yl⟩ := H.out.ob
      go_wp2_with fail
      refine (get_is H.out.wb.tp r.s r.a ⟨v, o, a⟩ z hk.out).mono ?_
      rintro e w5 ⟨rfl, g5⟩
      go_upto_region 28 with fail
      obtain ⟨W6, hW6, X6, h6⟩ := boxNew w5 ⟨v, o, a⟩ 44
      simp only at hW6
      rw [hW6]
      clear hW6 y0 y1 y2 y3 y4 y5 y6 y7 y8 yl
      have H6 := hideIt (H.out.kept (gbTrans g5 h6))
      clear H g5 h6
      obtain ⟨y0, y1, y2, y3, y4, y5, y6, y7, y8, yl⟩ := H6.out.ob
      go_wp2_with fail
      refine (rget_is H6.out.wb.tr r.s r.a ⟨v, o, a⟩ z hk.out).mono ?_
      rintro e w7 ⟨rfl, g7⟩
      go_upto_region 29 with fail
      obtain ⟨W8, hW8, Z8, h8⟩ := boxNew w7 ⟨v, o, a⟩ 35
      simp only at hW8
      rw [hW8]
      clear hW8 y0 y1 y2 y3 y4 y5 y6 y7 y8 yl hk
      have H8 := hideIt (H6.out.kept (gbTrans g7 h8))
      obtain ⟨e0, e1, e2⟩ := ((X6.kept g7).kept h8).all
      obtain ⟨f0, f1, f2⟩ := Z8.all
      simp only at e0 e1 e2 f0 f1 f2
      clear H6 X6 Z8 g7 h8
      obtain ⟨l, hl⟩ : ∃ l, L.length = l := ⟨_, rfl⟩
      obtain ⟨ag, hag⟩ : ∃ ag, M.ka n F L r.s r.d = ag := ⟨_, rfl⟩
      obtain ⟨xs, cs, hxs⟩ := H8.out.wb.tr.sliceAt
      rw [hl] at hxs
      have s0 : ∀ y : Gr W8, y.w.cell? ⟨xq, 0, none⟩ = some (.slice xs l cs) := fun y => y.g.cell hxs (by simp)
      have y1 : ∀ y : Gr W8, y.w.cell? ⟨yb, 1, none⟩ = some (.int .i64 r.s) := fun y => (H8.out.ob.kept y.g).at1
      have y2 : ∀ y : Gr W8, y.w.cell? ⟨yb, 2, none⟩ = some (.int .i64 r.d) := fun y => (H8.out.ob.kept y.g).at2
      have he : M.eq ⟨v, o, a⟩ ⟨v, o, a⟩ = true := M.eq_refl _
      have HF := fun (y : Gr W8) => from_any v o a y.w
      have HLn : ∀ y : Gr W8, Calls Try.prog 24 #[.pointer (some ⟨t, 0, none⟩)] y.w fun x w' => x = .returned (.int .i64 l) ∧ y.w.grownBy w' none := fun y => (tlen_is (H8.out.wb.tp.kept y.g) hl).mono fun x w' ⟨q1, q2⟩ => ⟨q1, q2 ▸ gbRefl _ _⟩
      have HAg := fun (y : Gr W8) => agrees_is (H8.out.wb.tp.kept y.g) (H8.out.wb.m.kept y.g) r.s r.d ag hag
      have HRa := fun (y : Gr W8) => ragrees_is (H8.out.wb.tr.kept y.g) (H8.out.wb.r.kept y.g) r.s r.d ag hag
      clear hxs hl hag
      try dsimp only [List.append]
      refine wp_region_grown (by kernel_rfl) (by kernel_rfl) fun _ => ?_
      repeat (go_big_quiet_step ((first | (go_at_call 23; with_reducible exact callsGr (HF _)) | (go_at_call 24; with_reducible exact callsGr (HLn _)) | (go_at_call 25; with_reducible exact callsGr (HAg _)) | (go_at_call 26; with_reducible exact callsGr (HRa _)))))
      refine wpQuiet_nil ?_
      rintro w9 ⟨⟨_, g9⟩, rfl⟩
      have H9 := hideIt (H8.out.wb.kept g9)
      clear H8 e0 e1 e2 f0 f1 f2 s0 y1 y2 HF HLn HAg HRa g9
      go_wp2
      go_roundg (gk - 1)
      case rel => exact ⟨j + 1, _, _, _, _, by omega, by go_num, H9⟩
      case measure => omega
    · go_upto_region 6 with fail
      go_cut [45] from 38 to 45 (fun s wc => s = .bool false ∧ wc = wr)
      case first =>
        by_cases k1 : (j : Int) < (len2 : Int)
        · have k2 : ¬ (j : Int) < 60 := by omega
          go_wp2
          go_meet
          exact ⟨rfl, rfl⟩
        · go_wp2
          go_meet
          exact ⟨rfl, rfl⟩
      case rest =>
      obtain ⟨rfl, rfl⟩ := hcut
      clear hlt hj
      have c1 := H.out.r.is.cell
      have d1 := H.out.kept (gbDrew (gbRefl _ none))
      have c2 := d1.r.is.cell
      replace d1 := hideIt d1
      have nl : n ≤ 65536 := by omega
      go_upto_region 31 with fail
      go_region_held3 (fun w' => w'.cell? ⟨q, 0, none⟩ = some (.slice (some ⟨c, 0, none⟩) n n))
        (first | with_reducible exact c1 | with_reducible exact c2 | with_reducible exact c4 | with_reducible exact c3 | fail)
        ((first
          | (go_at_call 27; refine (Y2.same_sl _ _ _ n (fun i => (F i : Int)) (fun i => (F i : Int)) (Y2.Sl.ofRow (c := n) h3 nl) (Y2.Sl.ofRow (c := n) D3.out.r.is.row nl) (fun _ _ => rfl)).mono ?_; rintro e w4 ⟨rfl, q4, rfl⟩; have D4 := hideIt (D3.out.kept (gbDrewN _ q4 none)); have c4 := D4.out.r.is.cell)
          | (go_at_call 28; refine (words_is _ p b n F d1.out.m).mono ?_; rintro e w3 ⟨r3, rfl, h3, g3, l3⟩; have D3 := hideIt (d1.out.kept g3); have c3 := D3.out.r.is.cell)))
      go_wp2
      go_ret
      exact ⟨rfl, D4.out.tp.gr⟩

theorem walk (a0 : Int) (x1 : Option Addr) (len1 cap1 : Nat) (x2 : Option Addr) (len2 cap2 : Nat) (w : World) (hx1 : Ws w x1 len1) (hx2 : Acts9 w x2 len2) :
    Calls Try.prog 3 #[.int .i64 a0, .slice x1 len1 cap1, .slice x2 len2 cap2] w fun e w' => e = .returned (.bool true) ∧ Below w.heap.size w w' := by
  refine endWalk ?_
  obtain ⟨U, n, u1, u2, n0, n1⟩ := sizeArg a0
  exact core a0 x1 len1 cap1 x2 len2 cap2 n w n1 (fun w' g => made_is a0 n x1 len1 cap1 w' U u1 u2 n0 n1 (hx1.kept g)) hx2

set_option maxRecDepth 100000 in
theorem lifted (os : Os) (started : os.Started) (H : Type) (enc : TypeId × Value → H) :
    ReturnsInHanded {} Try.checked os 3 .any (Rows.tlbDoesSpec.pre6 enc Try.prog Try.f3 Rows.tlbDoesRow.domain false) (Rows.tlbDoesSpec.post enc Try.prog Try.f3 false true false false) := by
  refine returnsInHanded_of_change (C := Try.checked) own started (by kernel_rfl) Try.func3
    (ChangeSpec.witness6 (enc := enc) (C := Try.checked) false ⟨#[], #[.int .i64 0, .slice none 0 0, .slice none 0 0], []⟩ 8 (by kernel_rfl) (by kernel_rfl) (by kernel_rfl) (by kernel_rfl)) ?_
  intro W base args ds gs before hval0 hW hcnd _
  have hval : ∀ (j : Nat) t v, Try.f3.params[j]? = some t → args[j]? = some v → Value.okWide Try.prog W .any base t v := hval0
  have hW' := hW
  obtain ⟨p, q, hA0, hV, rfl, hfz, hnd⟩ := hW
  have hA : DataW.TrodAll enc Try.prog W 0 (fun _ => true) true Try.f3.params.toList args.toList ds p := hA0
  rw [Try.params3] at hA hval
  obtain ⟨v0, vs0, d0, ds0, p0, q0, hargs, rfl, rfl, h0, r0⟩ := trodAll_cons hA
  obtain ⟨v1, vs1, d1, ds1, p1, q1, rfl, rfl, rfl, h1, r1⟩ := trodAll_cons r0
  obtain ⟨v2, vs2, d2, ds2, p2, q2, rfl, rfl, rfl, h2, r2⟩ := trodAll_cons r1
  obtain ⟨rfl, rfl, rfl⟩ := trodAll_nil r2
  obtain rfl : args = #[v0, v1, v2] := by cases args; simp_all
  obtain ⟨rfl, rfl⟩ := trodVars_none hV
  obtain ⟨a0, rfl, rfl, rfl, w0⟩ := open_int Try.underlying3 (hval 0 3 v0 rfl rfl) h0
  obtain ⟨x1, len1, cap1, rfl⟩ := okWide_slice Try.underlying22 (hval 1 22 v1 rfl rfl)
  have hx1 := wordsArg h1
  have k1 := h1
  have lt1 : ∀ x ∈ p1, x.block < W.heap.size := by obtain ⟨m, hm⟩ := k1; exact DataW.trod_lt m _ _ _ hm
  obtain ⟨x2, len2, cap2, rfl⟩ := okWide_slice Try.underlying23 (hval 2 23 v2 rfl rfl)
  have hx2 := opsArg h2
  have k2 := h2
  have lt2 : ∀ x ∈ p2, x.block < W.heap.size := by obtain ⟨m, hm⟩ := k2; exact DataW.trod_lt m _ _ _ hm
  clear hA0 hval0
  refine (walk a0 x1 len1 cap1 x2 len2 cap2 W hx1 hx2).mono fun e W' ⟨he, bel⟩ => ?_
  subst he
  exact ⟨_, rfl, _, _, _, [], _, [], hW', trodAll_mk1 (shut_bool Try.underlying4 _), (trodAll_cons_mk (shut_int Try.underlying3 w0) (trodAll_cons_mk (Below.trod laidOut (by kernel_rfl) (of_decide_eq_true (by kernel_rfl)) k1 bel lt1) (trodAll_cons_mk (Below.trod laidOut (by kernel_rfl) (of_decide_eq_true (by kernel_rfl)) k2 bel lt2) trodAll_mk0))), rfl, bel.frame _, fun h => by cases h⟩

theorem over : Rows.tlbDoesRow.holds Try.pinned (OpenSpec.ofChange Rows.tlbDoesSpec) :=
  OpenClaim.holds_of_wide 3 Try.f3 rfl rfl rfl rfl rfl rfl rfl ⟨rfl, rfl, rfl, rfl, rfl⟩ rfl rfl rfl rfl rfl (by kernel_rfl) Try.func3 (by kernel_rfl)
    (of_decide_eq_true (by kernel_rfl)) (by unfold Func.isWrapper; first | (rw [if_pos (by decide +kernel)]; kernel_rfl) | (rw [if_neg (by decide +kernel)]; exact ⟨rfl, rfl⟩))
    (fun os started H enc _ => lifted os started H enc)

theorem proved : Rows.TlbDoesSaid := over
end Go.Proofs.Ytmmjmloaefcmmaa.tlbDoes
namespace Go.Proofs.Ytmmjmloaefcmmaa
theorem tlbDoes_holds : Rows.TlbDoesSaid := tlbDoes.proved
#print axioms tlbDoes_holds
end Go.Proofs.Ytmmjmloaefcmmaa
