/- SchedDoes: of any schedule, whoever is put, dropped and yielded, and however many ticks go by: each answer of the program, who is picked, the entry, its ticks that are left and its domain are the document's. For every input, no condition. -/
import Derived.Test.YtpacgdplbddclaaDcc
import Derived.Test.YtpacgdplbddclaaArgs
import Derived.Deep.Cut
import Derived.Deep.DeepCutAuto
import Derived.Deep.CutBlock
import Derived.Deep.RegionHeld3
import Derived.Test.YtpacgdplbddclaaArgs
import Derived.ProofKit
import Derived.OpenShut
import Derived.ShutString
import Derived.ChangeOld
import Derived.Below
import Derived.Deep.Slices
namespace Go.Proofs.Ytpacgdplbddclaa.schedDoes
open Go.ChangeShapes Go.WideShapes Go.ChangeAt Go.RowKit
set_option linter.unusedVariables false

theorem own : ownKnob Try.prog.godebug = none := by kernel_rfl
theorem laidOut : laidOutB Try.prog = true := by kernel_rfl

theorem kTA (q : Nat) (T : List (Int × Int)) (n : Nat) (l : Int) (F : Nat → List (Int × Int)) : Keeps (fun w O => TA w O q T n l F) := fun _ _ _ _ h F hd => h.fr F hd
/-- Both, side by side. -/
abbrev ST (w0 w : World) (P R : Nat → Prop) (p q : Nat) (T : List (Int × Int)) (n : Nat) (l : Int) (F : Nat → List (Int × Int)) (m : Nat) (k : Int) (G : Nat → List (Int × Int)) : Prop := Tw (fun w O => SA w O p T n l F) (fun w O => TA w O q T m k G) w0 w P R
section
variable {w0 w w' : World} {P R : Nat → Prop} {p q : Nat} {T : List (Int × Int)} {n m n' : Nat} {l k l' : Int} {F G F' : Nat → List (Int × Int)}
theorem pr (h : ST w0 w P R p q T n l F m k G) (Z : SA w' (wide P w w') p T n' l' F') (f : Fr P w w') : ST w0 w' (wide P w w') R p q T n' l' F' m k G := Tw.prog (A' := fun w O => SA w O p T n' l' F') (kTA q T m k G) h Z f
theorem dc (h : ST w0 w P R p q T n l F m k G) (Z : TA w' (wide R w w') q T n' l' F') (f : Fr R w w') : ST w0 w' P (wide R w w') p q T n l F n' l' F' := Tw.doc (B' := fun w O => TA w O q T n' l' F') (kSA p T n l F) h Z f
theorem kp (h : ST w0 w P R p q T n l F m k G) (g : w.grownBy w' none) : ST w0 w' P R p q T n l F m k G := Tw.kept (kSA p T n l F) (kTA q T m k G) h g
end
/-- Both, with the same entry and the same threads. -/
structure Eq2 (w0 w : World) (P R : Nat → Prop) (p q : Nat) (T : List (Int × Int)) (n : Nat) (l N : Int) (F : Nat → List (Int × Int)) : Prop where
  t : ST w0 w P R p q T n l F n l F
  gd : M.GF F
  ps : M.Ps T n l N
/-- The three cells of an act that are read. -/
abbrev Tc (w : World) (y : Nat) (r : Q) : Prop := w.cell? ⟨y, 1, none⟩ = some (.int .i64 r.i) ∧ w.cell? ⟨y, 2, none⟩ = some (.int .i64 r.d) ∧ w.cell? ⟨y, 3, none⟩ = some (.int .i64 r.l)
theorem tcOf {w : World} {y : Nat} {r : Q} (h : QBox w y r) : Tc w y r := ⟨h.at1, h.at2, h.at3⟩

set_option maxHeartbeats 8000000 in
set_option maxRecDepth 100000 in
theorem core (x0 : Option Addr) (len0 cap0 : Nat) (T : List (Int × Int)) (hl0 : T.length = len0) (x1 : Option Addr) (len1 cap1 : Nat) (w : World) (hx0 : Pairs w x0 T) (hx1 : Acts4 w x1 len1) :
    Calls Try.prog 3 #[.slice x0 len0 cap0, .slice x1 len1 cap1] w fun e w' => e = .returned (.bool true) ∧ w.grownBy w' none := by
  have HX := hideIt hx1
  have HP := hideIt hx0
  have HL := hideIt hl0
  clear hx0 hx1 hl0
  by_cases c100 : 100 < len0
  · have c100' : (100 : Int) < (len0 : Int) := by omega
    go_enter Try.func3, Try.ntmps3
    go_wp2
    go_ret
    exact ⟨rfl, gbRefl _ _⟩
  have c100' : ¬ (100 : Int) < (len0 : Int) := by omega
  go_enter Try.func3, Try.ntmps3
  go_wp2_with fail
  refine (to_is w x0 len0 cap0 T HP HL (by omega)).mono ?_
  rintro e w1 ⟨y1, cy1, rfl, l1, g1⟩
  replace l1 := hideIt l1
  obtain ⟨f, hf⟩ : ∃ f : Int, (if M.ok T then 0 else 1) = f := ⟨_, rfl⟩
  replace hf := hideIt hf
  go_wp2_with fail
  refine (snew_is w1 y1 len0 cy1 T l1.out.pairs HL.out f hf.out).mono ?_
  rintro e w2 ⟨a2, rfl, g2, B1, B2⟩
  replace B1 := hideIt B1
  replace B2 := hideIt B2
  replace g1 := hideIt g1
  go_wp2_with fail
  refine (tnew_is w2 x0 len0 cap0 T ((HP.out.kept g1.out).kept g2) HL.out f hf.out).mono ?_
  rintro e w3 ⟨b3, rfl, g3, B3⟩
  replace B3 := hideIt B3
  replace g2 := hideIt g2
  replace g3 := hideIt g3
  by_cases e1 : f = 1
  · obtain ⟨rfl, _⟩ := B1.out e1
    subst e1
    go_wp2
    go_ret
    exact ⟨rfl, gbTrans (gbTrans g1.out g2.out) g3.out⟩
  obtain ⟨rfl, ok, p, rfl, A2⟩ := B2.out e1
  obtain ⟨q, rfl, A3⟩ := B3.out rfl
  replace ok := hideIt ok
  have H3 : Hid (Eq2 w w3 (fun i => w1.heap.size ≤ i ∧ i < w2.heap.size) (fun i => w2.heap.size ≤ i ∧ i < w3.heap.size) p q T 0 (M.tt T 0) 0 (fun _ => [])) := hideIt (by
    have s1 := g1.out.size
    have s2 := g2.out.size
    have s3 := g3.out.size
    exact ⟨⟨A2.kept g3.out, A3, fun i hi => by omega, fun i hi => by omega, fun i hi e => by omega, gbTrans (gbTrans g1.out g2.out) g3.out⟩, M.GF.nil, M.Ps.zero ok.out⟩)
  clear A2 A3 B1 B2 B3 hf g1 g2 g3 l1 e1 HP HL
  go_wp2_with fail
  go_loopg [9] 100 (fun gk i wr => ∃ (j : Nat) (P R : Nat → Prop) (n : Nat) (l N : Int) (F : Nat → List (Int × Int)), j + gk = 100 ∧ i = .int .i64 j ∧ Hid (Eq2 w wr P R p q T n l N F))
  case atStart => exact ⟨0, _, _, 0, _, 0, _, rfl, rfl, H3⟩
  case round =>
    obtain ⟨j, P, R, n, l, N, F, hj, rfl, H⟩ := hrel
    clear H3
    by_cases hlt : j < len1 ∧ j < 100
    · obtain ⟨c1, c2⟩ := hlt
      obtain ⟨x, r, rfl, hE⟩ := HX.out j c1
      have hdj : decide ((j : Int) < 100) = true := by simp; omega
      obtain ⟨r0, r1, r2, r3⟩ := hE.kept H.out.t.gr
      clear hE
      go_upto_region 11 with fail
      obtain ⟨V, hV, Y, gY⟩ := qboxNew wr r
      rw [hV]
      clear hV r0 r1 r2 r3
      have hyP : ¬ P wr.heap.size := fun e => by have := (H.out.t.lo _ e).2; omega
      have hyR : ¬ R wr.heap.size := fun e => by have := (H.out.t.lr _ e).2; omega
      have H0 := hideIt (kp H.out.t gY)
      have hgd := hideIt H.out.gd
      have hps := hideIt H.out.ps
      obtain ⟨y, hy⟩ : ∃ y, wr.heap.size = y := ⟨_, rfl⟩
      rw [hy] at Y hyP hyR
      rw [hy]
      clear hy gY H
      replace Y := hideIt Y
      have r0 := Y.out.at0
      have gd := gbDrew (gbRefl V none)
      have Hd := hideIt (kp H0.out gd)
      have T0 : Tc V y r := tcOf Y.out
      have Yd := hideIt (Y.out.kept gd)
      have T1 : Tc V.drew y r := tcOf Yd.out
      go_upto_block 2 with fail
      go_cut [5] from 69 to 116 (fun s wc => s = .pointer (some ⟨p, 0, none⟩) ∧ ∃ (P R : Nat → Prop) (n : Nat) (l N : Int) (F : Nat → List (Int × Int)), Hid (Eq2 w wc P R p q T n l N F))
      case first =>
        by_cases k0 : (r.k == 0) = true
        · have k0 : (r.k == 0) = true := k0
          obtain ⟨f, hf⟩ : ∃ f, M.se F r.i r.d r.l = f := ⟨_, rfl⟩
          replace hf := hideIt hf
          go_upto_region 15 with fail
          go_region_held3 (fun w' => Tc w' y r)
            (first | with_reducible exact T0 | with_reducible exact T1 | with_reducible exact T6 | with_reducible exact T7 | fail)
            ((first
              | (go_at_call 12; refine (tput_is H6.out.b hgd.out r.i r.d r.l f hf.out).mono ?_; rintro e w7 ⟨rfl, Z7, F7⟩; have H7 := hideIt (dc H6.out Z7 F7); have T7 : Tc w7 y r := tcOf (Y6.out.fr F7 hyR); clear Z7 F7)
              | (go_at_call 11; refine (sput_is Hd.out.a hgd.out r.i r.d r.l f hf.out).mono ?_; rintro e w6 ⟨rfl, Z6, F6⟩; have H6 := hideIt (pr Hd.out Z6 F6); have Y6 := hideIt (Yd.out.fr F6 hyP); have T6 : Tc w6 y r := tcOf Y6.out; clear Z6 F6)))
          rename_i hold
          clear hold T0 T1 T6 T7
          go_wp2
          go_meet
          exact ⟨rfl, _, _, _, _, _, _, hideIt ⟨H7.out, hgd.out.put _ _ _, hps.out⟩⟩
        · have k0 : (r.k == 0) = false := by simpa using k0
          by_cases k1 : (r.k == 1) = true
          · have k1 : (r.k == 1) = true := k1
            obtain ⟨b, hb⟩ : ∃ b, M.inn F r.i = b := ⟨_, rfl⟩
            replace hb := hideIt hb
            go_upto_region 18 with fail
            go_region_held3 (fun w' => Tc w' y r)
              (first | with_reducible exact T0 | with_reducible exact T1 | with_reducible exact T6 | with_reducible exact T7 | fail)
              ((first
                | (go_at_call 14; refine (tdrop_is H6.out.b hgd.out r.i b hb.out).mono ?_; rintro e w7 ⟨rfl, Z7, F7⟩; have H7 := hideIt (dc H6.out Z7 F7); have T7 : Tc w7 y r := tcOf (Y6.out.fr F7 hyR); clear Z7 F7)
                | (go_at_call 13; refine (sdrop_is Hd.out.a hgd.out r.i b hb.out).mono ?_; rintro e w6 ⟨rfl, Z6, F6⟩; have H6 := hideIt (pr Hd.out Z6 F6); have Y6 := hideIt (Yd.out.fr F6 hyP); have T6 : Tc w6 y r := tcOf Y6.out; clear Z6 F6)))
            rename_i hold
            clear hold T0 T1 T6 T7
            go_wp2
            go_meet
            exact ⟨rfl, _, _, _, _, _, _, hideIt ⟨H7.out, hgd.out.drop _, hps.out⟩⟩
          · have k1 : (r.k == 1) = false := by simpa using k1
            by_cases k2 : (r.k == 2) = true
            · have k2 : (r.k == 2) = true := k2
              obtain ⟨b, hb⟩ : ∃ b, M.inn F r.i = b := ⟨_, rfl⟩
              replace hb := hideIt hb
              go_upto_region 21 with fail
              go_region_held3 (fun w' => Tc w' y r)
                (first | with_reducible exact T0 | with_reducible exact T1 | with_reducible exact T6 | with_reducible exact T7 | fail)
                ((first
                  | (go_at_call 16; refine (tyield_is H6.out.b hgd.out r.i b hb.out).mono ?_; rintro e w7 ⟨rfl, Z7, F7⟩; have H7 := hideIt (dc H6.out Z7 F7); have T7 : Tc w7 y r := tcOf (Y6.out.fr F7 hyR); clear Z7 F7)
                  | (go_at_call 15; refine (syield_is Hd.out.a hgd.out r.i b hb.out).mono ?_; rintro e w6 ⟨rfl, Z6, F6⟩; have H6 := hideIt (pr Hd.out Z6 F6); have Y6 := hideIt (Yd.out.fr F6 hyP); have T6 : Tc w6 y r := tcOf Y6.out; clear Z6 F6)))
              rename_i hold
              clear hold T0 T1 T6 T7
              go_wp2
              go_meet
              exact ⟨rfl, _, _, _, _, _, _, hideIt ⟨H7.out, hgd.out.yield _, hps.out⟩⟩
            · have k2 : (r.k == 2) = false := by simpa using k2
              obtain ⟨b, hb⟩ : ∃ b, decide (l = 1) = b := ⟨_, rfl⟩
              replace hb := hideIt hb
              clear T0 T1
              go_wp2_with fail
              refine (tick_is H0.out.a ok.out hps.out b hb.out).mono ?_
              rintro e w6 ⟨rfl, Z6, F6⟩
              have H6 := hideIt (pr H0.out Z6 F6)
              clear Z6 F6 r0
              go_wp2_with fail
              refine (ttick_is H6.out.b ok.out b hb.out).mono ?_
              rintro e w7 ⟨rfl, Z7, F7⟩
              have H7 := hideIt (dc H6.out Z7 F7)
              clear Z7 F7 H6
              go_wp2
              go_meet
              exact ⟨rfl, _, _, _, _, _, _, hideIt ⟨H7.out, hgd.out, hps.out.tick ok.out⟩⟩
      case rest =>
        obtain ⟨rfl, P', R', n', l', N', F', H'⟩ := hcut
        clear H0 r0 hgd hps hyP hyR Y Yd Hd T0 T1 gd
        have hd := ok.out.dmB H'.out.ps.lt
        obtain ⟨k, hk⟩ : ∃ k : Nat, M.dm T n' = k := ⟨(M.dm T n').toNat, by omega⟩
        have hk4 : k < 4 := by omega
        replace hk := hideIt hk
        clear hd
        obtain ⟨a, ha⟩ : ∃ a, M.nx (F' k) = a := ⟨_, rfl⟩
        obtain ⟨b, hb⟩ : ∃ b, M.nb (F' k) = b := ⟨_, rfl⟩
        replace ha := hideIt ha
        replace hb := hideIt hb
        go_wp2_with fail
        refine (pick_is H'.out.t.a ok.out H'.out.ps H'.out.gd k hk.out a b ha.out hb.out).mono ?_
        rintro e w3 ⟨rfl, g3⟩
        have H3 := hideIt (kp H'.out.t g3)
        clear g3
        go_wp2_with fail
        refine (tpick_is H3.out.b ok.out H'.out.gd k hk.out a b ha.out hb.out).mono ?_
        rintro e w4 ⟨rfl, g4⟩
        have H4 := hideIt (kp H3.out g4)
        clear g4 H3
        go_wp2_with fail
        refine (now_is H4.out.a H'.out.ps.lt).mono ?_
        rintro e w5 ⟨rfl, g5⟩
        have H5 := hideIt (kp H4.out g5)
        clear g5 H4
        go_wp2_with fail
        refine (tnow_is H5.out.b ok.out).mono ?_
        rintro e w6 ⟨rfl, g6⟩
        have H6 := hideIt (kp H5.out g6)
        clear g6 H5
        go_wp2_with fail
        refine (domain_is H6.out.a H'.out.ps.lt ok.out.l2).mono ?_
        rintro e w7 ⟨rfl, g7⟩
        have H7 := hideIt (kp H6.out g7)
        clear g7 H6
        go_wp2_with fail
        refine (tdomain_is H7.out.b ok.out).mono ?_
        rintro e w8 ⟨rfl, g8⟩
        have H8 := hideIt (kp H7.out g8)
        clear g8 H7
        go_wp2
        go_roundg (gk - 1)
        case rel => exact ⟨j + 1, _, _, _, _, _, _, by omega, by go_num, hideIt ⟨H8.out, H'.out.gd, H'.out.ps⟩⟩
        case measure => omega
    · go_upto_region 8 with fail
      go_cut [62] from 55 to 62 (fun s wc => s = .bool false ∧ wc = wr)
      case first =>
        by_cases k1 : (j : Int) < (len1 : Int)
        · have k2 : ¬ (j : Int) < 100 := by omega
          go_wp2
          go_meet
          exact ⟨rfl, rfl⟩
        · go_wp2
          go_meet
          exact ⟨rfl, rfl⟩
      case rest =>
      obtain ⟨rfl, rfl⟩ := hcut
      go_wp2
      go_ret
      exact ⟨rfl, H.out.t.gr⟩

theorem walk (x0 : Option Addr) (len0 cap0 : Nat) (T : List (Int × Int)) (hl0 : T.length = len0) (x1 : Option Addr) (len1 cap1 : Nat) (w : World) (hx0 : Pairs w x0 T) (hx1 : Acts4 w x1 len1) :
    Calls Try.prog 3 #[.slice x0 len0 cap0, .slice x1 len1 cap1] w fun e w' => e = .returned (.bool true) ∧ Below w.heap.size w w' := endWalk (core x0 len0 cap0 T hl0 x1 len1 cap1 w hx0 hx1)

set_option maxRecDepth 100000 in
theorem lifted (os : Os) (started : os.Started) (H : Type) (enc : TypeId × Value → H) :
    ReturnsInHanded {} Try.checked os 3 .any (Rows.schedDoesSpec.pre6 enc Try.prog Try.f3 Rows.schedDoesRow.domain false) (Rows.schedDoesSpec.post enc Try.prog Try.f3 false true false false) := by
  refine returnsInHanded_of_change (C := Try.checked) own started (by kernel_rfl) Try.func3
    (ChangeSpec.witness6 (enc := enc) (C := Try.checked) false ⟨#[], #[.slice none 0 0, .slice none 0 0], []⟩ 8 (by kernel_rfl) (by kernel_rfl) (by kernel_rfl) (by kernel_rfl)) ?_
  intro W base args ds gs before hval0 hW hcnd _
  have hval : ∀ (j : Nat) t v, Try.f3.params[j]? = some t → args[j]? = some v → Value.okWide Try.prog W .any base t v := hval0
  have hW' := hW
  obtain ⟨p, q, hA0, hV, rfl, hfz, hnd⟩ := hW
  have hA : DataW.TrodAll enc Try.prog W 0 (fun _ => true) true Try.f3.params.toList args.toList ds p := hA0
  rw [Try.params3] at hA hval
  obtain ⟨v0, vs0, d0, ds0, p0, q0, hargs, rfl, rfl, h0, r0⟩ := trodAll_cons hA
  obtain ⟨v1, vs1, d1, ds1, p1, q1, rfl, rfl, rfl, h1, r1⟩ := trodAll_cons r0
  obtain ⟨rfl, rfl, rfl⟩ := trodAll_nil r1
  obtain rfl : args = #[v0, v1] := by cases args; simp_all
  obtain ⟨rfl, rfl⟩ := trodVars_none hV
  obtain ⟨x0, len0, cap0, rfl⟩ := okWide_slice Try.underlying22 (hval 0 22 v0 rfl rfl)
  obtain ⟨L0, hl0, hx0⟩ := timesArg h0
  have k0 := h0
  have lt0 : ∀ x ∈ p0, x.block < W.heap.size := by obtain ⟨m, hm⟩ := k0; exact DataW.trod_lt m _ _ _ hm
  obtain ⟨x1, len1, cap1, rfl⟩ := okWide_slice Try.underlying23 (hval 1 23 v1 rfl rfl)
  have hx1 := opsArg h1
  have k1 := h1
  have lt1 : ∀ x ∈ p1, x.block < W.heap.size := by obtain ⟨m, hm⟩ := k1; exact DataW.trod_lt m _ _ _ hm
  clear hA0 hval0
  refine (walk x0 len0 cap0 L0 hl0 x1 len1 cap1 W hx0 hx1).mono fun e W' ⟨he, bel⟩ => ?_
  subst he
  exact ⟨_, rfl, _, _, _, [], _, [], hW', trodAll_mk1 (shut_bool Try.underlying4 _), (trodAll_cons_mk (Below.trod laidOut (by kernel_rfl) (of_decide_eq_true (by kernel_rfl)) k0 bel lt0) (trodAll_cons_mk (Below.trod laidOut (by kernel_rfl) (of_decide_eq_true (by kernel_rfl)) k1 bel lt1) trodAll_mk0)), rfl, bel.frame _, fun h => by cases h⟩

theorem over : Rows.schedDoesRow.holds Try.pinned (OpenSpec.ofChange Rows.schedDoesSpec) :=
  OpenClaim.holds_of_wide 3 Try.f3 rfl rfl rfl rfl rfl rfl rfl ⟨rfl, rfl, rfl, rfl, rfl⟩ rfl rfl rfl rfl rfl (by kernel_rfl) Try.func3 (by kernel_rfl)
    (of_decide_eq_true (by kernel_rfl)) (by unfold Func.isWrapper; first | (rw [if_pos (by decide +kernel)]; kernel_rfl) | (rw [if_neg (by decide +kernel)]; exact ⟨rfl, rfl⟩))
    (fun os started H enc _ => lifted os started H enc)

theorem proved : Rows.SchedDoesSaid := over
end Go.Proofs.Ytpacgdplbddclaa.schedDoes
namespace Go.Proofs.Ytpacgdplbddclaa
theorem schedDoes_holds : Rows.SchedDoesSaid := schedDoes.proved
#print axioms schedDoes_holds
end Go.Proofs.Ytpacgdplbddclaa
