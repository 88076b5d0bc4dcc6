/- SchedOthers: of two schedules with one domain alone, to which the same is done there, the first one has other threads in another domain besides, put and dropped: each answer, and who is picked, is the same of both. For every input, no condition. -/
import Derived.Test.YtpacgdplbddclaaOth
import Derived.Test.YtpacgdplbddclaaArgs
import Derived.Deep.Cut
import Derived.Deep.DeepCutAuto
import Derived.Deep.CutBlock
import Derived.Deep.RegionHeld3
import Derived.Test.YtpacgdplbddclaaArgs
import Derived.ProofKit
import Derived.OpenShut
import Derived.ShutString
import Derived.ChangeOld
import Derived.Below
import Derived.Deep.Slices
namespace Go.Proofs.Ytpacgdplbddclaa.schedOthers
open Go.ChangeShapes Go.WideShapes Go.ChangeAt Go.RowKit
set_option linter.unusedVariables false

theorem own : ownKnob Try.prog.godebug = none := by kernel_rfl
theorem laidOut : laidOutB Try.prog = true := by kernel_rfl

/-- Two schedules side by side. -/
abbrev SS (w0 w : World) (P R : Nat → Prop) (p q : Nat) (T : List (Int × Int)) (F G : Nat → List (Int × Int)) : Prop := Tw (fun w O => SA w O p T 0 9 F) (fun w O => SA w O q T 0 9 G) w0 w P R
section
variable {w0 w w' : World} {P R : Nat → Prop} {p q : Nat} {T : List (Int × Int)} {F G F' : Nat → List (Int × Int)}
theorem pr (h : SS w0 w P R p q T F G) (Z : SA w' (wide P w w') p T 0 9 F') (f : Fr P w w') : SS w0 w' (wide P w w') R p q T F' G := Tw.prog (A' := fun w O => SA w O p T 0 9 F') (kSA q T 0 9 G) h Z f
theorem dc (h : SS w0 w P R p q T F G) (Z : SA w' (wide R w w') q T 0 9 F') (f : Fr R w w') : SS w0 w' P (wide R w w') p q T F F' := Tw.doc (B' := fun w O => SA w O q T 0 9 F') (kSA p T 0 9 F) h Z f
theorem kp (h : SS w0 w P R p q T F G) (g : w.grownBy w' none) : SS w0 w' P R p q T F G := Tw.kept (kSA p T 0 9 F) (kSA q T 0 9 G) h g
end
abbrev oT (d : Nat) : List (Int × Int) := [((d : Int), 9)]
theorem oOk {d : Nat} (hd : d < 4) : M.Ok (oT d) := ⟨by simp, by simp, fun o ho => by simp at ho; subst ho; simp; omega⟩
theorem oPs (d : Nat) : M.Ps (oT d) 0 9 0 := ⟨by simp, by decide, by simp [M.tt], by simp [M.pre_zero, M.tt]⟩
/-- Both, alike in one domain. -/
structure E2 (w0 w : World) (P R : Nat → Prop) (p q d : Nat) (F G : Nat → List (Int × Int)) : Prop where
  t : SS w0 w P R p q (oT d) F G
  o : M.Oth F G d

set_option maxHeartbeats 8000000 in
set_option maxRecDepth 100000 in
theorem core (x0 : Option Addr) (len0 cap0 : Nat) (a1 : Int) (w : World) (hx0 : Acts4 w x0 len0) :
    Calls Try.prog 7 #[.slice x0 len0 cap0, .int .i64 a1] w fun e w' => e = .returned (.bool true) ∧ w.grownBy w' none := by
  have HX := hideIt hx0
  clear hx0
  obtain ⟨U, d, q1, q2, hd⟩ := modArg a1 4 (by decide)
  replace q2 : (U : Int) % 4 = (d : Int) := q2
  go_enter Try.func7, Try.ntmps7
  go_wp2_with fail
  refine (works_is w).mono ?_
  rintro e wa ⟨rfl, ga⟩
  replace ga := hideIt ga
  go_wp2_with fail
  clear q1 q2
  refine (snew_ok _ _ 1 1 (oT d) (pairs1 wa d 9) rfl (oOk hd)).mono ?_
  rintro e wb ⟨p, rfl, A1, g1⟩
  rw [show M.tt (oT d) 0 = 9 from rfl] at A1
  replace A1 := hideIt A1
  have gb := hideIt (gbTrans (gbTrans ga.out (gbAlloc wa (.cells #[.int .i64 d, .int .i64 9] 49) none)) g1)
  replace g1 := hideIt g1
  go_wp2_with fail
  refine (snew_ok _ _ 1 1 (oT d) (pairs1 wb d 9) rfl (oOk hd)).mono ?_
  rintro e wc ⟨q, rfl, A2, g2⟩
  rw [show M.tt (oT d) 0 = 9 from rfl] at A2
  have H2 : Hid (E2 w wc (fun i => (wa.alloc (.cells #[.int .i64 d, .int .i64 9] 49)).heap.size ≤ i ∧ i < wb.heap.size) (fun i => (wb.alloc (.cells #[.int .i64 d, .int .i64 9] 49)).heap.size ≤ i ∧ i < wc.heap.size) p q d (fun _ => []) (fun _ => [])) := hideIt (by
    have gc := gbAlloc wb (.cells #[.int .i64 d, .int .i64 9] 49) none
    have s0 := gb.out.size
    have s1 := ga.out.size
    have s2 := (gbAlloc wa (.cells #[.int .i64 d, .int .i64 9] 49) none).size
    have s3 := gc.size
    have s4 := g2.size
    exact ⟨⟨(A1.out.kept gc).kept g2, A2, fun i hi => by omega, fun i hi => by omega, fun i hi e => by omega, gbTrans gb.out (gbTrans gc g2)⟩, M.Oth.nil d⟩)
  clear A1 A2 g1 g2 ga gb
  go_wp2_with fail
  go_loopg [9] 60 (fun gk i wr => ∃ (j : Nat) (P R : Nat → Prop) (F G : Nat → List (Int × Int)), j + gk = 60 ∧ i = .int .i64 j ∧ Hid (E2 w wr P R p q d F G))
  case atStart => exact ⟨0, _, _, _, _, rfl, rfl, H2⟩
  case round =>
    obtain ⟨j, P, R, F, G, hj, rfl, H⟩ := hrel
    clear H2
    by_cases hlt : j < len0 ∧ j < 60
    · obtain ⟨c1, c2⟩ := hlt
      obtain ⟨x, r, rfl, hE⟩ := HX.out j c1
      have hdj : decide ((j : Int) < 60) = true := by simp; omega
      obtain ⟨r0, r1, r2, r3⟩ := hE.kept H.out.t.gr
      clear hE
      go_upto_region 12 with fail
      obtain ⟨V, hV, Y, gY⟩ := qboxNew wr r
      rw [hV]
      clear hV r0 r1 r2 r3
      have hyP : ¬ P wr.heap.size := fun e => by have := (H.out.t.lo _ e).2; omega
      have hyR : ¬ R wr.heap.size := fun e => by have := (H.out.t.lr _ e).2; omega
      have H0 := hideIt (kp H.out.t gY)
      have ho := hideIt H.out.o
      obtain ⟨y, hy⟩ : ∃ y, wr.heap.size = y := ⟨_, rfl⟩
      rw [hy] at Y hyP hyR
      rw [hy]
      clear hy gY H
      replace Y := hideIt Y
      have r1 := Y.out.at1
      have r3 := Y.out.at3
      obtain ⟨U2, m, z1, z2, hm⟩ := modArg r.i 32 (by decide)
      replace z2 : (U2 : Int) % 32 = (m : Int) := z2
      obtain ⟨m2, hm2⟩ : ∃ m2 : Nat, m2 = 32 + m := ⟨_, rfl⟩
      have z3 : 32 + (m : Int) = (m2 : Int) := by omega
      obtain ⟨d2, hd2⟩ : ∃ d2 : Nat, d2 = (d + 1) % 4 := ⟨_, rfl⟩
      obtain ⟨d1, hd1⟩ : ∃ d1 : Nat, d1 = d + 1 := ⟨_, rfl⟩
      have z4 : (d : Int) + 1 = (d1 : Int) := by omega
      have z5 : (d1 : Int) % 4 = (d2 : Int) := by omega
      have hne : Hid ((d2 : Int) ≠ (d : Int)) := hideIt (by omega)
      have hm3 : Hid ((32 : Int) ≤ (m2 : Int)) := hideIt (by omega)
      have hm4 : Hid ((m : Int) < 32) := hideIt (by omega)
      have hm5 : m2 < 64 := by omega
      have hd5 : d1 < 5 := by omega
      clear hm2 hd2 hd1
      go_wp2_with fail
      obtain ⟨f, hf⟩ : ∃ f, M.se F m2 d2 r.l = f := ⟨_, rfl⟩
      refine (sput_is H0.out.a ho.out.ga m2 d2 r.l f hf).mono ?_
      rintro e w6 ⟨rfl, Z6, F6⟩
      have H6 := hideIt (pr H0.out Z6 F6)
      have Y6 := hideIt (Y.out.fr F6 hyP)
      have hyP6 := wideNo (w' := w6) hyP Y.out.lt
      have ho6 := hideIt (ho.out.other hd (l := r.l) hm3.out hne.out)
      clear Z6 F6 H0 ho r1 r3 Y z1 z2 z4 z5 hf hyP
      have r0 := Y6.out.at0
      have r3 := Y6.out.at3
      have gd := gbDrew (gbRefl w6 none)
      have Hd := hideIt (kp H6.out gd)
      have Yd := hideIt (Y6.out.kept gd)
      have t3 := Yd.out.at3
      go_upto_block 2 with fail
      go_cut [5] from 74 to 112 (fun s wc => s = .pointer (some ⟨p, 0, none⟩) ∧ ∃ (P R : Nat → Prop) (F G : Nat → List (Int × Int)), Hid (E2 w wc P R p q d F G))
      case first =>
        by_cases k0 : (r.k == 0) = true
        · have k0 : (r.k == 0) = true := k0
          obtain ⟨f, hf⟩ : ∃ f, M.se (M.sp F m2 d2 r.l) m d r.l = f := ⟨_, rfl⟩
          have hg := hideIt ((ho6.out.errs hd hm4.out r.l).symm.trans hf)
          replace hf := hideIt hf
          go_upto_region 16 with fail
          go_region_held3 (fun w' => w'.cell? ⟨y, 3, none⟩ = some (.int .i64 r.l))
            (first | with_reducible exact r3 | with_reducible exact t3 | with_reducible exact T7 | with_reducible exact T8 | fail)
            ((first
              | (go_at_call 11; refine (sput_is H7.out.b ho6.out.gb m d r.l f hg.out).mono ?_; rintro e w8 ⟨rfl, Z8, F8⟩; have H8 := hideIt (dc H7.out Z8 F8); have T8 := (Y7.out.fr F8 hyR).at3; clear Z8 F8)
              | (go_at_call 11; refine (sput_is Hd.out.a ho6.out.ga m d r.l f hf.out).mono ?_; rintro e w7 ⟨rfl, Z7, F7⟩; have H7 := hideIt (pr Hd.out Z7 F7); have Y7 := hideIt (Yd.out.fr F7 hyP6); have T7 := Y7.out.at3; clear Z7 F7)))
          rename_i hold
          clear hold r3 t3 T7 T8
          go_wp2
          go_meet
          exact ⟨rfl, _, _, _, _, hideIt ⟨H8.out, ho6.out.put hd hm4.out⟩⟩
        · have k0 : (r.k == 0) = false := by simpa using k0
          clear r3 t3
          by_cases k1 : (r.k == 1) = true
          · have k1 : (r.k == 1) = true := k1
            obtain ⟨b, hb⟩ : ∃ b, M.inn (M.sp F m2 d2 r.l) (m : Int) = b := ⟨_, rfl⟩
            have hg := hideIt ((ho6.out.same hd hm4.out).symm.trans hb)
            replace hb := hideIt hb
            go_wp2_with fail
            refine (sdrop_is H6.out.a ho6.out.ga m b hb.out).mono ?_
            rintro e w7 ⟨rfl, Z7, F7⟩
            have H7 := hideIt (pr H6.out Z7 F7)
            clear Z7 F7 r0
            go_wp2_with fail
            refine (sdrop_is H7.out.b ho6.out.gb m b hg.out).mono ?_
            rintro e w8 ⟨rfl, Z8, F8⟩
            have H8 := hideIt (dc H7.out Z8 F8)
            have ho8 := hideIt (ho6.out.drop hd (m : Int))
            clear Z8 F8 H7
            go_wp2_with fail
            refine (sdrop_is H8.out.a ho8.out.ga m2 _ rfl).mono ?_
            rintro e w9 ⟨rfl, Z9, F9⟩
            have H9 := hideIt (pr H8.out Z9 F9)
            clear Z9 F9 H8
            go_wp2
            go_meet
            exact ⟨rfl, _, _, _, _, hideIt ⟨H9.out, ho8.out.dropO hd hm3.out⟩⟩
          · have k1 : (r.k == 1) = false := by simpa using k1
            by_cases k2 : (r.k == 2) = true
            · have k2 : (r.k == 2) = true := k2
              obtain ⟨b, hb⟩ : ∃ b, M.inn (M.sp F m2 d2 r.l) (m : Int) = b := ⟨_, rfl⟩
              have hg := hideIt ((ho6.out.same hd hm4.out).symm.trans hb)
              replace hb := hideIt hb
              go_wp2_with fail
              refine (syield_is H6.out.a ho6.out.ga m b hb.out).mono ?_
              rintro e w7 ⟨rfl, Z7, F7⟩
              have H7 := hideIt (pr H6.out Z7 F7)
              clear Z7 F7 r0
              go_wp2_with fail
              refine (syield_is H7.out.b ho6.out.gb m b hg.out).mono ?_
              rintro e w8 ⟨rfl, Z8, F8⟩
              have H8 := hideIt (dc H7.out Z8 F8)
              clear Z8 F8 H7
              go_wp2
              go_meet
              exact ⟨rfl, _, _, _, _, hideIt ⟨H8.out, ho6.out.yield hd (m : Int)⟩⟩
            · have k2 : (r.k == 2) = false := by simpa using k2
              go_wp2
              go_meet
              exact ⟨rfl, _, _, _, _, hideIt ⟨H6.out, ho6.out⟩⟩
      case rest =>
        obtain ⟨rfl, P', R', F', G', H'⟩ := hcut
        clear H6 r0 r3 t3 hyR hyP6 Y6 Yd Hd gd ho6
        obtain ⟨a, ha⟩ : ∃ a, M.nx (G' d) = a := ⟨_, rfl⟩
        obtain ⟨b, hb⟩ : ∃ b, M.nb (G' d) = b := ⟨_, rfl⟩
        have ha2 := hideIt ha
        have hb2 := hideIt hb
        rw [← H'.out.o.eq] at ha hb
        replace ha := hideIt ha
        replace hb := hideIt hb
        go_wp2_with fail
        refine (pick_is H'.out.t.a (oOk hd) (oPs d) H'.out.o.ga d rfl a b ha.out hb.out).mono ?_
        rintro e w3 ⟨rfl, g3⟩
        have H3 := hideIt (kp H'.out.t g3)
        clear g3
        go_wp2_with fail
        refine (pick_is H3.out.b (oOk hd) (oPs d) H'.out.o.gb d rfl a b ha2.out hb2.out).mono ?_
        rintro e w4 ⟨rfl, g4⟩
        have H4 := hideIt (kp H3.out g4)
        clear g4 H3
        go_wp2
        go_roundg (gk - 1)
        case rel => exact ⟨j + 1, _, _, _, _, by omega, by go_num, hideIt ⟨H4.out, H'.out.o⟩⟩
        case measure => omega
    · go_upto_region 9 with fail
      go_cut [53] from 46 to 53 (fun s wc => s = .bool false ∧ wc = wr)
      case first =>
        by_cases k1 : (j : Int) < (len0 : Int)
        · have k2 : ¬ (j : Int) < 60 := by omega
          go_wp2
          go_meet
          exact ⟨rfl, rfl⟩
        · go_wp2
          go_meet
          exact ⟨rfl, rfl⟩
      case rest =>
      obtain ⟨rfl, rfl⟩ := hcut
      go_wp2
      go_ret
      exact ⟨rfl, H.out.t.gr⟩

theorem walk (x0 : Option Addr) (len0 cap0 : Nat) (a1 : Int) (w : World) (hx0 : Acts4 w x0 len0) :
    Calls Try.prog 7 #[.slice x0 len0 cap0, .int .i64 a1] w fun e w' => e = .returned (.bool true) ∧ Below w.heap.size w w' := endWalk (core x0 len0 cap0 a1 w hx0)

set_option maxRecDepth 100000 in
theorem lifted (os : Os) (started : os.Started) (H : Type) (enc : TypeId × Value → H) :
    ReturnsInHanded {} Try.checked os 7 .any (Rows.schedOthersSpec.pre6 enc Try.prog Try.f7 Rows.schedOthersRow.domain false) (Rows.schedOthersSpec.post enc Try.prog Try.f7 false true false false) := by
  refine returnsInHanded_of_change (C := Try.checked) own started (by kernel_rfl) Try.func7
    (ChangeSpec.witness6 (enc := enc) (C := Try.checked) false ⟨#[], #[.slice none 0 0, .int .i64 0], []⟩ 8 (by kernel_rfl) (by kernel_rfl) (by kernel_rfl) (by kernel_rfl)) ?_
  intro W base args ds gs before hval0 hW hcnd _
  have hval : ∀ (j : Nat) t v, Try.f7.params[j]? = some t → args[j]? = some v → Value.okWide Try.prog W .any base t v := hval0
  have hW' := hW
  obtain ⟨p, q, hA0, hV, rfl, hfz, hnd⟩ := hW
  have hA : DataW.TrodAll enc Try.prog W 0 (fun _ => true) true Try.f7.params.toList args.toList ds p := hA0
  rw [Try.params7] at hA hval
  obtain ⟨v0, vs0, d0, ds0, p0, q0, hargs, rfl, rfl, h0, r0⟩ := trodAll_cons hA
  obtain ⟨v1, vs1, d1, ds1, p1, q1, rfl, rfl, rfl, h1, r1⟩ := trodAll_cons r0
  obtain ⟨rfl, rfl, rfl⟩ := trodAll_nil r1
  obtain rfl : args = #[v0, v1] := by cases args; simp_all
  obtain ⟨rfl, rfl⟩ := trodVars_none hV
  obtain ⟨x0, len0, cap0, rfl⟩ := okWide_slice Try.underlying23 (hval 0 23 v0 rfl rfl)
  have hx0 := opsArg h0
  have k0 := h0
  have lt0 : ∀ x ∈ p0, x.block < W.heap.size := by obtain ⟨m, hm⟩ := k0; exact DataW.trod_lt m _ _ _ hm
  obtain ⟨a1, rfl, rfl, rfl, w1⟩ := open_int Try.underlying3 (hval 1 3 v1 rfl rfl) h1
  clear hA0 hval0
  refine (walk x0 len0 cap0 a1 W hx0).mono fun e W' ⟨he, bel⟩ => ?_
  subst he
  exact ⟨_, rfl, _, _, _, [], _, [], hW', trodAll_mk1 (shut_bool Try.underlying4 _), (trodAll_cons_mk (Below.trod laidOut (by kernel_rfl) (of_decide_eq_true (by kernel_rfl)) k0 bel lt0) (trodAll_cons_mk (shut_int Try.underlying3 w1) trodAll_mk0)), rfl, bel.frame _, fun h => by cases h⟩

theorem over : Rows.schedOthersRow.holds Try.pinned (OpenSpec.ofChange Rows.schedOthersSpec) :=
  OpenClaim.holds_of_wide 7 Try.f7 rfl rfl rfl rfl rfl rfl rfl ⟨rfl, rfl, rfl, rfl, rfl⟩ rfl rfl rfl rfl rfl (by kernel_rfl) Try.func7 (by kernel_rfl)
    (of_decide_eq_true (by kernel_rfl)) (by unfold Func.isWrapper; first | (rw [if_pos (by decide +kernel)]; kernel_rfl) | (rw [if_neg (by decide +kernel)]; exact ⟨rfl, rfl⟩))
    (fun os started H enc _ => lifted os started H enc)

theorem proved : Rows.SchedOthersSaid := over
end Go.Proofs.Ytpacgdplbddclaa.schedOthers
namespace Go.Proofs.Ytpacgdplbddclaa
theorem schedOthers_holds : Rows.SchedOthersSaid := schedOthers.proved
#print axioms schedOthers_holds
end Go.Proofs.Ytpacgdplbddclaa
