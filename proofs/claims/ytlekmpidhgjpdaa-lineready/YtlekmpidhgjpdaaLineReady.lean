/- LineReady: for every list of acts, and every fate of the machine, the call ends and answers true: each answer of Put, Drop, Next and Levels, and who is ready of the act's level, are what the chapter says. No condition beyond the statement's own. -/
import Derived.Test.YtlekmpidhgjpdaaArgs
import Derived.Test.YtlekmpidhgjpdaaRdz
import Derived.Test.YtlekmpidhgjpdaaRrp
import Derived.Deep.Cut
import Derived.Deep.DeepCutAuto
import Derived.Deep.CutBlock
import Derived.Deep.RegionHeld3
import Derived.Test.YtlekmpidhgjpdaaArgs
import Derived.ProofKit
import Derived.OpenShut
import Derived.ShutString
import Derived.ChangeOld
import Derived.Below
import Derived.Deep.Slices
namespace Go.Proofs.Ytlekmpidhgjpdaa.lineReady
open Go.ChangeShapes Go.WideShapes Go.ChangeAt Go.RowKit
set_option linter.unusedVariables false

theorem own : ownKnob Try.prog.godebug = none := by kernel_rfl
theorem laidOut : laidOutB Try.prog = true := by kernel_rfl

theorem kRA (p : Nat) (D : List (Int × Int)) : Keeps (fun w O => RA w O p D) := fun _ _ _ _ h F hd => h.fr F hd
theorem kDA (q : Nat) (D : List (Int × Int)) : Keeps (fun w O => DA w O q D) := keepsHA eO 51 2 q D
/-- Both, side by side. -/
abbrev RD (w0 w : World) (P R : Nat → Prop) (p q : Nat) (D E : List (Int × Int)) : Prop := Tw (fun w O => RA w O p D) (fun w O => DA w O q E) w0 w P R
theorem pr {w0 w w' : World} {P R : Nat → Prop} {p q : Nat} {D E D' : List (Int × Int)} (h : RD w0 w P R p q D E) (T : RA w' (wide P w w') p D') (k : Fr P w w') : RD w0 w' (wide P w w') R p q D' E := Tw.prog (A' := fun w O => RA w O p D') (kDA q E) h T k
theorem dc {w0 w w' : World} {P R : Nat → Prop} {p q : Nat} {D E D' : List (Int × Int)} (h : RD w0 w P R p q D E) (T : DA w' (wide R w w') q D') (k : Fr R w w') : RD w0 w' P (wide R w w') p q D D' := Tw.doc (B' := fun w O => DA w O q D') (kRA p D) h T k
theorem kp {w0 w w' : World} {P R : Nat → Prop} {p q : Nat} {D E : List (Int × Int)} (h : RD w0 w P R p q D E) (g : w.grownBy w' none) : RD w0 w' P R p q D E := Tw.kept (kRA p D) (kDA q E) h g
/-- Both, with the same ids at the same levels. -/
structure Rs (w0 w : World) (P R : Nat → Prop) (p q : Nat) (D : List (Int × Int)) (n : Nat) : Prop where
  t : RD w0 w P R p q D D
  gd : M.Gd D
  le : D.length ≤ n
/-- The two cells of an act that are read. -/
abbrev Tc (w : World) (x : Addr) (r : Q) : Prop := w.cell? ⟨x.block, x.off + 1, none⟩ = some (.int .i64 r.i) ∧ w.cell? ⟨x.block, x.off + 2, none⟩ = some (.int .i64 r.l)
theorem tcOf {w : World} {x : Addr} {r : Q} (h : El3 w x r) : Tc w x r := ⟨h.at1, h.at2⟩

set_option maxHeartbeats 8000000 in
set_option maxRecDepth 100000 in
theorem core (x0 : Option Addr) (len0 cap0 : Nat) (w : World) (hx0 : Acts3 w x0 len0) :
    Calls Try.prog 4 #[.slice x0 len0 cap0] w fun e w' => e = .returned (.bool true) ∧ w.grownBy w' none := by
  have HX := hideIt hx0
  clear hx0
  go_enter Try.func4, Try.ntmps4
  go_wp2_with fail
  refine (newReady_is w).mono ?_
  rintro e w1 ⟨rfl, A1, s1, g1⟩
  obtain ⟨W2, hW2⟩ : ∃ W2, w1.alloc (.cells #[.slice none 0 0] 44) = W2 := ⟨_, rfl⟩
  have H2 : Hid (Rs w W2 (fun i => i = w.heap.size) (fun i => i = w1.heap.size) w.heap.size w1.heap.size [] 0) := hideIt (by
    have ga : w1.grownBy W2 none := by rw [← hW2]; exact gbAlloc _ _ _
    have hl : w1.heap.size < W2.heap.size := by rw [← hW2]; simp
    refine ⟨⟨A1.kept ga, ⟨⟨.slice none 0 0, by rw [← hW2]; simp, Ls.nil _ _ _ _ _, fun k hk => by cases hk⟩, fun i => by rw [← hW2]; simp, hl, rfl⟩, fun i hi => by subst hi; omega, fun i hi => by subst hi; omega, fun i hi e => by omega, gbTrans g1 ga⟩, M.Gd.nil, by simp⟩)
  obtain ⟨p, hp⟩ : ∃ p, w.heap.size = p := ⟨_, rfl⟩
  obtain ⟨q, hq⟩ : ∃ q, w1.heap.size = q := ⟨_, rfl⟩
  rw [hp, hq] at H2
  clear A1 s1 g1
  go_wp2_with fail
  clear hW2 hp hq
  go_loopg [5] 100 (fun gk i wr => ∃ (j : Nat) (P R : Nat → Prop) (D : List (Int × Int)), j + gk = 100 ∧ i = .int .i64 j ∧ Hid (Rs w wr P R p q D j))
  case atStart => exact ⟨0, _, _, [], rfl, rfl, H2⟩
  case round =>
    obtain ⟨j, P, R, D, hj, rfl, H⟩ := hrel
    clear H2
    by_cases hlt : j < len0 ∧ j < 100
    · obtain ⟨c1, c2⟩ := hlt
      obtain ⟨x, r, rfl, hE⟩ := HX.out j c1
      have hdj : decide ((j : Int) < 100) = true := by simp; omega
      replace hE := hideIt hE
      obtain ⟨r0, r1, r2⟩ := hE.out.kept H.out.t.gr
      have hL := H.out.le
      have Hd := hideIt (kp H.out.t (gbDrew (gbRefl wr none)))
      have T0 := tcOf (hE.out.kept H.out.t.gr)
      have T1 := tcOf (hE.out.kept Hd.out.gr)
      go_upto_if 30 with fail
      go_cut [4] from 30 to 70 (fun s wc => s = .pointer (some ⟨q, 0, none⟩) ∧ ∃ (P R : Nat → Prop) (D : List (Int × Int)), Hid (Rs w wc P R p q D (j + 1)))
      case first =>
        by_cases k0 : (r.k == 0) = true
        · obtain ⟨f, hf⟩ : ∃ f, M.re D r.i r.l = f := ⟨_, rfl⟩
          replace hf := hideIt hf
          go_upto_region 8 with fail
          go_region_held3 (fun w' => Tc w' (x.add (j * 3)) r)
            (first | with_reducible exact T0 | with_reducible exact T1 | with_reducible exact T6 | with_reducible exact T7 | fail)
            ((first
              | (go_at_call 19; refine (rput_is H6.out.b (by omega) r.i r.l f hf.out).mono ?_; rintro e w7 ⟨rfl, Z7, F7⟩; have H7 := hideIt (dc H6.out Z7 F7); have T7 := tcOf (hE.out.kept H7.out.gr); clear Z7 F7)
              | (go_at_call 18; refine (put_is Hd.out.a H.out.gd (by omega) r.i r.l f hf.out).mono ?_; rintro e w6 ⟨rfl, Z6, F6⟩; have H6 := hideIt (pr Hd.out Z6 F6); have T6 := tcOf (hE.out.kept H6.out.gr); clear Z6 F6)))
          rename_i hold
          clear hold r0 r1 r2 T0 T1 T6 T7
          go_wp2
          go_meet
          exact ⟨rfl, _, _, _, hideIt ⟨H7.out, H.out.gd.put _ _, by have := M.rl_len D r.i r.l; omega⟩⟩
        · have k0 : (r.k == 0) = false := by simpa using k0
          obtain ⟨b, hb⟩ : ∃ b, (M.ids D).contains r.i = b := ⟨_, rfl⟩
          replace hb := hideIt hb
          go_upto_region 10 with fail
          go_region_held3 (fun w' => Tc w' (x.add (j * 3)) r)
            (first | with_reducible exact T0 | with_reducible exact T1 | with_reducible exact T6 | with_reducible exact T7 | fail)
            ((first
              | (go_at_call 21; refine (rdrop_is H6.out.b H.out.gd (by omega) r.i b hb.out).mono ?_; rintro e w7 ⟨rfl, Z7, F7⟩; have H7 := hideIt (dc H6.out Z7 F7); have T7 := tcOf (hE.out.kept H7.out.gr); clear Z7 F7)
              | (go_at_call 20; refine (drop_is Hd.out.a H.out.gd (by omega) r.i b hb.out).mono ?_; rintro e w6 ⟨rfl, Z6, F6⟩; have H6 := hideIt (pr Hd.out Z6 F6); have T6 := tcOf (hE.out.kept H6.out.gr); clear Z6 F6)))
          rename_i hold
          clear hold r0 r1 r2 T0 T1 T6 T7
          go_wp2
          go_meet
          exact ⟨rfl, _, _, _, hideIt ⟨H7.out, H.out.gd.drop _, by have := M.rd_len D r.i; omega⟩⟩
      case rest =>
        obtain ⟨rfl, P', R', D', H'⟩ := hcut
        clear H r0 r1 r2 hL Hd T0 T1
        have hL := H'.out.le
        obtain ⟨a, ha⟩ : ∃ a, M.nx D' = a := ⟨_, rfl⟩
        obtain ⟨b, hb⟩ : ∃ b, M.nb D' = b := ⟨_, rfl⟩
        obtain ⟨u, hu⟩ : ∃ u, M.lw D' = u := ⟨_, rfl⟩
        replace ha := hideIt ha
        replace hb := hideIt hb
        replace hu := hideIt hu
        go_wp2_with fail
        refine (next_is H'.out.t.a (by omega) a b ha.out hb.out).mono ?_
        rintro e w3 ⟨rfl, g3⟩
        have H3 := hideIt (kp H'.out.t g3)
        go_wp2_with fail
        refine (rnext_is H3.out.b (by omega) a b ha.out hb.out).mono ?_
        rintro e w4 ⟨rfl, g4⟩
        have H4 := hideIt (kp H3.out g4)
        have Hd := hideIt (kp H4.out (gbDrew (gbRefl w4 none)))
        have T0 := tcOf (hE.out.kept H4.out.gr)
        have T1 := tcOf (hE.out.kept Hd.out.gr)
        clear H3 g3 g4
        go_upto_region 14 with fail
        go_region_held3 (fun w' => Tc w' (x.add (j * 3)) r)
          (first | with_reducible exact T0 | with_reducible exact T1 | with_reducible exact T5 | with_reducible exact T6 | with_reducible exact T7 | with_reducible exact T8 | with_reducible exact T9 | fail)
          ((first
            | (go_at_call 15; refine (same_is (l7.out.kept g8) l8.out (by have := M.lv_len D' r.l; omega)).mono ?_; rintro e w9 ⟨rfl, g9⟩; have H9 := hideIt (kp H8.out g9); have T9 := tcOf (hE.out.kept H9.out.gr))
            | (go_at_call 27; refine (rlist_is H7.out.b (by omega) r.l).mono ?_; rintro e w8 ⟨v8, rfl, l8, g8⟩; have l8 := hideIt l8; have H8 := hideIt (kp H7.out g8); have T8 := tcOf (hE.out.kept H8.out.gr))
            | (go_at_call 26; refine (listOf_is H6.out.a H'.out.gd (by omega) r.l).mono ?_; rintro e w7 ⟨v7, rfl, l7, g7⟩; have l7 := hideIt l7; have H7 := hideIt (kp H6.out g7); have T7 := tcOf (hE.out.kept H7.out.gr))
            | (go_at_call 25; refine (rlevels_is H5.out.b (by omega) u hu.out).mono ?_; rintro e w6 ⟨rfl, g6⟩; have H6 := hideIt (kp H5.out g6); have T6 := tcOf (hE.out.kept H6.out.gr))
            | (go_at_call 24; refine (levels_is Hd.out.a (by omega) u hu.out).mono ?_; rintro e w5 ⟨rfl, g5⟩; have H5 := hideIt (kp Hd.out g5); have T5 := tcOf (hE.out.kept H5.out.gr))))
        rename_i hold
        clear hold T0 T1 T5 T6 T7 T8 T9
        go_wp2
        go_roundg (gk - 1)
        case rel => exact ⟨j + 1, _, _, _, by omega, by go_num, hideIt ⟨H9.out, H'.out.gd, H'.out.le⟩⟩
        case measure => omega
    · go_upto_region 5 with fail
      go_cut [22] from 15 to 22 (fun s wc => s = .bool false ∧ wc = wr)
      case first =>
        by_cases k1 : (j : Int) < (len0 : Int)
        · have k2 : ¬ (j : Int) < 100 := by omega
          go_wp2
          go_meet
          exact ⟨rfl, rfl⟩
        · go_wp2
          go_meet
          exact ⟨rfl, rfl⟩
      case rest =>
      obtain ⟨rfl, rfl⟩ := hcut
      go_wp2
      go_ret
      exact ⟨rfl, H.out.t.gr⟩

theorem walk (x0 : Option Addr) (len0 cap0 : Nat) (w : World) (hx0 : Acts3 w x0 len0) :
    Calls Try.prog 4 #[.slice x0 len0 cap0] w fun e w' => e = .returned (.bool true) ∧ Below w.heap.size w w' := endWalk (core x0 len0 cap0 w hx0)

set_option maxRecDepth 100000 in
theorem lifted (os : Os) (started : os.Started) (H : Type) (enc : TypeId × Value → H) :
    ReturnsInHanded {} Try.checked os 4 .any (Rows.lineReadySpec.pre6 enc Try.prog Try.f4 Rows.lineReadyRow.domain false) (Rows.lineReadySpec.post enc Try.prog Try.f4 false true false false) := by
  refine returnsInHanded_of_change (C := Try.checked) own started (by kernel_rfl) Try.func4
    (ChangeSpec.witness6 (enc := enc) (C := Try.checked) false ⟨#[], #[.slice none 0 0], []⟩ 8 (by kernel_rfl) (by kernel_rfl) (by kernel_rfl) (by kernel_rfl)) ?_
  intro W base args ds gs before hval0 hW hcnd _
  have hval : ∀ (j : Nat) t v, Try.f4.params[j]? = some t → args[j]? = some v → Value.okWide Try.prog W .any base t v := hval0
  have hW' := hW
  obtain ⟨p, q, hA0, hV, rfl, hfz, hnd⟩ := hW
  have hA : DataW.TrodAll enc Try.prog W 0 (fun _ => true) true Try.f4.params.toList args.toList ds p := hA0
  rw [Try.params4] at hA hval
  obtain ⟨v0, vs0, d0, ds0, p0, q0, hargs, rfl, rfl, h0, r0⟩ := trodAll_cons hA
  obtain ⟨rfl, rfl, rfl⟩ := trodAll_nil r0
  obtain rfl : args = #[v0] := by cases args; simp_all
  obtain ⟨rfl, rfl⟩ := trodVars_none hV
  obtain ⟨x0, len0, cap0, rfl⟩ := okWide_slice Try.underlying22 (hval 0 22 v0 rfl rfl)
  have hx0 := opsArg h0
  have k0 := h0
  have lt0 : ∀ x ∈ p0, x.block < W.heap.size := by obtain ⟨m, hm⟩ := k0; exact DataW.trod_lt m _ _ _ hm
  clear hA0 hval0
  refine (walk x0 len0 cap0 W hx0).mono fun e W' ⟨he, bel⟩ => ?_
  subst he
  exact ⟨_, rfl, _, _, _, [], _, [], hW', trodAll_mk1 (shut_bool Try.underlying4 _), (trodAll_cons_mk (Below.trod laidOut (by kernel_rfl) (of_decide_eq_true (by kernel_rfl)) k0 bel lt0) trodAll_mk0), rfl, bel.frame _, fun h => by cases h⟩

theorem over : Rows.lineReadyRow.holds Try.pinned (OpenSpec.ofChange Rows.lineReadySpec) :=
  OpenClaim.holds_of_wide 4 Try.f4 rfl rfl rfl rfl rfl rfl rfl ⟨rfl, rfl, rfl, rfl, rfl⟩ rfl rfl rfl rfl rfl (by kernel_rfl) Try.func4 (by kernel_rfl)
    (of_decide_eq_true (by kernel_rfl)) (by unfold Func.isWrapper; first | (rw [if_pos (by decide +kernel)]; kernel_rfl) | (rw [if_neg (by decide +kernel)]; exact ⟨rfl, rfl⟩))
    (fun os started H enc _ => lifted os started H enc)

theorem proved : Rows.LineReadySaid := over
end Go.Proofs.Ytlekmpidhgjpdaa.lineReady
namespace Go.Proofs.Ytlekmpidhgjpdaa
theorem lineReady_holds : Rows.LineReadySaid := lineReady.proved
#print axioms lineReady_holds
end Go.Proofs.Ytlekmpidhgjpdaa
