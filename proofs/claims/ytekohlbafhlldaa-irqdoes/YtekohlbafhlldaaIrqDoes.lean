/- IrqDoes: for every list of acts (Own, Raise, Next, Ack), and every fate of the machine, the call ends and answers true: each answer of the program, what is pending, masked and owned are the document's. For every input, no condition. -/
import Derived.Test.YtekohlbafhlldaaRnx
import Derived.Test.YtekohlbafhlldaaWrk
import Derived.Deep.Cut
import Derived.Deep.CutRange
import Derived.Deep.CutBlock
import Derived.Deep.DeepCutAuto
import Derived.Deep.RegionHeld3
import Derived.Deep.LoopGhost
import Derived.Test.YtekohlbafhlldaaArgs
import Derived.ProofKit
import Derived.OpenShut
import Derived.ShutString
import Derived.ChangeOld
import Derived.Below
import Derived.Deep.Slices
namespace Go.Proofs.Ytekohlbafhlldaa.irqDoes
open Go.ChangeShapes Go.WideShapes Go.ChangeAt Go.RowKit
set_option linter.unusedVariables false

theorem own : ownKnob Try.prog.godebug = none := by kernel_rfl
theorem laidOut : laidOutB Try.prog = true := by kernel_rfl

theorem kJA (x : Nat) (i : I) : Keeps (fun w O => JA w O x i) := fun _ _ _ _ h F d => h.fr F d
/-- Both, side by side. -/
abbrev ST (w0 w : World) (P R : Nat → Prop) (p q : Nat) (i j : I) : Prop := Tw (fun w O => IA w O p i) (fun w O => JA w O q j) w0 w P R
section
variable {w0 w w' : World} {P R : Nat → Prop} {p q : Nat} {i j i' : I}
theorem pr (h : ST w0 w P R p q i j) (Z : IA w' P p i') (f : Fr P w w') : ST w0 w' P R p q i' j := Tw.prog (A' := fun w O => IA w O p i') (kJA q j) h Z f
theorem dc (h : ST w0 w P R p q i j) (Z : JA w' R q i') (f : Fr R w w') : ST w0 w' P R p q i i' := Tw.doc (B' := fun w O => JA w O q i') (kIA p i) h Z f
theorem kp (h : ST w0 w P R p q i j) (g : w.grownBy w' none) : ST w0 w' P R p q i j := Tw.kept (kIA p i) (kJA q j) h g
end
/-- Both, with the same lines. -/
structure Eq2 (w0 w : World) (P R : Nat → Prop) (p q : Nat) (i : I) : Prop where
  t : ST w0 w P R p q i i
  gd : M.Gd i
/-- The two cells of an act that are read. -/
abbrev Tc (w : World) (y : Nat) (r : Q) : Prop := w.cell? ⟨y, 1, none⟩ = some (.int .i64 r.n) ∧ w.cell? ⟨y, 2, none⟩ = some (.int .i64 r.d)
theorem tcOf {w : World} {y : Nat} {r : Q} (h : QBox w y r) : Tc w y r := ⟨h.at1, h.at2⟩

set_option maxHeartbeats 8000000 in
set_option maxRecDepth 100000 in
theorem core (x0 : Option Addr) (len0 cap0 : Nat) (w : World) (hx0 : Acts3 w x0 len0) :
    Calls Try.prog 3 #[.slice x0 len0 cap0] w fun e w' => e = .returned (.bool true) ∧ w.grownBy w' none := by
  have HX := hideIt hx0
  clear hx0
  go_enter Try.func3, Try.ntmps3
  go_wp2_with fail
  refine (new_is w).mono ?_
  rintro e w1 ⟨p, rfl, g1, A1⟩
  replace A1 := hideIt A1
  replace g1 := hideIt g1
  go_wp2_with fail
  refine (rnew_is w1).mono ?_
  rintro e w2 ⟨q, rfl, g2, A2⟩
  have H2 : Hid (Eq2 w w2 (fun k => w.heap.size ≤ k ∧ k < w1.heap.size) (fun k => w1.heap.size ≤ k ∧ k < w2.heap.size) p q M.i0) := hideIt (by
    have s1 := g1.out.size
    have s2 := g2.size
    exact ⟨⟨A1.out.kept g2, A2, fun i hi => by omega, fun i hi => by omega, fun i hi e => by omega, gbTrans g1.out g2⟩, M.gd0⟩)
  clear A1 A2 g1 g2
  obtain ⟨P, hP⟩ : ∃ P : Nat → Prop, (fun k => w.heap.size ≤ k ∧ k < w1.heap.size) = P := ⟨_, rfl⟩
  obtain ⟨R, hR⟩ : ∃ R : Nat → Prop, (fun k => w1.heap.size ≤ k ∧ k < w2.heap.size) = R := ⟨_, rfl⟩
  rw [hP, hR] at H2
  clear hP hR
  go_wp2_with fail
  go_loopg [5] 100 (fun gk s wr => ∃ (j : Nat) (i : I), j + gk = 100 ∧ s = .int .i64 j ∧ Hid (Eq2 w wr P R p q i))
  case atStart => exact ⟨0, _, rfl, rfl, H2⟩
  case round =>
    obtain ⟨j, i, hj, rfl, H⟩ := hrel
    clear H2
    by_cases hlt : j < len0 ∧ j < 100
    · obtain ⟨c1, c2⟩ := hlt
      obtain ⟨x, r, rfl, hE⟩ := HX.out j c1
      have hdj : decide ((j : Int) < 100) = true := by simp; omega
      obtain ⟨r0, r1, r2⟩ := hE.kept H.out.t.gr
      clear hE
      go_upto_region 8 with fail
      obtain ⟨V, hV, Y, gY⟩ := qboxNew wr r
      rw [hV]
      clear hV r0 r1 r2
      have hyP : ¬ P wr.heap.size := fun e => by have := (H.out.t.lo _ e).2; omega
      have hyR : ¬ R wr.heap.size := fun e => by have := (H.out.t.lr _ e).2; omega
      have H0 := hideIt (kp H.out.t gY)
      have gd := hideIt H.out.gd
      obtain ⟨y, hy⟩ : ∃ y, wr.heap.size = y := ⟨_, rfl⟩
      rw [hy] at Y hyP hyR
      rw [hy]
      clear hy gY H
      replace Y := hideIt Y
      have r0 := Y.out.at0
      have gdr := gbDrew (gbRefl V none)
      have Hd := hideIt (kp H0.out gdr)
      have T0 : Tc V y r := tcOf Y.out
      have Yd := hideIt (Y.out.kept gdr)
      have T1 : Tc V.drew y r := tcOf Yd.out
      go_upto_block 2 with fail
      go_cut [7, 8, 9, 10] from 35 to 93 (fun _ _ _ _ wc => ∃ i : I, Hid (Eq2 w wc P R p q i) ∧ Hid (QBox wc y r))
      case first =>
        by_cases k0 : (r.k == 0) = true
        · have k0 : (r.k == 0) = true := k0
          obtain ⟨f, hf⟩ : ∃ f, M.oe i r.n r.d = f := ⟨_, rfl⟩
          replace hf := hideIt hf
          go_upto_region 12 with fail
          go_region_held3 (fun w' => Tc w' y r)
            (first | with_reducible exact T0 | with_reducible exact T1 | with_reducible exact T6 | with_reducible exact T7 | fail)
            ((first
              | (go_at_call 10; refine (rown_is H6.out.b r.n r.d f hf.out).mono ?_; rintro e w7 ⟨rfl, Z7, F7⟩; have H7 := hideIt (dc H6.out Z7 F7); have Y7 := hideIt (Y6.out.fr F7 hyR); have T7 : Tc w7 y r := tcOf Y7.out; clear Z7 F7)
              | (go_at_call 9; refine (own_is Hd.out.a r.n r.d f hf.out).mono ?_; rintro e w6 ⟨rfl, Z6, F6⟩; have H6 := hideIt (pr Hd.out Z6 F6); have Y6 := hideIt (Yd.out.fr F6 hyP); have T6 : Tc w6 y r := tcOf Y6.out; clear Z6 F6)))
          rename_i hold
          clear hold T0 T1 T6 T7
          go_wp2
          go_meet
          exact ⟨_, hideIt ⟨H7.out, gd.out.own _ _⟩, Y7⟩
        · have k0 : (r.k == 0) = false := by simpa using k0
          by_cases k1 : (r.k == 1) = true
          · have k1 : (r.k == 1) = true := k1
            obtain ⟨f, hf⟩ : ∃ f, M.re r.n = f := ⟨_, rfl⟩
            replace hf := hideIt hf
            go_upto_region 15 with fail
            go_region_held3 (fun w' => Tc w' y r)
              (first | with_reducible exact T0 | with_reducible exact T1 | with_reducible exact T6 | with_reducible exact T7 | fail)
              ((first
                | (go_at_call 12; refine (rrraise_is H6.out.b r.n f hf.out).mono ?_; rintro e w7 ⟨rfl, Z7, F7⟩; have H7 := hideIt (dc H6.out Z7 F7); have Y7 := hideIt (Y6.out.fr F7 hyR); have T7 : Tc w7 y r := tcOf Y7.out; clear Z7 F7)
                | (go_at_call 11; refine (rraise_is Hd.out.a r.n f hf.out).mono ?_; rintro e w6 ⟨rfl, Z6, F6⟩; have H6 := hideIt (pr Hd.out Z6 F6); have Y6 := hideIt (Yd.out.fr F6 hyP); have T6 : Tc w6 y r := tcOf Y6.out; clear Z6 F6)))
            rename_i hold
            clear hold T0 T1 T6 T7
            go_wp2
            go_meet
            exact ⟨_, hideIt ⟨H7.out, gd.out.raise _⟩, Y7⟩
          · have k1 : (r.k == 1) = false := by simpa using k1
            by_cases k2 : (r.k == 2) = true
            · have k2 : (r.k == 2) = true := k2
              obtain ⟨t, ht⟩ := M.nx_some i r.d
              obtain ⟨f, hf⟩ : ∃ f, M.nn t = f := ⟨_, rfl⟩
              obtain ⟨b, hb⟩ : ∃ b, t.isSome = b := ⟨_, rfl⟩
              replace ht := hideIt ht
              replace hf := hideIt hf
              replace hb := hideIt hb
              have r2 := Y.out.at2
              clear T0 T1 Hd Yd
              go_wp2_with fail
              refine (next_is H0.out.a r.d t ht.out f b hf.out hb.out).mono ?_
              rintro e w6 ⟨rfl, Z6, F6⟩
              have H6 := hideIt (pr H0.out Z6 F6)
              have Y6 := hideIt (Y.out.fr F6 hyP)
              clear Z6 F6 r0 r2
              have r2 := Y6.out.at2
              go_wp2_with fail
              refine (rnext_is H6.out.b gd.out r.d t ht.out f b hf.out hb.out).mono ?_
              rintro e w7 ⟨rfl, Z7, F7⟩
              have H7 := hideIt (dc H6.out Z7 F7)
              have Y7 := hideIt (Y6.out.fr F7 hyR)
              clear Z7 F7 H6 r2
              go_wp2
              go_meet
              exact ⟨_, hideIt ⟨H7.out, gd.out.next _⟩, Y7⟩
            · have k2 : (r.k == 2) = false := by simpa using k2
              obtain ⟨f, hf⟩ : ∃ f, M.ae i r.n = f := ⟨_, rfl⟩
              replace hf := hideIt hf
              go_upto_region 9 with fail
              go_region_held3 (fun w' => Tc w' y r)
                (first | with_reducible exact T0 | with_reducible exact T1 | with_reducible exact T6 | with_reducible exact T7 | fail)
                ((first
                  | (go_at_call 16; refine (rack_is H6.out.b r.n f hf.out).mono ?_; rintro e w7 ⟨rfl, Z7, F7⟩; have H7 := hideIt (dc H6.out Z7 F7); have Y7 := hideIt (Y6.out.fr F7 hyR); have T7 : Tc w7 y r := tcOf Y7.out; clear Z7 F7)
                  | (go_at_call 15; refine (ack_is Hd.out.a r.n f hf.out).mono ?_; rintro e w6 ⟨rfl, Z6, F6⟩; have H6 := hideIt (pr Hd.out Z6 F6); have Y6 := hideIt (Yd.out.fr F6 hyP); have T6 : Tc w6 y r := tcOf Y6.out; clear Z6 F6)))
              rename_i hold
              clear hold T0 T1 T6 T7
              go_wp2
              go_meet
              exact ⟨_, hideIt ⟨H7.out, gd.out.ack _⟩, Y7⟩
      case rest =>
        obtain ⟨i', H', Y'⟩ := hcut
        clear H0 r0 gd Y Yd Hd T0 T1 gdr
        obtain ⟨f, hf⟩ : ∃ f, M.on i' r.n = f := ⟨_, rfl⟩
        obtain ⟨b, hb⟩ : ∃ b, M.ob i' r.n = b := ⟨_, rfl⟩
        obtain ⟨c, hc⟩ : ∃ c, M.wd i'.p = c := ⟨_, rfl⟩
        obtain ⟨d, hd⟩ : ∃ d, M.wd i'.m = d := ⟨_, rfl⟩
        replace hf := hideIt hf
        replace hb := hideIt hb
        replace hc := hideIt hc
        replace hd := hideIt hd
        have r1 := Y'.out.at1
        go_wp2_with fail
        refine (owner_is H'.out.t.a r.n f b hf.out hb.out).mono ?_
        rintro e w3 ⟨rfl, g3⟩
        have H3 := hideIt (kp H'.out.t g3)
        have Y3 := hideIt (Y'.out.kept g3)
        clear g3 r1
        have r1 := Y3.out.at1
        go_wp2_with fail
        refine (rowner_is H3.out.b r.n f b hf.out hb.out).mono ?_
        rintro e w4 ⟨rfl, g4⟩
        have H4 := hideIt (kp H3.out g4)
        clear g4 H3 r1
        go_wp2_with fail
        refine (pending_is H4.out.a c hc.out).mono ?_
        rintro e w5 ⟨rfl, g5⟩
        have H5 := hideIt (kp H4.out g5)
        clear g5 H4
        go_wp2_with fail
        refine (rpending_is H5.out.b c hc.out).mono ?_
        rintro e w6 ⟨rfl, g6⟩
        have H6 := hideIt (kp H5.out g6)
        clear g6 H5
        go_wp2_with fail
        refine (masked_is H6.out.a d hd.out).mono ?_
        rintro e w7 ⟨rfl, g7⟩
        have H7 := hideIt (kp H6.out g7)
        clear g7 H6
        go_wp2_with fail
        refine (rmasked_is H7.out.b d hd.out).mono ?_
        rintro e w8 ⟨rfl, g8⟩
        have H8 := hideIt (kp H7.out g8)
        clear g8 H7
        go_wp2
        go_roundg (gk - 1)
        case rel => exact ⟨j + 1, _, by omega, by go_num, hideIt ⟨H8.out, H'.out.gd⟩⟩
        case measure => omega
    · go_upto_region 5 with fail
      by_cases k1 : (j : Int) < (len0 : Int)
      · have k2 : ¬ (j : Int) < 100 := by omega
        go_wp2
        go_ret
        exact ⟨rfl, H.out.t.gr⟩
      · go_wp2
        go_ret
        exact ⟨rfl, H.out.t.gr⟩

theorem walk (x0 : Option Addr) (len0 cap0 : Nat) (w : World) (hx0 : Acts3 w x0 len0) :
    Calls Try.prog 3 #[.slice x0 len0 cap0] w fun e w' => e = .returned (.bool true) ∧ Below w.heap.size w w' := endWalk (core x0 len0 cap0 w hx0)

set_option maxRecDepth 100000 in
theorem lifted (os : Os) (started : os.Started) (H : Type) (enc : TypeId × Value → H) :
    ReturnsInHanded {} Try.checked os 3 .any (Rows.irqDoesSpec.pre6 enc Try.prog Try.f3 Rows.irqDoesRow.domain false) (Rows.irqDoesSpec.post enc Try.prog Try.f3 false true false false) := by
  refine returnsInHanded_of_change (C := Try.checked) own started (by kernel_rfl) Try.func3
    (ChangeSpec.witness6 (enc := enc) (C := Try.checked) false ⟨#[], #[.slice none 0 0], []⟩ 8 (by kernel_rfl) (by kernel_rfl) (by kernel_rfl) (by kernel_rfl)) ?_
  intro W base args ds gs before hval0 hW hcnd _
  have hval : ∀ (j : Nat) t v, Try.f3.params[j]? = some t → args[j]? = some v → Value.okWide Try.prog W .any base t v := hval0
  have hW' := hW
  obtain ⟨p, q, hA0, hV, rfl, hfz, hnd⟩ := hW
  have hA : DataW.TrodAll enc Try.prog W 0 (fun _ => true) true Try.f3.params.toList args.toList ds p := hA0
  rw [Try.params3] at hA hval
  obtain ⟨v0, vs0, d0, ds0, p0, q0, hargs, rfl, rfl, h0, r0⟩ := trodAll_cons hA
  obtain ⟨rfl, rfl, rfl⟩ := trodAll_nil r0
  obtain rfl : args = #[v0] := by cases args; simp_all
  obtain ⟨rfl, rfl⟩ := trodVars_none hV
  obtain ⟨x0, len0, cap0, rfl⟩ := okWide_slice Try.underlying22 (hval 0 22 v0 rfl rfl)
  have hx0 := opsArg h0
  have k0 := h0
  have lt0 : ∀ x ∈ p0, x.block < W.heap.size := by obtain ⟨m, hm⟩ := k0; exact DataW.trod_lt m _ _ _ hm
  clear hA0 hval0
  refine (walk x0 len0 cap0 W hx0).mono fun e W' ⟨he, bel⟩ => ?_
  subst he
  exact ⟨_, rfl, _, _, _, [], _, [], hW', trodAll_mk1 (shut_bool Try.underlying4 _), (trodAll_cons_mk (Below.trod laidOut (by kernel_rfl) (of_decide_eq_true (by kernel_rfl)) k0 bel lt0) trodAll_mk0), rfl, bel.frame _, fun h => by cases h⟩

theorem over : Rows.irqDoesRow.holds Try.pinned (OpenSpec.ofChange Rows.irqDoesSpec) :=
  OpenClaim.holds_of_wide 3 Try.f3 rfl rfl rfl rfl rfl rfl rfl ⟨rfl, rfl, rfl, rfl, rfl⟩ rfl rfl rfl rfl rfl (by kernel_rfl) Try.func3 (by kernel_rfl)
    (of_decide_eq_true (by kernel_rfl)) (by unfold Func.isWrapper; first | (rw [if_pos (by decide +kernel)]; kernel_rfl) | (rw [if_neg (by decide +kernel)]; exact ⟨rfl, rfl⟩))
    (fun os started H enc _ => lifted os started H enc)

theorem proved : Rows.IrqDoesSaid := over
end Go.Proofs.Ytekohlbafhlldaa.irqDoes
namespace Go.Proofs.Ytekohlbafhlldaa
theorem irqDoes_holds : Rows.IrqDoesSaid := irqDoes.proved
#print axioms irqDoes_holds
end Go.Proofs.Ytekohlbafhlldaa
