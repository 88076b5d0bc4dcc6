/- LineDoes: for every list of acts, and every fate of the machine, the call ends and answers true: each answer of Push, Pop and Remove, and who waits, are what the chapter says. No condition beyond the statement's own. -/
import Derived.Test.YtlekmpidhgjpdaaArgs
import Derived.Test.YtlekmpidhgjpdaaRln
import Derived.Deep.Cut
import Derived.Deep.DeepCutAuto
import Derived.Deep.CutBlock
import Derived.Deep.RegionHeld3
import Derived.Test.YtlekmpidhgjpdaaArgs
import Derived.ProofKit
import Derived.OpenShut
import Derived.ShutString
import Derived.ChangeOld
import Derived.Below
import Derived.Deep.Slices
namespace Go.Proofs.Ytlekmpidhgjpdaa.lineDoes
open Go.ChangeShapes Go.WideShapes Go.ChangeAt Go.RowKit
set_option linter.unusedVariables false

theorem own : ownKnob Try.prog.godebug = none := by kernel_rfl
theorem laidOut : laidOutB Try.prog = true := by kernel_rfl

/-- Both lines, all new, with the same ids. -/
structure Ld (w0 w : World) (P R : Nat → Prop) (p q : Nat) (L : List Int) (n : Nat) : Prop where
  t : Tw (fun w O => LA w O p L) (fun w O => LA w O q L) w0 w P R
  nd : L.Nodup
  le : L.length ≤ n
theorem kLA (p : Nat) (L : List Int) : Keeps (fun w O => LA w O p L) := keepsHA eI 3 1 p L

/-- The two lines side by side. -/
abbrev LL (w0 w : World) (P R : Nat → Prop) (p q : Nat) (L D : List Int) : Prop := Tw (fun w O => LA w O p L) (fun w O => LA w O q D) w0 w P R
theorem pr {w0 w w' : World} {P R : Nat → Prop} {p q : Nat} {L D L' : List Int} (h : LL w0 w P R p q L D) (T : LA w' (wide P w w') p L') (k : Fr P w w') : LL w0 w' (wide P w w') R p q L' D := Tw.prog (A' := fun w O => LA w O p L') (kLA q D) h T k
theorem dc {w0 w w' : World} {P R : Nat → Prop} {p q : Nat} {L D L' : List Int} (h : LL w0 w P R p q L D) (T : LA w' (wide R w w') q L') (k : Fr R w w') : LL w0 w' P (wide R w w') p q L L' := Tw.doc (B' := fun w O => LA w O q L') (kLA p L) h T k

set_option maxHeartbeats 8000000 in
set_option maxRecDepth 100000 in
theorem core (x0 : Option Addr) (len0 cap0 : Nat) (w : World) (hx0 : Acts3 w x0 len0) :
    Calls Try.prog 3 #[.slice x0 len0 cap0] w fun e w' => e = .returned (.bool true) ∧ w.grownBy w' none := by
  have HX := hideIt hx0
  clear hx0
  go_enter Try.func3, Try.ntmps3
  go_wp2_with fail
  refine (new_is w).mono ?_
  rintro e w1 ⟨rfl, A1, s1, g1⟩
  obtain ⟨W2, hW2⟩ : ∃ W2, w1.alloc (.cells #[.slice none 0 0] 28) = W2 := ⟨_, rfl⟩
  have H2 : Hid (Ld w W2 (fun i => i = w.heap.size) (fun i => i = w1.heap.size) w.heap.size w1.heap.size [] 0) := hideIt (by
    have ga : w1.grownBy W2 none := by rw [← hW2]; exact gbAlloc _ _ _
    have hl : w1.heap.size < W2.heap.size := by rw [← hW2]; simp
    refine ⟨⟨A1.kept ga, ⟨⟨.slice none 0 0, by rw [← hW2]; simp, Ls.nil _ _ _ _ _, fun k hk => by cases hk⟩, fun i => by rw [← hW2]; simp, hl, rfl⟩, fun i hi => by subst hi; omega, fun i hi => by subst hi; omega, fun i hi e => by omega, gbTrans g1 ga⟩, by simp, by simp⟩)
  obtain ⟨p, hp⟩ : ∃ p, w.heap.size = p := ⟨_, rfl⟩
  obtain ⟨q, hq⟩ : ∃ q, w1.heap.size = q := ⟨_, rfl⟩
  rw [hp, hq] at H2
  clear A1 s1 g1
  go_wp2_with fail
  clear hW2 hp hq
  go_loopg [5] 100 (fun gk i wr => ∃ (j : Nat) (P R : Nat → Prop) (L : List Int), j + gk = 100 ∧ i = .int .i64 j ∧ Hid (Ld w wr P R p q L j))
  case atStart => exact ⟨0, _, _, [], rfl, rfl, H2⟩
  case round =>
    obtain ⟨j, P, R, L, hj, rfl, H⟩ := hrel
    clear H2
    by_cases hlt : j < len0 ∧ j < 100
    · obtain ⟨c1, c2⟩ := hlt
      obtain ⟨x, r, rfl, hE⟩ := HX.out j c1
      have hdj : decide ((j : Int) < 100) = true := by simp; omega
      replace hE := hideIt hE
      obtain ⟨r0, r1, r2⟩ := hE.out.kept H.out.t.gr
      have hL := H.out.le
      go_upto_block 2 with fail
      go_cut [6, 7, 8, 9] from 30 to 83 (fun _ _ _ _ wc => ∃ (P R : Nat → Prop) (L : List Int), Hid (Ld w wc P R p q L (j + 1)))
      case first =>
        by_cases k0 : (r.k == 0) = true
        · obtain ⟨f, hf⟩ : ∃ f, M.pe L r.i = f := ⟨_, rfl⟩
          replace hf := hideIt hf
          have Hd := hideIt (Tw.kept (kLA p L) (kLA q L) H.out.t (gbDrew (gbRefl wr none)))
          have T1 := (hE.out.kept Hd.out.gr).at1
          go_upto_region 9 with fail
          go_region_held3 (fun w' => w'.cell? ⟨(x.add (j * 3)).block, (x.add (j * 3)).off + 1, none⟩ = some (.int .i64 r.i))
            (first | with_reducible exact r1 | with_reducible exact T1 | with_reducible exact T6 | with_reducible exact T7 | fail)
            ((first
              | (go_at_call 10; refine (rpush_is H6.out.b (by omega) r.i f hf.out).mono ?_; rintro e w7 ⟨rfl, Z7, F7⟩; have H7 := hideIt (dc H6.out Z7 F7); have T7 := (hE.out.kept H7.out.gr).at1; clear Z7 F7)
              | (go_at_call 9; refine (push_is Hd.out.a (by omega) r.i f hf.out).mono ?_; rintro e w6 ⟨rfl, Z6, F6⟩; have H6 := hideIt (pr Hd.out Z6 F6); have T6 := (hE.out.kept H6.out.gr).at1; clear Z6 F6)))
          rename_i hold
          clear hold r0 r1 r2 T1 T6 T7
          go_wp2
          go_meet
          exact ⟨_, _, _, hideIt ⟨H7.out, M.pl_nodup _ H.out.nd, by have := M.pl_len L r.i; omega⟩⟩
        · have k0 : (r.k == 0) = false := by simpa using k0
          by_cases k1 : (r.k == 1) = true
          · obtain ⟨a, ha⟩ : ∃ a, M.hd L = a := ⟨_, rfl⟩
            obtain ⟨b, hb⟩ : ∃ b, M.hb L = b := ⟨_, rfl⟩
            replace ha := hideIt ha
            replace hb := hideIt hb
            go_wp2_with fail
            refine (pop_is H.out.t.a (by omega) H.out.nd a b ha.out hb.out).mono ?_
            rintro e w6 ⟨rfl, Z6, F6⟩
            have H6 := hideIt (pr H.out.t Z6 F6)
            clear Z6 F6 r0 r1 r2
            go_wp2_with fail
            refine (rpop_is H6.out.b (by omega) a b ha.out hb.out).mono ?_
            rintro e w7 ⟨rfl, Z7, F7⟩
            have H7 := hideIt (dc H6.out Z7 F7)
            clear Z7 F7 H6
            go_wp2
            go_meet
            exact ⟨_, _, _, hideIt ⟨H7.out, H.out.nd.sublist (List.tail_sublist _), by rw [List.length_tail]; omega⟩⟩
          · have k1 : (r.k == 1) = false := by simpa using k1
            by_cases k2 : (r.k == 2) = true
            · obtain ⟨b, hb⟩ : ∃ b, L.contains r.i = b := ⟨_, rfl⟩
              replace hb := hideIt hb
              have Hd := hideIt (Tw.kept (kLA p L) (kLA q L) H.out.t (gbDrew (gbRefl wr none)))
              have T1 := (hE.out.kept Hd.out.gr).at1
              go_upto_region 17 with fail
              go_region_held3 (fun w' => w'.cell? ⟨(x.add (j * 3)).block, (x.add (j * 3)).off + 1, none⟩ = some (.int .i64 r.i))
                (first | with_reducible exact r1 | with_reducible exact T1 | with_reducible exact T6 | with_reducible exact T7 | fail)
                ((first
                  | (go_at_call 14; refine (rremove_is H6.out.b (by omega) H.out.nd r.i b hb.out).mono ?_; rintro e w7 ⟨rfl, Z7, F7⟩; have H7 := hideIt (dc H6.out Z7 F7); have T7 := (hE.out.kept H7.out.gr).at1; clear Z7 F7)
                  | (go_at_call 13; refine (remove_is Hd.out.a (by omega) H.out.nd r.i b hb.out).mono ?_; rintro e w6 ⟨rfl, Z6, F6⟩; have H6 := hideIt (pr Hd.out Z6 F6); have T6 := (hE.out.kept H6.out.gr).at1; clear Z6 F6)))
              rename_i hold
              clear hold r0 r1 r2 T1 T6 T7
              go_wp2
              go_meet
              exact ⟨_, _, _, hideIt ⟨H7.out, M.wo_nodup H.out.nd, by have := M.wo_len L r.i; omega⟩⟩
            · have k2 : (r.k == 2) = false := by simpa using k2
              clear r1 r2
              go_wp2
              go_meet
              exact ⟨_, _, _, hideIt ⟨H.out.t, H.out.nd, by omega⟩⟩
      case rest =>
        obtain ⟨P', R', L', H'⟩ := hcut
        clear H r0 r1 r2 hL
        have hL := H'.out.le
        obtain ⟨v, cv, lv, _⟩ := H'.out.t.b.ex
        have lv := hideIt lv
        have Hd := hideIt (Tw.kept (kLA p L') (kLA q L') H'.out.t (gbDrew (gbRefl _ none)))
        have T1 := (gbDrew (gbRefl _ none)).cell cv (by simp)
        go_upto_region 19 with fail
        go_region_held3 (fun w' => w'.cell? ⟨q, 0, none⟩ = some v)
          (first | with_reducible exact cv | with_reducible exact T1 | with_reducible exact T6 | with_reducible exact T7 | fail)
          ((first
            | (go_at_call 15; refine (same_is l6.out ((lv.out.kept (gbDrew (gbRefl _ none))).kept g6) (by omega)).mono ?_; rintro e w7 ⟨rfl, g7⟩; have T7 := (gbTrans (gbTrans (gbDrew (gbRefl _ none)) g6) g7).cell cv (by simp))
            | (go_at_call 16; refine (list_is Hd.out.a (by omega)).mono ?_; rintro e w6 ⟨v6, rfl, l6, g6⟩; have l6 := hideIt l6; have T6 := (gbTrans (gbDrew (gbRefl _ none)) g6).cell cv (by simp))))
        rename_i hold
        clear hold cv T1 T6 T7
        go_wp2
        go_roundg (gk - 1)
        case rel => exact ⟨j + 1, _, _, _, by omega, by go_num, hideIt ⟨Tw.kept (kLA p L') (kLA q L') (Tw.kept (kLA p L') (kLA q L') Hd.out g6) g7, H'.out.nd, H'.out.le⟩⟩
        case measure => omega
    · go_upto_region 5 with fail
      go_cut [22] from 15 to 22 (fun s wc => s = .bool false ∧ wc = wr)
      case first =>
        by_cases k1 : (j : Int) < (len0 : Int)
        · have k2 : ¬ (j : Int) < 100 := by omega
          go_wp2
          go_meet
          exact ⟨rfl, rfl⟩
        · go_wp2
          go_meet
          exact ⟨rfl, rfl⟩
      case rest =>
      obtain ⟨rfl, rfl⟩ := hcut
      go_wp2
      go_ret
      exact ⟨rfl, H.out.t.gr⟩

theorem walk (x0 : Option Addr) (len0 cap0 : Nat) (w : World) (hx0 : Acts3 w x0 len0) :
    Calls Try.prog 3 #[.slice x0 len0 cap0] w fun e w' => e = .returned (.bool true) ∧ Below w.heap.size w w' := endWalk (core x0 len0 cap0 w hx0)

set_option maxRecDepth 100000 in
theorem lifted (os : Os) (started : os.Started) (H : Type) (enc : TypeId × Value → H) :
    ReturnsInHanded {} Try.checked os 3 .any (Rows.lineDoesSpec.pre6 enc Try.prog Try.f3 Rows.lineDoesRow.domain false) (Rows.lineDoesSpec.post enc Try.prog Try.f3 false true false false) := by
  refine returnsInHanded_of_change (C := Try.checked) own started (by kernel_rfl) Try.func3
    (ChangeSpec.witness6 (enc := enc) (C := Try.checked) false ⟨#[], #[.slice none 0 0], []⟩ 8 (by kernel_rfl) (by kernel_rfl) (by kernel_rfl) (by kernel_rfl)) ?_
  intro W base args ds gs before hval0 hW hcnd _
  have hval : ∀ (j : Nat) t v, Try.f3.params[j]? = some t → args[j]? = some v → Value.okWide Try.prog W .any base t v := hval0
  have hW' := hW
  obtain ⟨p, q, hA0, hV, rfl, hfz, hnd⟩ := hW
  have hA : DataW.TrodAll enc Try.prog W 0 (fun _ => true) true Try.f3.params.toList args.toList ds p := hA0
  rw [Try.params3] at hA hval
  obtain ⟨v0, vs0, d0, ds0, p0, q0, hargs, rfl, rfl, h0, r0⟩ := trodAll_cons hA
  obtain ⟨rfl, rfl, rfl⟩ := trodAll_nil r0
  obtain rfl : args = #[v0] := by cases args; simp_all
  obtain ⟨rfl, rfl⟩ := trodVars_none hV
  obtain ⟨x0, len0, cap0, rfl⟩ := okWide_slice Try.underlying22 (hval 0 22 v0 rfl rfl)
  have hx0 := opsArg h0
  have k0 := h0
  have lt0 : ∀ x ∈ p0, x.block < W.heap.size := by obtain ⟨m, hm⟩ := k0; exact DataW.trod_lt m _ _ _ hm
  clear hA0 hval0
  refine (walk x0 len0 cap0 W hx0).mono fun e W' ⟨he, bel⟩ => ?_
  subst he
  exact ⟨_, rfl, _, _, _, [], _, [], hW', trodAll_mk1 (shut_bool Try.underlying4 _), (trodAll_cons_mk (Below.trod laidOut (by kernel_rfl) (of_decide_eq_true (by kernel_rfl)) k0 bel lt0) trodAll_mk0), rfl, bel.frame _, fun h => by cases h⟩

theorem over : Rows.lineDoesRow.holds Try.pinned (OpenSpec.ofChange Rows.lineDoesSpec) :=
  OpenClaim.holds_of_wide 3 Try.f3 rfl rfl rfl rfl rfl rfl rfl ⟨rfl, rfl, rfl, rfl, rfl⟩ rfl rfl rfl rfl rfl (by kernel_rfl) Try.func3 (by kernel_rfl)
    (of_decide_eq_true (by kernel_rfl)) (by unfold Func.isWrapper; first | (rw [if_pos (by decide +kernel)]; kernel_rfl) | (rw [if_neg (by decide +kernel)]; exact ⟨rfl, rfl⟩))
    (fun os started H enc _ => lifted os started H enc)

theorem proved : Rows.LineDoesSaid := over
end Go.Proofs.Ytlekmpidhgjpdaa.lineDoes
namespace Go.Proofs.Ytlekmpidhgjpdaa
theorem lineDoes_holds : Rows.LineDoesSaid := lineDoes.proved
#print axioms lineDoes_holds
end Go.Proofs.Ytlekmpidhgjpdaa
