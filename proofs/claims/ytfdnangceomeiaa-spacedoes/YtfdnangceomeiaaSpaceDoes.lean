/- SpaceDoes (15.1, 15.2): over any memory, whatever is mapped, changed and taken out: each answer, all that is listed, and all words are what the chapter says. For every input; no condition. -/
import Derived.Test.YtfdnangceomeiaaRca
import Derived.Test.YtfdnangceomeiaaRli
import Derived.Test.YtfdnangceomeiaaWsp
import Derived.Deep.Cut
import Derived.Deep.DeepCutAuto
import Derived.Deep.RegionHeld3
import Derived.Deep.LoopGhost
import Derived.Test.YtfdnangceomeiaaArgs
import Derived.ProofKit
import Derived.OpenShut
import Derived.ShutString
import Derived.ChangeOld
import Derived.Below
import Derived.Deep.Slices
namespace Go.Proofs.Ytfdnangceomeiaa.spaceDoes
open Go.ChangeShapes Go.WideShapes Go.ChangeAt Go.RowKit
set_option linter.unusedVariables false

theorem own : ownKnob Try.prog.godebug = none := by kernel_rfl
theorem laidOut : laidOutB Try.prog = true := by kernel_rfl

/-- What the first region reads. -/
def Ld (w : World) (y : Addr) (r : Q) : Prop := w.cell? y = some (.int .i64 r.k) ∧ w.cell? ⟨y.block, y.off + 1, none⟩ = some (.int .i64 r.d) ∧ w.cell? ⟨y.block, y.off + 2, none⟩ = some (.int .i64 r.a) ∧ w.cell? ⟨y.block, y.off + 3, none⟩ = some (.int .i64 r.t) ∧ w.cell? ⟨y.block, y.off + 4, none⟩ = some (.bool r.w)
theorem ld_of {w : World} {y : Addr} {r : Q} (h : El5 w y r) : Ld w y r := ⟨h.at0, h.at1, h.at2, h.at3, h.at4⟩

set_option maxHeartbeats 8000000 in
set_option maxRecDepth 100000 in
theorem core (a0 : Int) (x1 : Option Addr) (len1 cap1 : Nat) (x2 : Option Addr) (len2 cap2 : Nat) (n : Nat) (w : World) (n1 : n ≤ 320)
    (HM : ∀ w', w.grownBy w' none → Calls Try.prog 8 #[.int .i64 a0, .slice x1 len1 cap1] w' fun e w'' => ∃ p b q c F, e = .returned (.tuple #[.pointer (some ⟨p, 0, none⟩), .pointer (some ⟨q, 0, none⟩), .bool true]) ∧ Two w' w'' p b q c n F)
    (hx2 : Acts5 w x2 len2) :
    Calls Try.prog 3 #[.int .i64 a0, .slice x1 len1 cap1, .slice x2 len2 cap2] w fun e w' => e = .returned (.bool true) ∧ w.grownBy w' none := by
  have HX := hideIt hx2
  clear hx2
  go_enter Try.func3, Try.ntmps3
  go_wp2_with fail
  refine (HM _ (gbRefl _ _)).mono ?_
  rintro e w2 ⟨p, b, q, c, F, rfl, T2⟩
  have H2 := hideIt T2
  clear HM T2
  go_wp2_with fail
  go_loopg [10] 40 (fun gk i wr => ∃ (j : Nat) (F : Nat → Nat), j + gk = 40 ∧ i = .int .i64 j ∧ Hid (Two w wr p b q c n F))
  case atStart => exact ⟨0, F, rfl, rfl, H2⟩
  case round =>
    obtain ⟨j, F, hj, rfl, H⟩ := hrel
    clear H2
    by_cases hlt : j < len2 ∧ j < 40
    · obtain ⟨c1, c2⟩ := hlt
      obtain ⟨x, r, rfl, hE⟩ := HX.out j c1
      have hdj : decide ((j : Int) < 40) = true := by simp; omega
      replace hE := hideIt hE
      obtain ⟨⟨f, G⟩, hG⟩ : ∃ y, M.act n F r = y := ⟨_, rfl⟩
      replace hG := hideIt hG
      have Td := hideIt (H.out.kept (gbDrew (gbRefl wr none)))
      have S0 := ld_of (hE.out.kept H.out.g)
      have S1 := ld_of (hE.out.kept Td.out.g)
      unfold Ld at S0 S1
      go_upto_region 7 with fail
      go_region_held3 (fun w' => w'.cell? (x.add (j * 5)) = some (.int .i64 r.k) ∧ w'.cell? ⟨(x.add (j * 5)).block, (x.add (j * 5)).off + 1, none⟩ = some (.int .i64 r.d) ∧ w'.cell? ⟨(x.add (j * 5)).block, (x.add (j * 5)).off + 2, none⟩ = some (.int .i64 r.a) ∧ w'.cell? ⟨(x.add (j * 5)).block, (x.add (j * 5)).off + 3, none⟩ = some (.int .i64 r.t) ∧ w'.cell? ⟨(x.add (j * 5)).block, (x.add (j * 5)).off + 4, none⟩ = some (.bool r.w))
        (first | with_reducible exact S0 | with_reducible exact S1 | with_reducible exact S5 | with_reducible exact S6 | fail)
        ((first
          | (go_at_call 10; refine (ract_is _ q c n F G r f R5.out.1 hG.out).mono ?_; rintro e w6 ⟨rfl, m6, g6⟩; have H6 := hideIt (Td.out.turn m5 g5 m6 g6); have S6 := ld_of (hE.out.kept H6.out.g); unfold Ld at S6)
          | (go_at_call 9; refine (act_is _ p b n F G r f Td.out.m hG.out).mono ?_; rintro e w5 ⟨rfl, m5, g5⟩; have R5 := hideIt (Td.out.mid g5); have S5 := ld_of (hE.out.kept R5.out.2); unfold Ld at S5)))
      rename_i hold
      clear hold S0 S1 S5 m5 g5 R5 m6 g6 H Td hG
      obtain ⟨_, e1, _, _, _⟩ := S6
      obtain ⟨⟨L, k⟩, hL⟩ : ∃ y, M.ls n G r.d = y := ⟨_, rfl⟩
      have hl : Hid (L.length ≤ 256) := hideIt (by
        unfold M.ls at hL
        by_cases c : M.al n r.d = false
        · rw [if_pos c] at hL
          simp only [Prod.mk.injEq] at hL
          rw [← hL.1]; simp
        · rw [if_neg c] at hL
          simp only [Prod.mk.injEq] at hL
          rw [← hL.1]; exact M.ln_len _ _ _ _)
      replace hL := hideIt hL
      go_wp2_with fail
      refine (list_is _ p b n G r.d k L H6.out.m hL.out).mono ?_
      rintro e w7 ⟨v7, rfl, l7, g7⟩
      have H7 := hideIt (And.intro (H6.out.kept g7) l7)
      have e2 := g7.cell e1 (by simp)
      clear H6 g7 l7 e1
      go_wp2_with fail
      refine (rlist_is _ q c n G r.d k L H7.out.1.r hL.out).mono ?_
      rintro e w8 ⟨v8, rfl, l8, g8⟩
      have H8 := hideIt (And.intro (H7.out.1.kept g8) (And.intro (H7.out.2.kept g8) l8))
      clear H7 g8 l8 e2 hL
      go_wp2_with fail
      refine (same_is _ _ _ v7 v8 L H8.out.2.1 H8.out.2.2 hl.out).mono ?_
      rintro e w9 ⟨rfl, g9⟩
      have H9 := hideIt (H8.out.1.kept g9)
      clear H8 g9 hl
      go_wp2
      go_roundg (gk - 1)
      case rel => exact ⟨j + 1, _, by omega, by go_num, H9⟩
      case measure => omega
    · go_upto_region 5 with fail
      go_cut [31] from 24 to 31 (fun s wc => s = .bool false ∧ wc = wr)
      case first =>
        by_cases k1 : (j : Int) < (len2 : Int)
        · have k2 : ¬ (j : Int) < 40 := by omega
          go_wp2
          go_meet
          exact ⟨rfl, rfl⟩
        · go_wp2
          go_meet
          exact ⟨rfl, rfl⟩
      case rest =>
      obtain ⟨rfl, rfl⟩ := hcut
      clear hlt hj
      have c1 := H.out.r.is.cell
      have d1 := H.out.kept (gbDrew (gbRefl _ none))
      have c2 := d1.r.is.cell
      replace d1 := hideIt d1
      have nl : n ≤ 65536 := by omega
      go_upto_region 13 with fail
      go_region_held3 (fun w' => w'.cell? ⟨q, 0, none⟩ = some (.slice (some ⟨c, 0, none⟩) n n))
        (first | with_reducible exact c1 | with_reducible exact c2 | with_reducible exact c4 | with_reducible exact c3 | fail)
        ((first
          | (go_at_call 14; refine (Y2.same_sl _ _ _ n (fun i => (F i : Int)) (fun i => (F i : Int)) (Y2.Sl.ofRow (c := n) h3 nl) (Y2.Sl.ofRow (c := n) D3.out.r.is.row nl) (fun _ _ => rfl)).mono ?_; rintro e w4 ⟨rfl, q4, rfl⟩; have D4 := hideIt (D3.out.kept (gbDrewN _ q4 none)); have c4 := D4.out.r.is.cell)
          | (go_at_call 15; refine (words_is _ p b n F d1.out.m).mono ?_; rintro e w3 ⟨r3, rfl, h3, g3, l3⟩; have D3 := hideIt (d1.out.kept g3); have c3 := D3.out.r.is.cell)))
      go_wp2
      go_ret
      exact ⟨rfl, D4.out.g⟩

theorem walk (a0 : Int) (x1 : Option Addr) (len1 cap1 : Nat) (x2 : Option Addr) (len2 cap2 : Nat) (w : World) (hx1 : Ws w x1 len1) (hx2 : Acts5 w x2 len2) :
    Calls Try.prog 3 #[.int .i64 a0, .slice x1 len1 cap1, .slice x2 len2 cap2] w fun e w' => e = .returned (.bool true) ∧ Below w.heap.size w w' := by
  refine endWalk ?_
  obtain ⟨U, n, u1, u2, n0, n1⟩ := sizeArg a0
  exact core a0 x1 len1 cap1 x2 len2 cap2 n w n1 (fun w' g => made_is a0 n x1 len1 cap1 w' U u1 u2 n0 n1 (hx1.kept g)) hx2

set_option maxRecDepth 100000 in
theorem lifted (os : Os) (started : os.Started) (H : Type) (enc : TypeId × Value → H) :
    ReturnsInHanded {} Try.checked os 3 .any (Rows.spaceDoesSpec.pre6 enc Try.prog Try.f3 Rows.spaceDoesRow.domain false) (Rows.spaceDoesSpec.post enc Try.prog Try.f3 false true false false) := by
  refine returnsInHanded_of_change (C := Try.checked) own started (by kernel_rfl) Try.func3
    (ChangeSpec.witness6 (enc := enc) (C := Try.checked) false ⟨#[], #[.int .i64 0, .slice none 0 0, .slice none 0 0], []⟩ 8 (by kernel_rfl) (by kernel_rfl) (by kernel_rfl) (by kernel_rfl)) ?_
  intro W base args ds gs before hval0 hW hcnd _
  have hval : ∀ (j : Nat) t v, Try.f3.params[j]? = some t → args[j]? = some v → Value.okWide Try.prog W .any base t v := hval0
  have hW' := hW
  obtain ⟨p, q, hA0, hV, rfl, hfz, hnd⟩ := hW
  have hA : DataW.TrodAll enc Try.prog W 0 (fun _ => true) true Try.f3.params.toList args.toList ds p := hA0
  rw [Try.params3] at hA hval
  obtain ⟨v0, vs0, d0, ds0, p0, q0, hargs, rfl, rfl, h0, r0⟩ := trodAll_cons hA
  obtain ⟨v1, vs1, d1, ds1, p1, q1, rfl, rfl, rfl, h1, r1⟩ := trodAll_cons r0
  obtain ⟨v2, vs2, d2, ds2, p2, q2, rfl, rfl, rfl, h2, r2⟩ := trodAll_cons r1
  obtain ⟨rfl, rfl, rfl⟩ := trodAll_nil r2
  obtain rfl : args = #[v0, v1, v2] := by cases args; simp_all
  obtain ⟨rfl, rfl⟩ := trodVars_none hV
  obtain ⟨a0, rfl, rfl, rfl, w0⟩ := open_int Try.underlying3 (hval 0 3 v0 rfl rfl) h0
  obtain ⟨x1, len1, cap1, rfl⟩ := okWide_slice Try.underlying22 (hval 1 22 v1 rfl rfl)
  have hx1 := wordsArg h1
  have k1 := h1
  have lt1 : ∀ x ∈ p1, x.block < W.heap.size := by obtain ⟨m, hm⟩ := k1; exact DataW.trod_lt m _ _ _ hm
  obtain ⟨x2, len2, cap2, rfl⟩ := okWide_slice Try.underlying23 (hval 2 23 v2 rfl rfl)
  have hx2 := opsArg h2
  have k2 := h2
  have lt2 : ∀ x ∈ p2, x.block < W.heap.size := by obtain ⟨m, hm⟩ := k2; exact DataW.trod_lt m _ _ _ hm
  clear hA0 hval0
  refine (walk a0 x1 len1 cap1 x2 len2 cap2 W hx1 hx2).mono fun e W' ⟨he, bel⟩ => ?_
  subst he
  exact ⟨_, rfl, _, _, _, [], _, [], hW', trodAll_mk1 (shut_bool Try.underlying4 _), (trodAll_cons_mk (shut_int Try.underlying3 w0) (trodAll_cons_mk (Below.trod laidOut (by kernel_rfl) (of_decide_eq_true (by kernel_rfl)) k1 bel lt1) (trodAll_cons_mk (Below.trod laidOut (by kernel_rfl) (of_decide_eq_true (by kernel_rfl)) k2 bel lt2) trodAll_mk0))), rfl, bel.frame _, fun h => by cases h⟩

theorem over : Rows.spaceDoesRow.holds Try.pinned (OpenSpec.ofChange Rows.spaceDoesSpec) :=
  OpenClaim.holds_of_wide 3 Try.f3 rfl rfl rfl rfl rfl rfl rfl ⟨rfl, rfl, rfl, rfl, rfl⟩ rfl rfl rfl rfl rfl (by kernel_rfl) Try.func3 (by kernel_rfl)
    (of_decide_eq_true (by kernel_rfl)) (by unfold Func.isWrapper; first | (rw [if_pos (by decide +kernel)]; kernel_rfl) | (rw [if_neg (by decide +kernel)]; exact ⟨rfl, rfl⟩))
    (fun os started H enc _ => lifted os started H enc)

theorem proved : Rows.SpaceDoesSaid := over
end Go.Proofs.Ytfdnangceomeiaa.spaceDoes
namespace Go.Proofs.Ytfdnangceomeiaa
theorem spaceDoes_holds : Rows.SpaceDoesSaid := spaceDoes.proved
#print axioms spaceDoes_holds
end Go.Proofs.Ytfdnangceomeiaa
