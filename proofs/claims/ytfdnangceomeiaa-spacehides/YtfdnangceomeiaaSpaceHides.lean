/- SpaceHides (15.1): with its table taken out of the directory no page of it is listed; with it laid in again, as many as before are listed, and all words are as they were. For every input; no condition. -/
import Derived.Test.YtfdnangceomeiaaSfa
import Derived.Test.YtfdnangceomeiaaOpo
import Derived.Deep.Cut
import Derived.Deep.DeepCutAuto
import Derived.Deep.RegionHeld3
import Derived.Deep.LoopGhost
import Derived.Test.YtfdnangceomeiaaArgs
import Derived.ProofKit
import Derived.OpenShut
import Derived.ShutString
import Derived.ChangeOld
import Derived.Below
import Derived.Deep.Slices
namespace Go.Proofs.Ytfdnangceomeiaa.spaceHides
open Go.ChangeShapes Go.WideShapes Go.ChangeAt Go.RowKit
set_option linter.unusedVariables false

theorem own : ownKnob Try.prog.godebug = none := by kernel_rfl
theorem laidOut : laidOutB Try.prog = true := by kernel_rfl

/-- The law's words: one table, at 16. -/
structure Hd (F : Nat → Nat) (P : Nat) : Prop where
  one : F P = M.wd 1 false
  oth : ∀ i, i < 16 → i ≠ P → F i = 0
theorem Hd.st {F : Nat → Nat} {P x v : Nat} (h : Hd F P) (hP : P < 16) (hx : 16 ≤ x) : Hd (M.st F x v) P :=
  ⟨by rw [M.st_ne (by omega)]; exact h.one, fun i hi hp => by rw [M.st_ne (by omega)]; exact h.oth i hi hp⟩
theorem Hd.map {F : Nat → Nat} {P y f Q : Nat} (h : Hd F P) (hP : P < 16) (hy : y / 256 = P) (hy2 : y < 4096) (hf : f = 16 * Q) (hQ : Q < 24) (o : Bool) :
    ∃ k G, M.chg F (M.tp 512 F 0 (y : Int) (M.al 512 (f : Int))) (M.lay ⟨true, o, (f : Int)⟩) = (k, G) ∧ Hd G P := by
  have u : M.up (F (16 * 0 + y / 256)) = (⟨true, false, ((16 * 1 : Nat) : Int)⟩, 0) := by
    rw [hy, Nat.mul_zero, Nat.zero_add, h.one]; exact M.wd_up false (by omega)
  subst hf
  by_cases c : F (16 * 1 + y / 16 % 16) = 0
  · exact ⟨_, _, M.map_mk (n := 512) (D := 0) (A := y) (P := 1) (Q := Q) (by omega) rfl rfl rfl (by omega) hy2 (by omega) u (by omega) c, h.st hP (by omega)⟩
  · exact ⟨_, _, M.map_twice (n := 512) (D := 0) (A := y) (P := 1) (Q := Q) rfl rfl rfl (by omega) hy2 (by omega) u (by omega) c, h⟩
theorem hd0 (P : Nat) (hP : P < 16) : M.chg W.F0 (M.dp 512 0 ((256 * P : Nat) : Int) (M.al 512 16)) (M.lay ⟨true, false, 16⟩) = (0, M.st W.F0 P (M.wd 1 false)) ∧ Hd (M.st W.F0 P (M.wd 1 false)) P := by
  have e := M.table_mk (n := 512) (F := W.F0) (dir := 0) (a := ((256 * P : Nat) : Int)) (t := 16) (D := 0) (A := 256 * P) (P := 1) (by omega) rfl rfl rfl (by omega) (by omega) (by omega) rfl
  have e2 : 16 * 0 + 256 * P / 256 = P := by omega
  rw [e2] at e
  exact ⟨e, M.st_at _ _ _, fun i _ hp => M.st_ne hp⟩
theorem Hd.out {F : Nat → Nat} {P : Nat} (h : Hd F P) (hP : P < 16) : M.chg F (M.dp 512 0 ((256 * P : Nat) : Int) true) M.out = (0, M.st F P 0) := by
  have e2 : 16 * 0 + 256 * P / 256 = P := by omega
  have e := M.untable_mk (n := 512) (F := F) (dir := 0) (a := ((256 * P : Nat) : Int)) (D := 0) (A := 256 * P) rfl rfl (by omega) (by omega) (by rw [e2, h.one]; exact M.wd_pos _ _)
  rwa [e2] at e
theorem Hd.back {F : Nat → Nat} {P : Nat} (h : Hd F P) (hP : P < 16) : M.chg (M.st F P 0) (M.dp 512 0 ((256 * P + 255 : Nat) : Int) (M.al 512 16)) (M.lay ⟨true, false, 16⟩) = (0, F) := by
  have e2 : 16 * 0 + (256 * P + 255) / 256 = P := by omega
  have e := M.table_mk (n := 512) (F := M.st F P 0) (dir := 0) (a := ((256 * P + 255 : Nat) : Int)) (t := 16) (D := 0) (A := 256 * P + 255) (P := 1) (by omega) rfl rfl rfl (by omega) (by omega) (by omega) (by rw [e2]; exact M.st_at _ _ _)
  rw [e2, M.st_st, M.st_id h.one] at e
  exact e
theorem Hd.none {F : Nat → Nat} {P : Nat} (h : Hd F P) : M.ls 512 (M.st F P 0) 0 = ([], 0) := by
  unfold M.ls
  rw [if_neg (by decide)]
  have e : ∀ j, j ≤ 256 → M.ln 512 (M.st F P 0) 0 j = [] := by
    intro j
    induction j with
    | zero => intro _; rfl
    | succ j ih =>
      intro hj
      have hz : M.st F P 0 (0 + 16 * j / 256) = 0 := by
        by_cases c : 0 + 16 * j / 256 = P
        · rw [c]; exact M.st_at _ _ _
        · rw [M.st_ne c]; exact h.oth _ (by omega) c
      have hp : M.pe 512 (M.st F P 0) 0 ((16 * j : Nat) : Int) = (E.zero, 12) := M.pe_fault (D := 0) (f := 0) (by omega) rfl (by omega) (by rw [hz]; exact M.up_zero)
      rw [M.ln_no hp (by omega)]
      exact ih (by omega)
  rw [e 256 (Nat.le_refl _)]
/-- What the law has. -/
structure Inv (w wr : World) (p b : Nat) (F : Nat → Nat) (P : Nat) : Prop where
  nw : Nw w wr p b 512 F
  hd : Hd F P
theorem lsOk (F : Nat → Nat) : ∃ L : List K3, M.ls 512 F 0 = (L, 0) := by
  unfold M.ls
  exact ⟨_, by rw [if_neg (by decide)]⟩

set_option maxHeartbeats 8000000 in
set_option maxRecDepth 100000 in
theorem core (x0 : Option Addr) (len0 cap0 : Nat) (a1 : Int) (U P c e : Nat) (w : World) (v1 : IntKind.u64.wrap a1 = (U : Int)) (v2 : (U : Int) % 16 = (P : Int)) (Pl : P < 16) (v3 : 256 * (P : Int) = (c : Int)) (cl : c < 4096) (v4 : (c : Int) + 255 = (e : Int)) (el : e < 4096) (hx0 : Acts5 w x0 len0) :
    Calls Try.prog 6 #[.slice x0 len0 cap0, .int .i64 a1] w fun e w' => e = .returned (.bool true) ∧ w.grownBy w' none := by
  have HX := hideIt hx0
  have hc : Hid (c = 256 * P ∧ e = 256 * P + 255) := hideIt ⟨by omega, by omega⟩
  clear hx0
  go_enter Try.func6, Try.ntmps6
  go_wp2_with fail
  refine (works_is _).mono ?_
  rintro e w0 ⟨rfl, g0⟩
  go_wp2_with fail
  refine (new_nw _ 512 (by omega) (by omega)).mono ?_
  rintro e w1 ⟨p, b, rfl, H1⟩
  replace H1 : Hid (Nw w w1 p b 512 W.F0) := hideIt ⟨H1.m, gbTrans g0 H1.g, Nat.le_trans g0.size H1.b0⟩
  clear g0
  have T1 := hideIt (hd0 P Pl)
  rw [← hc.out.1] at T1
  go_wp2_with fail
  refine (table_is _ p b 512 _ _ 0 c 0 16 H1.out.m T1.out.1).mono ?_
  rintro e w2 ⟨rfl, m2, g2⟩
  have H2 : Hid (Inv w w2 p b _ P) := hideIt ⟨H1.out.turn m2 g2, T1.out.2⟩
  clear H1 m2 g2 T1 v1 v2
  obtain ⟨F2, hF2⟩ : ∃ F2, M.st W.F0 P (M.wd 1 false) = F2 := ⟨_, rfl⟩
  rw [hF2] at H2
  clear hF2
  go_wp2_with fail
  go_loopg [7] 20 (fun gk i wr => ∃ (j : Nat) (F : Nat → Nat), j + gk = 20 ∧ i = .int .i64 j ∧ Hid (Inv w wr p b F P))
  case atStart => exact ⟨0, F2, rfl, rfl, H2⟩
  case round =>
    obtain ⟨j, F, hj, rfl, H⟩ := hrel
    clear H2
    by_cases hlt : j < len0 ∧ j < 20
    · obtain ⟨c1, c2⟩ := hlt
      obtain ⟨x, r, rfl, hE⟩ := HX.out j c1
      have hdj : decide ((j : Int) < 20) = true := by simp; omega
      obtain ⟨A1, A, q1, q2, q3⟩ := modArg r.a 256 (by omega)
      obtain ⟨B1, k, f, Q, f1, f2, f3, f4, f5, f6⟩ := frameArg r.t
      obtain ⟨y, hy⟩ : ∃ y : Nat, c + A = y := ⟨_, rfl⟩
      have z1 : IntKind.i64.wrap ((c : Int) + (A : Int)) = (y : Int) := wI (by omega) (by omega)
      obtain ⟨m, hm⟩ : ∃ m : Nat, 16 * k = m := ⟨_, rfl⟩
      have z2 : IntKind.i64.wrap (16 * (k : Int)) = (m : Int) := wI (by omega) (by omega)
      have z3 : IntKind.i64.wrap (64 + (m : Int)) = (f : Int) := wI (by omega) (by omega)
      have z4 : IntKind.i64.wrap (A : Int) = (A : Int) := wI rfl (by omega)
      have z5 : IntKind.i64.wrap (k : Int) = (k : Int) := wI rfl (by omega)
      have z6 : IntKind.i64.wrap (c : Int) = (c : Int) := wI rfl (by omega)
      have z7 : (A1 : Int).tmod 256 = (A : Int) := by rw [Int.tmod_eq_emod_of_nonneg (by omega)]; exact q2
      have z8 : (B1 : Int).tmod 20 = (k : Int) := by rw [Int.tmod_eq_emod_of_nonneg (by omega)]; exact f2
      obtain ⟨K, G, hk⟩ := H.out.hd.map Pl (y := y) (by have := hc.out; omega) (by have := hc.out; omega) f4 f6 r.w
      replace hk := hideIt hk
      have E0 := hE.kept H.out.nw.g
      have S0 : (wr.cell? ⟨(x.add (j * 5)).block, (x.add (j * 5)).off + 2, none⟩ = some (.int .i64 r.a) ∧ wr.cell? ⟨(x.add (j * 5)).block, (x.add (j * 5)).off + 3, none⟩ = some (.int .i64 r.t) ∧ wr.cell? ⟨(x.add (j * 5)).block, (x.add (j * 5)).off + 4, none⟩ = some (.bool r.w)) := ⟨E0.at2, E0.at3, E0.at4⟩
      have Hd0 := hideIt (H.out.nw.kept (gbDrew (gbRefl wr none)))
      have E1 := hE.kept Hd0.out.g
      have S1 : (wr.drew.cell? ⟨(x.add (j * 5)).block, (x.add (j * 5)).off + 2, none⟩ = some (.int .i64 r.a) ∧ wr.drew.cell? ⟨(x.add (j * 5)).block, (x.add (j * 5)).off + 3, none⟩ = some (.int .i64 r.t) ∧ wr.drew.cell? ⟨(x.add (j * 5)).block, (x.add (j * 5)).off + 4, none⟩ = some (.bool r.w)) := ⟨E1.at2, E1.at3, E1.at4⟩
      replace hE := hideIt hE
      clear E0 E1 hy hm f3 f4 f5 f6
      go_upto_region 12 with fail
      go_region_held3 (fun w' => w'.cell? ⟨(x.add (j * 5)).block, (x.add (j * 5)).off + 2, none⟩ = some (.int .i64 r.a) ∧ w'.cell? ⟨(x.add (j * 5)).block, (x.add (j * 5)).off + 3, none⟩ = some (.int .i64 r.t) ∧ w'.cell? ⟨(x.add (j * 5)).block, (x.add (j * 5)).off + 4, none⟩ = some (.bool r.w))
        (first | with_reducible exact S0 | with_reducible exact S1 | with_reducible exact S4 | fail)
        ((go_at_call 19; refine (map_is _ p b 512 F G 0 y K f r.w Hd0.out.m hk.out.1).mono ?_; rintro e w4 ⟨rfl, m4, g4⟩; have H4 : Hid (Inv w w4 p b G P) := hideIt ⟨Hd0.out.turn m4 g4, hk.out.2⟩; have E4 := hE.out.kept H4.out.nw.g; have S4 : (w4.cell? ⟨(x.add (j * 5)).block, (x.add (j * 5)).off + 2, none⟩ = some (.int .i64 r.a) ∧ w4.cell? ⟨(x.add (j * 5)).block, (x.add (j * 5)).off + 3, none⟩ = some (.int .i64 r.t) ∧ w4.cell? ⟨(x.add (j * 5)).block, (x.add (j * 5)).off + 4, none⟩ = some (.bool r.w)) := ⟨E4.at2, E4.at3, E4.at4⟩))
      rename_i hold
      clear hold S0 S1 S4 E4 m4 g4
      clear z1 z2 z3 z4 z5 z6 z7 z8 q1 q2 f1 f2
      go_wp2
      go_roundg (gk - 1)
      case rel => exact ⟨j + 1, _, by omega, by go_num, H4⟩
      case measure => omega
    · go_upto_region 10 with fail
      go_cut [43] from 36 to 43 (fun s wc => s = .bool false ∧ wc = wr)
      case first =>
        by_cases k1 : (j : Int) < (len0 : Int)
        · have k2 : ¬ (j : Int) < 20 := by omega
          go_wp2
          go_meet
          exact ⟨rfl, rfl⟩
        · go_wp2
          go_meet
          exact ⟨rfl, rfl⟩
      case rest =>
      obtain ⟨rfl, rfl⟩ := hcut
      clear hlt hj
      obtain ⟨L, hL⟩ := lsOk F
      replace hL := hideIt hL
      go_wp2_with fail
      refine (words_is _ p b 512 F H.out.nw.m).mono ?_
      rintro e w3 ⟨r1, rfl, hr1, g3, hl1⟩
      have H3 := hideIt (H.out.nw.kept g3)
      have hne : ¬ r1 = b := by have := H.out.nw.m.blt; omega
      have R3 := hideIt hr1
      have HD := hideIt H.out.hd
      clear H g3 hl1 hr1
      go_wp2_with fail
      refine (list_is _ p b 512 F 0 0 L H3.out.m hL.out).mono ?_
      rintro e w4 ⟨v4, rfl, l4, g4⟩
      obtain ⟨n, hn⟩ : ∃ n, L.length = n := ⟨_, rfl⟩
      obtain ⟨s4, c4, rfl⟩ := l4.slice hn
      replace hn := hideIt hn
      have H4 := hideIt (H3.out.kept g4)
      have R4 := hideIt (Y2.rowKeep R3.out g4 (by simp))
      clear H3 g4 l4 R3
      have T5 := hideIt (HD.out.out Pl)
      rw [← hc.out.1] at T5
      go_wp2_with fail
      refine (untable_is _ p b 512 F _ 0 c 0 H4.out.m T5.out).mono ?_
      rintro e w5 ⟨rfl, m5, g5⟩
      have H5 := hideIt (H4.out.turn m5 g5)
      have R5 := hideIt (Y2.rowKeep R4.out g5 (by simpa using hne))
      clear H4 m5 g5 R4 T5
      go_wp2_with fail
      refine (list_is _ p b 512 _ 0 0 [] H5.out.m HD.out.none).mono ?_
      rintro e w6 ⟨v6, rfl, l6, g6⟩
      obtain ⟨s6, c6, rfl⟩ := l6.slice (n := 0) rfl
      have H6 := hideIt (H5.out.kept g6)
      have R6 := hideIt (Y2.rowKeep R5.out g6 (by simp))
      clear H5 g6 l6 R5
      have T7 := hideIt (HD.out.back Pl)
      rw [← hc.out.2] at T7
      go_wp2_with fail
      refine (table_is _ p b 512 _ _ 0 e 0 16 H6.out.m T7.out).mono ?_
      rintro e w7 ⟨rfl, m7, g7⟩
      have H7 := hideIt (H6.out.turn m7 g7)
      have R7 := hideIt (Y2.rowKeep R6.out g7 (by simpa using hne))
      clear H6 m7 g7 R6 T7 hne HD
      go_wp2_with fail
      refine (list_is _ p b 512 F 0 0 L H7.out.m hL.out).mono ?_
      rintro e w8 ⟨v8, rfl, l8, g8⟩
      obtain ⟨s8, c8, rfl⟩ := l8.slice hn.out
      have H8 := hideIt (H7.out.kept g8)
      have R8 := hideIt (Y2.rowKeep R7.out g8 (by simp))
      clear H7 g8 l8 R7
      go_wp2_with fail
      refine (words_is _ p b 512 F H8.out.m).mono ?_
      rintro e w9 ⟨r2, rfl, hr2, g9, _⟩
      have H9 := hideIt (H8.out.kept g9)
      have R9 := hideIt (And.intro (Y2.rowKeep R8.out g9 (by simp)) hr2)
      clear H8 g9 hr2 R8
      go_wp2_with fail
      refine (Y2.same_sl _ _ _ 512 (fun i => (F i : Int)) (fun i => (F i : Int)) (Y2.Sl.ofRow (c := 512) R9.out.2 (by omega)) (Y2.Sl.ofRow (c := 512) R9.out.1 (by omega)) (fun _ _ => rfl)).mono ?_
      rintro e w10 ⟨rfl, q10, rfl⟩
      go_wp2
      go_ret
      exact ⟨rfl, gbTrans H9.out.g (gbDrewN _ _ _)⟩

theorem walk (x0 : Option Addr) (len0 cap0 : Nat) (a1 : Int) (w : World) (hx0 : Acts5 w x0 len0) :
    Calls Try.prog 6 #[.slice x0 len0 cap0, .int .i64 a1] w fun e w' => e = .returned (.bool true) ∧ Below w.heap.size w w' := by
  refine endWalk ?_
  obtain ⟨U, P, v1, v2, hP⟩ := modArg a1 16 (by omega)
  exact core x0 len0 cap0 a1 U P (256 * P) (256 * P + 255) w v1 v2 hP (by omega) (by omega) (by omega) (by omega) hx0

set_option maxRecDepth 100000 in
theorem lifted (os : Os) (started : os.Started) (H : Type) (enc : TypeId × Value → H) :
    ReturnsInHanded {} Try.checked os 6 .any (Rows.spaceHidesSpec.pre6 enc Try.prog Try.f6 Rows.spaceHidesRow.domain false) (Rows.spaceHidesSpec.post enc Try.prog Try.f6 false true false false) := by
  refine returnsInHanded_of_change (C := Try.checked) own started (by kernel_rfl) Try.func6
    (ChangeSpec.witness6 (enc := enc) (C := Try.checked) false ⟨#[], #[.slice none 0 0, .int .i64 0], []⟩ 8 (by kernel_rfl) (by kernel_rfl) (by kernel_rfl) (by kernel_rfl)) ?_
  intro W base args ds gs before hval0 hW hcnd _
  have hval : ∀ (j : Nat) t v, Try.f6.params[j]? = some t → args[j]? = some v → Value.okWide Try.prog W .any base t v := hval0
  have hW' := hW
  obtain ⟨p, q, hA0, hV, rfl, hfz, hnd⟩ := hW
  have hA : DataW.TrodAll enc Try.prog W 0 (fun _ => true) true Try.f6.params.toList args.toList ds p := hA0
  rw [Try.params6] at hA hval
  obtain ⟨v0, vs0, d0, ds0, p0, q0, hargs, rfl, rfl, h0, r0⟩ := trodAll_cons hA
  obtain ⟨v1, vs1, d1, ds1, p1, q1, rfl, rfl, rfl, h1, r1⟩ := trodAll_cons r0
  obtain ⟨rfl, rfl, rfl⟩ := trodAll_nil r1
  obtain rfl : args = #[v0, v1] := by cases args; simp_all
  obtain ⟨rfl, rfl⟩ := trodVars_none hV
  obtain ⟨x0, len0, cap0, rfl⟩ := okWide_slice Try.underlying23 (hval 0 23 v0 rfl rfl)
  have hx0 := opsArg h0
  have k0 := h0
  have lt0 : ∀ x ∈ p0, x.block < W.heap.size := by obtain ⟨m, hm⟩ := k0; exact DataW.trod_lt m _ _ _ hm
  obtain ⟨a1, rfl, rfl, rfl, w1⟩ := open_int Try.underlying3 (hval 1 3 v1 rfl rfl) h1
  clear hA0 hval0
  refine (walk x0 len0 cap0 a1 W hx0).mono fun e W' ⟨he, bel⟩ => ?_
  subst he
  exact ⟨_, rfl, _, _, _, [], _, [], hW', trodAll_mk1 (shut_bool Try.underlying4 _), (trodAll_cons_mk (Below.trod laidOut (by kernel_rfl) (of_decide_eq_true (by kernel_rfl)) k0 bel lt0) (trodAll_cons_mk (shut_int Try.underlying3 w1) trodAll_mk0)), rfl, bel.frame _, fun h => by cases h⟩

theorem over : Rows.spaceHidesRow.holds Try.pinned (OpenSpec.ofChange Rows.spaceHidesSpec) :=
  OpenClaim.holds_of_wide 6 Try.f6 rfl rfl rfl rfl rfl rfl rfl ⟨rfl, rfl, rfl, rfl, rfl⟩ rfl rfl rfl rfl rfl (by kernel_rfl) Try.func6 (by kernel_rfl)
    (of_decide_eq_true (by kernel_rfl)) (by unfold Func.isWrapper; first | (rw [if_pos (by decide +kernel)]; kernel_rfl) | (rw [if_neg (by decide +kernel)]; exact ⟨rfl, rfl⟩))
    (fun os started H enc _ => lifted os started H enc)

theorem proved : Rows.SpaceHidesSaid := over
end Go.Proofs.Ytfdnangceomeiaa.spaceHides
namespace Go.Proofs.Ytfdnangceomeiaa
theorem spaceHides_holds : Rows.SpaceHidesSaid := spaceHides.proved
#print axioms spaceHides_holds
end Go.Proofs.Ytfdnangceomeiaa
