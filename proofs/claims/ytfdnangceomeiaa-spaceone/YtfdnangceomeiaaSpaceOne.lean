/- SpaceOne (15.3): over any memory, whatever is mapped, changed and taken out: each call changes one word of memory at most, and none, if it is refused. For every input; no condition. -/
import Derived.Test.YtfdnangceomeiaaSfa
import Derived.Test.YtfdnangceomeiaaOpo
import Derived.Deep.Cut
import Derived.Deep.DeepCutAuto
import Derived.Deep.LoopGhost
import Derived.Test.YtfdnangceomeiaaArgs
import Derived.ProofKit
import Derived.OpenShut
import Derived.ShutString
import Derived.ChangeOld
import Derived.Below
import Derived.Deep.Slices
namespace Go.Proofs.Ytfdnangceomeiaa.spaceOne
open Go.ChangeShapes Go.WideShapes Go.ChangeAt Go.RowKit
set_option linter.unusedVariables false

theorem own : ownKnob Try.prog.godebug = none := by kernel_rfl
theorem laidOut : laidOutB Try.prog = true := by kernel_rfl

theorem chg_one {F G : Nat → Nat} {y : Int × Int} {g : Nat → Int × Int} {f : Int} (h : M.chg F y g = (f, G)) : ∃ x v, G = M.st F x v ∧ (f ≠ 0 → v = F x) := by
  unfold M.chg at h
  by_cases c : y.2 = 0
  · rw [if_pos c] at h
    by_cases d : (g (F y.1.toNat)).2 = 0
    · rw [if_pos d] at h
      simp only [Prod.mk.injEq] at h
      exact ⟨_, _, h.2.symm, fun e => absurd h.1.symm e⟩
    · rw [if_neg d] at h
      simp only [Prod.mk.injEq] at h
      exact ⟨0, F 0, by rw [M.st_id rfl]; exact h.2.symm, fun _ => rfl⟩
  · rw [if_neg c] at h
    simp only [Prod.mk.injEq] at h
    exact ⟨0, F 0, by rw [M.st_id rfl]; exact h.2.symm, fun _ => rfl⟩
theorem act_one {n : Nat} {F G : Nat → Nat} {q : Q} {f : Int} (h : M.act n F q = (f, G)) : ∃ x v, G = M.st F x v ∧ (f ≠ 0 → v = F x) := by
  unfold M.act at h
  by_cases k0 : (q.k == 0) = true
  · rw [if_pos k0] at h; exact chg_one h
  rw [if_neg k0] at h
  by_cases k1 : (q.k == 1) = true
  · rw [if_pos k1] at h; exact chg_one h
  rw [if_neg k1] at h
  by_cases k2 : (q.k == 2) = true
  · rw [if_pos k2] at h; exact chg_one h
  rw [if_neg k2] at h
  by_cases k3 : (q.k == 3) = true
  · rw [if_pos k3] at h; exact chg_one h
  rw [if_neg k3] at h
  exact chg_one h
/-- How many words below k are other ones. -/
def dc (F : Nat → Nat) (x v k : Nat) : Nat := if x < k ∧ v ≠ F x then 1 else 0
theorem dc_le (F : Nat → Nat) (x v k : Nat) : dc F x v k ≤ 1 := by unfold dc; split <;> omega
theorem dc_zero (F : Nat → Nat) (x v : Nat) : dc F x v 0 = 0 := by unfold dc; rw [if_neg (by omega)]
theorem dc_none {F : Nat → Nat} {x v k : Nat} (h : v = F x) : dc F x v k = 0 := by unfold dc; rw [if_neg (fun e => e.2 h)]
theorem dc_same {F : Nat → Nat} {x v k : Nat} (h : ((F k : Int) != (M.st F x v k : Int)) = false) : dc F x v (k + 1) = dc F x v k := by
  have h0 : (F k : Int) = (M.st F x v k : Int) := by simpa using h
  have h1 : F k = M.st F x v k := by omega
  unfold dc
  by_cases c : k = x
  · subst c
    rw [M.st_at] at h1
    rw [if_neg (fun e => e.2 h1.symm), if_neg (fun e => e.2 h1.symm)]
  · by_cases d : x < k ∧ v ≠ F x
    · rw [if_pos d, if_pos ⟨by omega, d.2⟩]
    · rw [if_neg d, if_neg (fun e => d ⟨by omega, e.2⟩)]
theorem dc_more {F : Nat → Nat} {x v k : Nat} (h : ((F k : Int) != (M.st F x v k : Int)) = true) : dc F x v k = 0 ∧ dc F x v (k + 1) = 1 := by
  have h0 : ¬ (F k : Int) = (M.st F x v k : Int) := by simpa using h
  have h1 : ¬ F k = M.st F x v k := by omega
  have c : k = x := by
    by_cases c : k = x
    · exact c
    · rw [M.st_ne c] at h1; exact absurd rfl h1
  subst c
  rw [M.st_at] at h1
  unfold dc
  exact ⟨if_neg (by omega), if_pos ⟨by omega, fun e => h1 e.symm⟩⟩
/-- Two rows of n words. -/
structure Rw (w : World) (g1 g2 n : Nat) (F G : Nat → Nat) : Prop where
  one : w.rowIs g1 46 n (fun i => .int .u64 (F i : Int))
  two : w.rowIs g2 46 n (fun i => .int .u64 (G i : Int))
theorem Rw.kept {w w' : World} {g1 g2 n : Nat} {F G : Nat → Nat} (h : Rw w g1 g2 n F G) (g : w.grownBy w' none) : Rw w' g1 g2 n F G :=
  ⟨Y2.rowKeep h.one g (by simp), Y2.rowKeep h.two g (by simp)⟩

set_option maxHeartbeats 8000000 in
set_option maxRecDepth 100000 in
theorem core (a0 : Int) (x1 : Option Addr) (len1 cap1 : Nat) (x2 : Option Addr) (len2 cap2 : Nat) (n : Nat) (w : World) (n1 : n ≤ 320)
    (HM : ∀ w', w.grownBy w' none → Calls Try.prog 8 #[.int .i64 a0, .slice x1 len1 cap1] w' fun e w'' => ∃ p b q c F, e = .returned (.tuple #[.pointer (some ⟨p, 0, none⟩), .pointer (some ⟨q, 0, none⟩), .bool true]) ∧ Two w' w'' p b q c n F)
    (hx2 : Acts5 w x2 len2) :
    Calls Try.prog 4 #[.int .i64 a0, .slice x1 len1 cap1, .slice x2 len2 cap2] w fun e w' => e = .returned (.bool true) ∧ w.grownBy w' none := by
  have HX := hideIt hx2
  clear hx2
  go_enter Try.func4, Try.ntmps4
  go_wp2_with fail
  refine (works_is _).mono ?_
  rintro e w1 ⟨rfl, g1⟩
  go_wp2_with fail
  refine (HM _ g1).mono ?_
  rintro e w2 ⟨p, b, q, c, F, rfl, T2⟩
  have H2 : Hid (Nw w w2 p b n F) := hideIt ⟨T2.m, gbTrans g1 T2.g, Nat.le_trans g1.size T2.b0⟩
  clear HM T2 g1
  go_wp2_with fail
  go_loopg [10] 40 (fun gk i wr => ∃ (j : Nat) (F : Nat → Nat), j + gk = 40 ∧ i = .int .i64 j ∧ Hid (Nw w wr p b n F))
  case atStart => exact ⟨0, F, rfl, rfl, H2⟩
  case round =>
    obtain ⟨j, F, hj, rfl, H⟩ := hrel
    clear H2
    by_cases hlt : j < len2 ∧ j < 40
    · obtain ⟨c1, c2⟩ := hlt
      obtain ⟨x, r, rfl, hE⟩ := HX.out j c1
      have hdj : decide ((j : Int) < 40) = true := by simp; omega
      replace hE := hideIt hE
      go_wp2_with fail
      refine (words_is _ p b n F H.out.m).mono ?_
      rintro e w3 ⟨r1, rfl, hr1, g3, hl1⟩
      have H3 := hideIt (H.out.kept g3)
      have hne : ¬ r1 = b := by have := H.out.m.blt; omega
      have R3 := hideIt hr1
      clear H g3 hl1 hr1
      obtain ⟨⟨f, G⟩, hG⟩ : ∃ y, M.act n F r = y := ⟨_, rfl⟩
      have HO := hideIt (act_one hG)
      replace hG := hideIt hG
      obtain ⟨r0, r1', r2, r3, r4⟩ := hE.out.kept H3.out.g
      go_wp2_with fail
      refine (act_is _ p b n F G r f H3.out.m hG.out).mono ?_
      rintro e w4 ⟨rfl, m4, g4⟩
      have H4 := hideIt (H3.out.turn m4 g4)
      have R4 := hideIt (Y2.rowKeep R3.out g4 (by simpa using hne))
      clear H3 m4 g4 R3 hne r0 r1' r2 r3 r4 hG
      obtain ⟨xx, v, hGe, hf⟩ := HO.out
      clear HO
      go_wp2_with fail
      refine (words_is _ p b n G H4.out.m).mono ?_
      rintro e w5 ⟨r2, rfl, hr2, g5, _⟩
      have H5 := hideIt (H4.out.kept g5)
      have R5 : Hid (Rw w5 r1 r2 n F (M.st F xx v)) := hideIt ⟨Y2.rowKeep R4.out g5 (by simp), by rw [← hGe]; exact hr2⟩
      replace hGe := hideIt hGe
      replace hf := hideIt hf
      clear H4 g5 hr2 R4
      obtain ⟨go, hgo⟩ : ∃ go, go = gk := ⟨_, rfl⟩
      subst hgo
      go_wp2_with fail
      go_loopg [14, 15] n (fun gk d i wr => ∃ (k : Nat), k + gk = n ∧ i = .int .i64 k ∧ d = .int .i64 (dc F xx v k : Nat) ∧ w5.grownBy wr none)
      case atStart => exact ⟨0, by omega, rfl, by rw [dc_zero]; rfl, gbRefl _ _⟩
      case round =>
        obtain ⟨k, hk, rfl, rfl, gw⟩ := hrel
        by_cases l : k < n
        · have e1 := (R5.out.kept gw).one.cell l
          have e2 := (R5.out.kept gw).two.cell l
          obtain ⟨z, hz⟩ : ∃ z, ((F k : Int) != (M.st F xx v k : Int)) = z := ⟨_, rfl⟩
          cases z
          · have HD := hideIt (dc_same hz)
            obtain ⟨d, hd⟩ : ∃ d, dc F xx v k = d := ⟨_, rfl⟩
            rw [hd] at HD ⊢
            clear hd
            go_wp2
            go_quiet (fail)
            go_wp2
            go_roundg (gk - 1)
            case rel => exact ⟨k + 1, by omega, by go_num, by rw [HD.out], gbTrans gw (gbDrewN _ _ _)⟩
            case measure => omega
          · obtain ⟨d0, d1⟩ := dc_more hz
            rw [d0]
            replace d1 := hideIt d1
            clear d0
            go_wp2
            go_quiet (fail)
            go_wp2
            go_roundg (gk - 1)
            case rel => exact ⟨k + 1, by omega, by go_num, by rw [d1.out]; rfl, gbTrans gw (gbDrewN _ _ _)⟩
            case measure => omega
        · have H6 := hideIt (H5.out.kept gw)
          have hd1 := dc_le F xx v k
          have hd0 : Hid ((f != 0) = true → dc F xx v k = 0) := hideIt (fun e => dc_none (hf.out (by simpa using e)))
          obtain ⟨d, hd⟩ : ∃ d, dc F xx v k = d := ⟨_, rfl⟩
          rw [hd] at hd1 hd0 ⊢
          clear hd H5 R5 gw
          have q1 : decide ((1 : Int) < (d : Int)) = false := by simp; omega
          obtain ⟨z, hz⟩ : ∃ z, (f != 0) = z := ⟨_, rfl⟩
          cases z
          · go_wp2
            go_roundg (go - 1)
            case rel => exact ⟨j + 1, _, by omega, by go_num, H6⟩
            case measure => omega
          · have d0 := hd0.out hz
            subst d0
            go_wp2
            go_roundg (go - 1)
            case rel => exact ⟨j + 1, _, by omega, by go_num, H6⟩
            case measure => omega
    · go_upto_region 7 with fail
      go_cut [34] from 27 to 34 (fun s wc => s = .bool false ∧ wc = wr)
      case first =>
        by_cases k1 : (j : Int) < (len2 : Int)
        · have k2 : ¬ (j : Int) < 40 := by omega
          go_wp2
          go_meet
          exact ⟨rfl, rfl⟩
        · go_wp2
          go_meet
          exact ⟨rfl, rfl⟩
      case rest =>
      obtain ⟨rfl, rfl⟩ := hcut
      go_wp2
      go_ret
      exact ⟨rfl, H.out.g⟩

theorem walk (a0 : Int) (x1 : Option Addr) (len1 cap1 : Nat) (x2 : Option Addr) (len2 cap2 : Nat) (w : World) (hx1 : Ws w x1 len1) (hx2 : Acts5 w x2 len2) :
    Calls Try.prog 4 #[.int .i64 a0, .slice x1 len1 cap1, .slice x2 len2 cap2] w fun e w' => e = .returned (.bool true) ∧ Below w.heap.size w w' := by
  refine endWalk ?_
  obtain ⟨U, n, u1, u2, n0, n1⟩ := sizeArg a0
  exact core a0 x1 len1 cap1 x2 len2 cap2 n w n1 (fun w' g => made_is a0 n x1 len1 cap1 w' U u1 u2 n0 n1 (hx1.kept g)) hx2

set_option maxRecDepth 100000 in
theorem lifted (os : Os) (started : os.Started) (H : Type) (enc : TypeId × Value → H) :
    ReturnsInHanded {} Try.checked os 4 .any (Rows.spaceOneSpec.pre6 enc Try.prog Try.f4 Rows.spaceOneRow.domain false) (Rows.spaceOneSpec.post enc Try.prog Try.f4 false true false false) := by
  refine returnsInHanded_of_change (C := Try.checked) own started (by kernel_rfl) Try.func4
    (ChangeSpec.witness6 (enc := enc) (C := Try.checked) false ⟨#[], #[.int .i64 0, .slice none 0 0, .slice none 0 0], []⟩ 8 (by kernel_rfl) (by kernel_rfl) (by kernel_rfl) (by kernel_rfl)) ?_
  intro W base args ds gs before hval0 hW hcnd _
  have hval : ∀ (j : Nat) t v, Try.f4.params[j]? = some t → args[j]? = some v → Value.okWide Try.prog W .any base t v := hval0
  have hW' := hW
  obtain ⟨p, q, hA0, hV, rfl, hfz, hnd⟩ := hW
  have hA : DataW.TrodAll enc Try.prog W 0 (fun _ => true) true Try.f4.params.toList args.toList ds p := hA0
  rw [Try.params4] at hA hval
  obtain ⟨v0, vs0, d0, ds0, p0, q0, hargs, rfl, rfl, h0, r0⟩ := trodAll_cons hA
  obtain ⟨v1, vs1, d1, ds1, p1, q1, rfl, rfl, rfl, h1, r1⟩ := trodAll_cons r0
  obtain ⟨v2, vs2, d2, ds2, p2, q2, rfl, rfl, rfl, h2, r2⟩ := trodAll_cons r1
  obtain ⟨rfl, rfl, rfl⟩ := trodAll_nil r2
  obtain rfl : args = #[v0, v1, v2] := by cases args; simp_all
  obtain ⟨rfl, rfl⟩ := trodVars_none hV
  obtain ⟨a0, rfl, rfl, rfl, w0⟩ := open_int Try.underlying3 (hval 0 3 v0 rfl rfl) h0
  obtain ⟨x1, len1, cap1, rfl⟩ := okWide_slice Try.underlying22 (hval 1 22 v1 rfl rfl)
  have hx1 := wordsArg h1
  have k1 := h1
  have lt1 : ∀ x ∈ p1, x.block < W.heap.size := by obtain ⟨m, hm⟩ := k1; exact DataW.trod_lt m _ _ _ hm
  obtain ⟨x2, len2, cap2, rfl⟩ := okWide_slice Try.underlying23 (hval 2 23 v2 rfl rfl)
  have hx2 := opsArg h2
  have k2 := h2
  have lt2 : ∀ x ∈ p2, x.block < W.heap.size := by obtain ⟨m, hm⟩ := k2; exact DataW.trod_lt m _ _ _ hm
  clear hA0 hval0
  refine (walk a0 x1 len1 cap1 x2 len2 cap2 W hx1 hx2).mono fun e W' ⟨he, bel⟩ => ?_
  subst he
  exact ⟨_, rfl, _, _, _, [], _, [], hW', trodAll_mk1 (shut_bool Try.underlying4 _), (trodAll_cons_mk (shut_int Try.underlying3 w0) (trodAll_cons_mk (Below.trod laidOut (by kernel_rfl) (of_decide_eq_true (by kernel_rfl)) k1 bel lt1) (trodAll_cons_mk (Below.trod laidOut (by kernel_rfl) (of_decide_eq_true (by kernel_rfl)) k2 bel lt2) trodAll_mk0))), rfl, bel.frame _, fun h => by cases h⟩

theorem over : Rows.spaceOneRow.holds Try.pinned (OpenSpec.ofChange Rows.spaceOneSpec) :=
  OpenClaim.holds_of_wide 4 Try.f4 rfl rfl rfl rfl rfl rfl rfl ⟨rfl, rfl, rfl, rfl, rfl⟩ rfl rfl rfl rfl rfl (by kernel_rfl) Try.func4 (by kernel_rfl)
    (of_decide_eq_true (by kernel_rfl)) (by unfold Func.isWrapper; first | (rw [if_pos (by decide +kernel)]; kernel_rfl) | (rw [if_neg (by decide +kernel)]; exact ⟨rfl, rfl⟩))
    (fun os started H enc _ => lifted os started H enc)

theorem proved : Rows.SpaceOneSaid := over
end Go.Proofs.Ytfdnangceomeiaa.spaceOne
namespace Go.Proofs.Ytfdnangceomeiaa
theorem spaceOne_holds : Rows.SpaceOneSaid := spaceOne.proved
#print axioms spaceOne_holds
end Go.Proofs.Ytfdnangceomeiaa
