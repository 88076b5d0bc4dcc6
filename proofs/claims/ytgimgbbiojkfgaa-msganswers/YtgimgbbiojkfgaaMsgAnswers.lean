/- MsgAnswers (16.2): an answer has its error's number and its words, four at most, and the registers behind are as they were. For every input that the statement speaks of; none of our own conditions. The proof uses the statement's own bound on the bytes of a list that is handed in (words is appended to a new list). -/
import Derived.Test.YtgimgbbiojkfgaaApw
import Derived.Test.YtgimgbbiojkfgaaArgs
import Derived.ProofKit
import Derived.OpenShut
import Derived.ShutString
import Derived.ChangeOld
import Derived.Below
import Derived.Deep.Slices
namespace Go.Proofs.Ytgimgbbiojkfgaa.msgAnswers
open Go.ChangeShapes Go.WideShapes Go.ChangeAt Go.RowKit
set_option linter.unusedVariables false

theorem own : ownKnob Try.prog.godebug = none := by kernel_rfl
theorem laidOut : laidOutB Try.prog = true := by kernel_rfl

set_option maxHeartbeats 4000000 in
set_option maxRecDepth 10000 in
theorem core (x0 : Option Addr) (len0 cap0 : Nat) (a1 : Int) (U E : Nat) (x2 : Option Addr) (len2 cap2 k : Nat) (g V : Nat → Nat) (w : World)
    (q1 : IntKind.u64.wrap a1 = (U : Int)) (q2 : (U : Int) % 80 = (E : Int)) (E8 : E < 80) (hk : Nat.min len2 4 = k)
    (HG : ∀ w', w.grownBy w' none → Calls Try.prog 13 #[.slice x0 len0 cap0] w' fun r w'' => r = .returned (rv g) ∧ w'.grownBy w'' none)
    (HA : ∀ w' x len cap, Wl w' x len V → len = len2 → Calls Try.prog 16 #[rv g, .int .i64 (E : Int), .slice x len cap] w' fun r w'' => r = .returned (rv (cp (upd g 0 E) V k)) ∧ w'.grownBy w'' none)
    (L : Hid (Wl w x2 len2 V)) (hz : len2 * 8 ≤ reachBytes) :
    Calls Try.prog 7 #[.slice x0 len0 cap0, .int .i64 a1, .slice x2 len2 cap2] w fun e w' => e = .returned (.bool true) ∧ w.grownBy w' none := by
  have k4 : Hid (k ≤ 4) := hideIt (hk ▸ Nat.min_le_right _ _)
  have kl : Hid (k ≤ len2) := hideIt (hk ▸ Nat.min_le_left _ _)
  have kk : Hid (k = len2 ∨ k = 4) := hideIt (by rw [← hk]; show min len2 4 = len2 ∨ min len2 4 = 4; omega)
  clear hk
  replace hz := hideIt hz
  go_enter Try.func7, Try.ntmps7
  go_wp2_with fail
  refine (works_any _).mono ?_
  rintro e w1 ⟨rfl, G⟩
  go_wp2_with fail
  refine (HG _ G).mono ?_
  rintro e w3 ⟨rfl, g3⟩
  go_upto_region 5 with fail
  obtain ⟨W3, hW3, A, k3, s3⟩ := arrNew w3 g 38
  rw [hW3]
  clear hW3 s3
  replace G := gbTrans (gbTrans G g3) k3
  generalize w3.heap.size = x at A
  clear g3 k3 q1 q2
  replace A := hideIt A
  replace L := hideIt (L.out.kept G)
  have HT : ∀ w', W3.grownBy w' none → T8 w' x g := fun w' k => (A.out.kept k).t8
  obtain ⟨h, eh⟩ : ∃ h, h = cp (upd g 0 E) V k := ⟨_, rfl⟩
  rw [← eh] at HA
  replace eh := hideIt eh
  go_cut [8] from 19 to 24 (fun s wc => ∃ y, Value.pointer (some ⟨y, 0, none⟩) = s ∧ Hid (RA wc y 38 h) ∧ W3.grownBy wc none)
  case first =>
    have T0 := HT W3 (gbRefl _ _)
    have gd := gbDrew (gbRefl W3 none)
    go_region_held3 (fun w' => T8 w' x g)
      (first | with_reducible exact T0 | with_reducible exact T8' | with_reducible exact T7 | (refine HT _ ?_; (repeat (first | with_reducible exact gd | with_reducible exact G8 | with_reducible exact G7 | with_reducible exact gbRefl _ _ | with_reducible refine gbDrew ?_ | with_reducible refine gbAllocN ?_ _ | with_reducible refine gbSetNew ?_ _ _ _ (by with_reducible first | exact G7.size | exact Nat.le_refl _ | exact Nat.le_succ _ | exact G8.size))); done) | go_keep | fail)
      (first | (go_at_call 16; refine (HA _ _ _ _ (L7.kept (by repeat (first | with_reducible exact gbRefl _ _ | with_reducible refine gbDrew ?_ | with_reducible refine gbAllocN ?_ _))) rfl).mono ?_; rintro e8 w8 ⟨rfl, g8⟩; (first | (have hc8 := gcellR (gbTrans g7 (gbAny g8 _)); have hf8 := gfrozR (gbTrans g7 (gbAny g8 _))) | (have hc8 := gcell g8; have hf8 := gfroz g8)); have G8 : W3.grownBy w8 none := gbTrans (by repeat (first | with_reducible exact G7 | with_reducible refine gbDrew ?_ | with_reducible refine gbAllocN ?_ _)) g8; have T8' := HT w8 G8) | (refine step_append_words rfl (.tmp 21) (.tmp 22) rfl _ rfl (by repeat (first | exact Emp.new _ | with_reducible exact Emp.two _ _ | with_reducible refine Emp.alloc ?_ _ | with_reducible refine Emp.drew ?_)) x2 len2 cap2 rfl V (L.out.kept (by repeat (first | with_reducible exact gbRefl _ _ | with_reducible refine gbDrew ?_ | with_reducible refine gbAllocN ?_ _))) hz.out ?_; intro x7 cap7 w7 L7 g7; have G7 : W3.grownBy w7 none := gbNew (gbTrans (gbAny (by repeat (first | with_reducible exact gbRefl _ _ | with_reducible refine gbDrew ?_ | with_reducible refine gbAllocN ?_ _)) _) g7) (by simp); have T7 := HT w7 G7) | fail)
    · clear hc8 hf8 T7 T8' T0
      go_wp2
      go_meet
      exact ⟨_, rfl, hideIt (RA.made w8 h 38), gbAllocN G8 _⟩
    · clear hc8 hf8 T7 T8' T0
      go_wp2
      go_meet
      exact ⟨_, rfl, hideIt (((RA.made w7 nil8 38).kept g8).put8 h), gbPut8 G8 _ G7.size _ _ _ _ _ _ _ _⟩
    · clear hc8 hf8 T7 T8' T0
      go_wp2
      go_meet
      exact ⟨_, rfl, hideIt (((((RA.madeAt (W3.alloc (.cells #[] 22)) (W3.heap.size + 1) (by simp) 38).kept (gbDrew (gbRefl _ none))).keep g7 (by simp)).kept g8).put8 h), gbPut8 G8 _ (Nat.le_succ _) _ _ _ _ _ _ _ _⟩
    · clear hc8 hf8 T7 T8' T0
      go_wp2
      go_meet
      exact ⟨_, rfl, hideIt (((((RA.made W3 nil8 38).kept (gbDrew (gbAlloc _ _ none))).keep g7 (by simp)).kept g8).put8 h), gbPut8 G8 _ (Nat.le_refl _) _ _ _ _ _ _ _ _⟩
  case rest =>
  obtain ⟨y, rfl, B, gc⟩ := hcut
  clear HT HA HG
  replace A := hideIt (A.out.kept gc)
  replace L := hideIt (L.out.kept gc)
  replace G := gbTrans G gc
  clear gc
  obtain ⟨W5, e5⟩ : ∃ W5, W5 = wc := ⟨_, rfl⟩
  rw [← e5] at A G B L ⊢
  clear e5
  have b0 := B.out.eight.at0
  have h0 : h 0 = E := by rw [eh.out]; unfold cp; rw [if_neg (by omega)]; rfl
  rw [h0] at b0
  clear h0
  go_wp2_with fail
  clear b0
  go_loopg [9] 7 (fun gk i wr => ∃ j : Nat, j + gk = 8 ∧ 1 ≤ j ∧ i = .int .i64 j ∧ W5.grownBy wr none)
  case atStart => exact ⟨1, rfl, Nat.le_refl _, rfl, gbRefl _ _⟩
  case round =>
    obtain ⟨j, hj, j1, rfl, gw⟩ := hrel
    have GW := gbTrans G gw
    by_cases c1 : j < 8
    · have a1 := (A.out.kept gw).cell c1
      have b1 := (B.out.kept gw).cell c1
      by_cases c2 : j ≤ k
      · have c3 : j ≤ 4 := Nat.le_trans c2 k4.out
        have c4 : j ≤ len2 := Nat.le_trans c2 kl.out
        obtain ⟨m, hm, hmj, ml⟩ : ∃ m : Nat, (j : Int) - 1 = (m : Int) ∧ Hid (j - 1 = m) ∧ m < len2 := ⟨j - 1, by omega, hideIt rfl, by omega⟩
        obtain ⟨v, rfl, hv, _⟩ := (L.out.kept gw) m ml
        have hh : h j = V m := by rw [eh.out]; unfold cp; rw [if_pos (by omega), hmj.out]
        rw [hh] at b1
        clear hh
        go_wp2
        go_roundg (gk - 1)
        case rel => exact ⟨j + 1, by omega, by omega, by go_num, gw⟩
        case measure => omega
      · have hh : h j = g j := by
          rw [eh.out]; unfold cp; rw [if_neg (by omega)]; unfold upd; rw [if_neg (by omega)]
        rw [hh] at b1
        clear hh
        by_cases c3 : j ≤ 4
        · have c4 : ¬ j ≤ len2 := by have := kk.out; omega
          clear c2
          go_wp2
          go_roundg (gk - 1)
          case rel => exact ⟨j + 1, by omega, by omega, by go_num, gw⟩
          case measure => omega
        · clear c2
          go_wp2
          go_roundg (gk - 1)
          case rel => exact ⟨j + 1, by omega, by omega, by go_num, gw⟩
          case measure => omega
    · go_wp2
      go_ret
      exact ⟨rfl, GW⟩

theorem walk (x0 : Option Addr) (len0 cap0 : Nat) (a1 : Int) (x2 : Option Addr) (len2 cap2 : Nat) (w : World)
    (hx0 : ∀ i, i < len0 → ∃ (y : Addr) (z : Nat), x0 = some y ∧ w.cell? (y.add i) = some (.int .u64 (z : Int)) ∧ z < 18446744073709551616)
    (hx2 : ∀ i, i < len2 → ∃ (y : Addr) (z : Nat), x2 = some y ∧ w.cell? (y.add i) = some (.int .u64 (z : Int)) ∧ z < 18446744073709551616) (sz : len2 * 8 ≤ reachBytes) :
    Calls Try.prog 7 #[.slice x0 len0 cap0, .int .i64 a1, .slice x2 len2 cap2] w fun e w' => e = .returned (.bool true) ∧ Below w.heap.size w w' := by
  refine endWalk ?_
  obtain ⟨T, L0⟩ := Wl.of hx0
  obtain ⟨V, L2⟩ := Wl.of hx2
  obtain ⟨U, E, q1, q2, E8⟩ : ∃ U E : Nat, IntKind.u64.wrap a1 = (U : Int) ∧ (U : Int) % 80 = (E : Int) ∧ E < 80 := by
    refine ⟨(IntKind.u64.wrap a1).toNat, (IntKind.u64.wrap a1).toNat % 80, ?_, by omega, by omega⟩
    rw [IntKind.wrap_u64]; omega
  exact core x0 len0 cap0 a1 U E x2 len2 cap2 _ (rg T len0) V w q1 q2 E8 rfl (fun w' g => regs_is T x0 len0 cap0 w' (L0.kept g))
    (fun w' x len cap L e => by subst e; exact answer_is (rg T len0) V (E : Int) E (by rw [IntKind.wrap_u64]; omega) x len cap _ rfl w' L) (hideIt L2) sz

set_option maxRecDepth 100000 in
theorem lifted (os : Os) (started : os.Started) (H : Type) (enc : TypeId × Value → H) :
    ReturnsInHanded {} Try.checked os 7 .any (Rows.msgAnswersSpec.pre6 enc Try.prog Try.f7 Rows.msgAnswersRow.domain false) (Rows.msgAnswersSpec.post enc Try.prog Try.f7 false true false false) := by
  refine returnsInHanded_of_change_sized (C := Try.checked) own started (by kernel_rfl) Try.func7
    (ChangeSpec.witness6 (enc := enc) (C := Try.checked) false ⟨#[], #[.slice none 0 0, .int .i64 0, .slice none 0 0], []⟩ 8 (by kernel_rfl) (by kernel_rfl) (by kernel_rfl) (by kernel_rfl)) ?_
  intro W base args ds gs before hval0 hW hcnd hz _
  have hval : ∀ (j : Nat) t v, Try.f7.params[j]? = some t → args[j]? = some v → Value.okWide Try.prog W .any base t v := hval0
  have hW' := hW
  obtain ⟨p, q, hA0, hV, rfl, hfz, hnd⟩ := hW
  have hA : DataW.TrodAll enc Try.prog W 0 (fun _ => true) true Try.f7.params.toList args.toList ds p := hA0
  rw [Try.params7] at hA hval
  obtain ⟨v0, vs0, d0, ds0, p0, q0, hargs, rfl, rfl, h0, r0⟩ := trodAll_cons hA
  obtain ⟨v1, vs1, d1, ds1, p1, q1, rfl, rfl, rfl, h1, r1⟩ := trodAll_cons r0
  obtain ⟨v2, vs2, d2, ds2, p2, q2, rfl, rfl, rfl, h2, r2⟩ := trodAll_cons r1
  obtain ⟨rfl, rfl, rfl⟩ := trodAll_nil r2
  obtain rfl : args = #[v0, v1, v2] := by cases args; simp_all
  obtain ⟨rfl, rfl⟩ := trodVars_none hV
  obtain ⟨x0, len0, cap0, rfl⟩ := okWide_slice Try.underlying35 (hval 0 35 v0 rfl rfl)
  have hx0 := wordsArg h0
  have k0 := h0
  have lt0 : ∀ x ∈ p0, x.block < W.heap.size := by obtain ⟨m, hm⟩ := k0; exact DataW.trod_lt m _ _ _ hm
  obtain ⟨a1, rfl, rfl, rfl, w1⟩ := open_int Try.underlying3 (hval 1 3 v1 rfl rfl) h1
  obtain ⟨x2, len2, cap2, rfl⟩ := okWide_slice Try.underlying35 (hval 2 35 v2 rfl rfl)
  have hx2 := wordsArg h2
  have sz2 := wordsSized hz (j := 2) (by kernel_rfl) rfl h2
  have k2 := h2
  have lt2 : ∀ x ∈ p2, x.block < W.heap.size := by obtain ⟨m, hm⟩ := k2; exact DataW.trod_lt m _ _ _ hm
  clear hA0 hval0
  refine (walk x0 len0 cap0 a1 x2 len2 cap2 W hx0 hx2 sz2).mono fun e W' ⟨he, bel⟩ => ?_
  subst he
  exact ⟨_, rfl, _, _, _, [], _, [], hW', trodAll_mk1 (shut_bool Try.underlying4 _), (trodAll_cons_mk (Below.trod laidOut (by kernel_rfl) (of_decide_eq_true (by kernel_rfl)) k0 bel lt0) (trodAll_cons_mk (shut_int Try.underlying3 w1) (trodAll_cons_mk (Below.trod laidOut (by kernel_rfl) (of_decide_eq_true (by kernel_rfl)) k2 bel lt2) trodAll_mk0))), rfl, bel.frame _, fun h => by cases h⟩

theorem over : Rows.msgAnswersRow.holds Try.pinned (OpenSpec.ofChange Rows.msgAnswersSpec) :=
  OpenClaim.holds_of_wide 7 Try.f7 rfl rfl rfl rfl rfl rfl rfl ⟨rfl, rfl, rfl, rfl, rfl⟩ rfl rfl rfl rfl rfl (by kernel_rfl) Try.func7 (by kernel_rfl)
    (of_decide_eq_true (by kernel_rfl)) (by unfold Func.isWrapper; first | (rw [if_pos (by decide +kernel)]; kernel_rfl) | (rw [if_neg (by decide +kernel)]; exact ⟨rfl, rfl⟩))
    (fun os started H enc _ => lifted os started H enc)

theorem proved : Rows.MsgAnswersSaid := over
end Go.Proofs.Ytgimgbbiojkfgaa.msgAnswers
namespace Go.Proofs.Ytgimgbbiojkfgaa
theorem msgAnswers_holds : Rows.MsgAnswersSaid := msgAnswers.proved
#print axioms msgAnswers_holds
end Go.Proofs.Ytgimgbbiojkfgaa
