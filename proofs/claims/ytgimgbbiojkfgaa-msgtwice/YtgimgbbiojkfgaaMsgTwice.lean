/- MsgTwice (16.2): a message that is carried on to a third one is the first one's, with the last badge. For every input; no condition. -/
import Derived.Test.YtgimgbbiojkfgaaTwc
import Derived.Test.YtgimgbbiojkfgaaArgs
import Derived.ProofKit
import Derived.OpenShut
import Derived.ShutString
import Derived.ChangeOld
import Derived.Below
import Derived.Deep.Slices
namespace Go.Proofs.Ytgimgbbiojkfgaa.msgTwice
open Go.ChangeShapes Go.WideShapes Go.ChangeAt Go.RowKit
set_option linter.unusedVariables false

theorem own : ownKnob Try.prog.godebug = none := by kernel_rfl
theorem laidOut : laidOutB Try.prog = true := by kernel_rfl

set_option maxHeartbeats 4000000 in
set_option maxRecDepth 10000 in
theorem core (A0 l : Nat) (a1 : Int) (U N : Nat) (x2 : Option Addr) (len2 cap2 : Nat) (x3 : Option Addr) (len3 cap3 : Nat) (x4 : Option Addr) (len4 cap4 : Nat) (b b1 X : Nat) (F g c mid h : Nat → Nat) (w : World)
    (q0 : (A0 : Int) % 65536 = (l : Int)) (q1 : IntKind.u64.wrap a1 = (U : Int)) (q2 : (U : Int) % 5 = (N : Int)) (N4 : N ≤ 4) (qb : IntKind.u64.wrap ((b : Int) + 1) = (b1 : Int))
    (HP : ∀ w, Calls Try.prog 9 #[iv ⟨l, N, false⟩] w fun e w' => e = .returned (.tuple #[.int .u64 (X : Int), .int .i64 0]) ∧ w.grownBy w' none)
    (HF : ∀ w', w.grownBy w' none → Calls Try.prog 13 #[.slice x2 len2 cap2] w' fun r w'' => r = .returned (rv F) ∧ w'.grownBy w'' none)
    (HG : ∀ w', w.grownBy w' none → Calls Try.prog 13 #[.slice x3 len3 cap3] w' fun r w'' => r = .returned (rv g) ∧ w'.grownBy w'' none)
    (HD : ∀ w', w.grownBy w' none → Calls Try.prog 13 #[.slice x4 len4 cap4] w' fun r w'' => r = .returned (rv c) ∧ w'.grownBy w'' none)
    (HC : ∀ w, Calls Try.prog 14 #[rv (upd F 0 X), rv g, .int .u64 (b1 : Int)] w fun r w' => r = .returned (.tuple #[rv mid, .int .i64 0]) ∧ w.grownBy w' none)
    (HE : ∀ w, Calls Try.prog 14 #[rv mid, rv c, .int .u64 (b : Int)] w fun r w' => r = .returned (.tuple #[rv h, .int .i64 0]) ∧ w.grownBy w' none)
    (HH : ∀ w, Calls Try.prog 14 #[rv (upd F 0 X), rv c, .int .u64 (b : Int)] w fun r w' => r = .returned (.tuple #[rv h, .int .i64 0]) ∧ w.grownBy w' none) :
    Calls Try.prog 8 #[.int .u64 (A0 : Int), .int .i64 a1, .slice x2 len2 cap2, .slice x3 len3 cap3, .slice x4 len4 cap4, .int .u64 (b : Int)] w fun e w' => e = .returned (.bool true) ∧ w.grownBy w' none := by
  go_enter Try.func8, Try.ntmps8
  go_wp2_with fail
  refine (works_any _).mono ?_
  rintro e w1 ⟨rfl, G⟩
  go_wp2_with fail
  refine (HP _).mono ?_
  rintro e w2 ⟨rfl, g2⟩
  replace G := gbTrans G g2
  clear g2 q0 q1 q2
  go_wp2_with fail
  refine (HF _ G).mono ?_
  rintro e w3 ⟨rfl, g3⟩
  go_upto_region 6 with fail
  obtain ⟨W3, hW3, A, k3, s3⟩ := arrNew w3 F 38
  rw [hW3]
  clear hW3 s3
  have lx : w.heap.size ≤ w3.heap.size := (gbTrans G g3).size
  replace G := gbTrans (gbTrans G g3) k3
  generalize w3.heap.size = x at A lx
  clear g3 k3
  have a0 := A.eight.at0
  have af := A.fr 0
  go_upto_region 7 with fail
  obtain ⟨W4, e4, A4, g4⟩ : ∃ W, W3.setCell ⟨x, 0, none⟩ (.int .u64 (X : Int)) = W ∧ RA W x 38 (upd F 0 X) ∧ W3.grownBy W (some x) := ⟨_, rfl, A.set 0 X, gbSetCell _ _ _ _⟩
  rw [e4]
  clear e4 a0 af A
  replace G := gbNew (gbTrans (gbAny G _) g4) lx
  clear g4 lx
  obtain ⟨f, ef⟩ : ∃ f, f = upd F 0 X := ⟨_, rfl⟩
  rw [← ef] at A4 HC HH
  clear ef
  replace A4 := hideIt A4
  have HT : ∀ w', W4.grownBy w' none → T8 w' x f := fun w' k => (A4.out.kept k).t8
  go_cut [16, 17] from 41 to 49 (fun s t wc => ∃ y, Value.pointer (some ⟨y, 0, none⟩) = s ∧ t = .int .i64 0 ∧ Hid (RA wc y 38 mid) ∧ W4.grownBy wc none)
  case first =>
    have T0 := HT W4 (gbRefl _ _)
    have gd := gbDrew (gbRefl W4 none)
    go_region_held3 (fun w' => T8 w' x f)
      (first | with_reducible exact T0 | with_reducible exact T8' | with_reducible exact T7 | (refine HT _ ?_; (repeat (first | with_reducible exact gd | with_reducible exact G8 | with_reducible exact G7 | with_reducible exact gbRefl _ _ | with_reducible refine gbDrew ?_ | with_reducible refine gbAllocN ?_ _ | with_reducible refine gbSetNew ?_ _ _ _ (by with_reducible first | exact G7.size | exact Nat.le_refl _ | exact G8.size))); done) | go_keep | fail)
      (first | (go_at_call 14; refine (HC _).mono ?_; rintro e8 w8 ⟨rfl, g8⟩; (first | (have hc8 := gcell (gbTrans g7 g8); have hf8 := gfroz (gbTrans g7 g8)) | (have hc8 := gcell g8; have hf8 := gfroz g8)); have G8 : W4.grownBy w8 none := gbTrans (by repeat (first | with_reducible exact G7 | with_reducible refine gbDrew ?_ | with_reducible refine gbAllocN ?_ _)) g8; have T8' := HT w8 G8) | (go_at_call 13; refine (HG _ (gbTrans G (by repeat (first | with_reducible exact gd | with_reducible exact gbRefl _ _ | with_reducible refine gbDrew ?_ | with_reducible refine gbAllocN ?_ _)))).mono ?_; rintro e7 w7 ⟨rfl, g7⟩; have G7 : W4.grownBy w7 none := gbTrans (by repeat (first | with_reducible exact gd | with_reducible exact gbRefl _ _ | with_reducible refine gbDrew ?_ | with_reducible refine gbAllocN ?_ _)) g7; have T7 := HT w7 G7))
    · clear hc8 hf8 T7 T8' T0
      go_wp2
      go_meet
      exact ⟨_, rfl, rfl, hideIt (RA.made w8 mid 38), gbAllocN G8 _⟩
    · clear hc8 hf8 T7 T8' T0
      go_wp2
      go_meet
      exact ⟨_, rfl, rfl, hideIt (((RA.made w7 nil8 38).kept g8).put8 mid), gbPut8 G8 _ G7.size _ _ _ _ _ _ _ _⟩
    · clear hc8 hf8 T7 T8' T0
      go_wp2
      go_meet
      exact ⟨_, rfl, rfl, hideIt ((((RA.made W4 nil8 38).kept (gbDrew (gbRefl _ none))).kept (gbTrans g7 g8)).put8 mid), gbPut8 G8 _ (Nat.le_refl _) _ _ _ _ _ _ _ _⟩
  case rest =>
  obtain ⟨y, rfl, rfl, B, gc⟩ := hcut
  clear HT
  replace A4 := hideIt (A4.out.kept gc)
  replace G := gbTrans G gc
  clear gc
  obtain ⟨W5, e5⟩ : ∃ W5, W5 = wc := ⟨_, rfl⟩
  rw [← e5] at A4 G B ⊢
  clear e5
  go_upto_region 8 with fail
  have HT : ∀ w', W5.grownBy w' none → T8 w' y mid := fun w' k => (B.out.kept k).t8
  go_cut [18, 19] from 50 to 57 (fun s t wc => ∃ y, Value.pointer (some ⟨y, 0, none⟩) = s ∧ t = .int .i64 0 ∧ Hid (RA wc y 38 h) ∧ W5.grownBy wc none)
  case first =>
    have T0 := HT W5 (gbRefl _ _)
    have gd := gbDrew (gbRefl W5 none)
    go_region_held3 (fun w' => T8 w' y mid)
      (first | with_reducible exact T0 | with_reducible exact T8' | with_reducible exact T7 | (refine HT _ ?_; (repeat (first | with_reducible exact gd | with_reducible exact G8 | with_reducible exact G7 | with_reducible exact gbRefl _ _ | with_reducible refine gbDrew ?_ | with_reducible refine gbAllocN ?_ _ | with_reducible refine gbSetNew ?_ _ _ _ (by with_reducible first | exact G7.size | exact Nat.le_refl _ | exact G8.size))); done) | go_keep | fail)
      (first | (go_at_call 14; refine (HE _).mono ?_; rintro e8 w8 ⟨rfl, g8⟩; (first | (have hc8 := gcell (gbTrans g7 g8); have hf8 := gfroz (gbTrans g7 g8)) | (have hc8 := gcell g8; have hf8 := gfroz g8)); have G8 : W5.grownBy w8 none := gbTrans (by repeat (first | with_reducible exact G7 | with_reducible refine gbDrew ?_ | with_reducible refine gbAllocN ?_ _)) g8; have T8' := HT w8 G8) | (go_at_call 13; refine (HD _ (gbTrans G (by repeat (first | with_reducible exact gd | with_reducible exact gbRefl _ _ | with_reducible refine gbDrew ?_ | with_reducible refine gbAllocN ?_ _)))).mono ?_; rintro e7 w7 ⟨rfl, g7⟩; have G7 : W5.grownBy w7 none := gbTrans (by repeat (first | with_reducible exact gd | with_reducible exact gbRefl _ _ | with_reducible refine gbDrew ?_ | with_reducible refine gbAllocN ?_ _)) g7; have T7 := HT w7 G7))
    · clear hc8 hf8 T7 T8' T0
      go_wp2
      go_meet
      exact ⟨_, rfl, rfl, hideIt (RA.made w8 h 38), gbAllocN G8 _⟩
    · clear hc8 hf8 T7 T8' T0
      go_wp2
      go_meet
      exact ⟨_, rfl, rfl, hideIt (((RA.made w7 nil8 38).kept g8).put8 h), gbPut8 G8 _ G7.size _ _ _ _ _ _ _ _⟩
    · clear hc8 hf8 T7 T8' T0
      go_wp2
      go_meet
      exact ⟨_, rfl, rfl, hideIt ((((RA.made W5 nil8 38).kept (gbDrew (gbRefl _ none))).kept (gbTrans g7 g8)).put8 h), gbPut8 G8 _ (Nat.le_refl _) _ _ _ _ _ _ _ _⟩
  case rest =>
  obtain ⟨z, rfl, rfl, C, gc⟩ := hcut
  clear HT
  replace A4 := hideIt (A4.out.kept gc)
  replace G := gbTrans G gc
  clear gc B
  obtain ⟨W6, e6⟩ : ∃ W6, W6 = wc := ⟨_, rfl⟩
  rw [← e6] at A4 G C ⊢
  clear e6
  go_upto_region 9 with fail
  have HT : ∀ w', W6.grownBy w' none → T8 w' x f := fun w' k => (A4.out.kept k).t8
  go_cut [20, 21] from 58 to 65 (fun s t wc => ∃ y, Value.pointer (some ⟨y, 0, none⟩) = s ∧ t = .int .i64 0 ∧ Hid (RA wc y 38 h) ∧ W6.grownBy wc none)
  case first =>
    have T0 := HT W6 (gbRefl _ _)
    have gd := gbDrew (gbRefl W6 none)
    go_region_held3 (fun w' => T8 w' x f)
      (first | with_reducible exact T0 | with_reducible exact T8' | with_reducible exact T7 | (refine HT _ ?_; (repeat (first | with_reducible exact gd | with_reducible exact G8 | with_reducible exact G7 | with_reducible exact gbRefl _ _ | with_reducible refine gbDrew ?_ | with_reducible refine gbAllocN ?_ _ | with_reducible refine gbSetNew ?_ _ _ _ (by with_reducible first | exact G7.size | exact Nat.le_refl _ | exact G8.size))); done) | go_keep | fail)
      (first | (go_at_call 14; refine (HH _).mono ?_; rintro e8 w8 ⟨rfl, g8⟩; (first | (have hc8 := gcell (gbTrans g7 g8); have hf8 := gfroz (gbTrans g7 g8)) | (have hc8 := gcell g8; have hf8 := gfroz g8)); have G8 : W6.grownBy w8 none := gbTrans (by repeat (first | with_reducible exact G7 | with_reducible refine gbDrew ?_ | with_reducible refine gbAllocN ?_ _)) g8; have T8' := HT w8 G8) | (go_at_call 13; refine (HD _ (gbTrans G (by repeat (first | with_reducible exact gd | with_reducible exact gbRefl _ _ | with_reducible refine gbDrew ?_ | with_reducible refine gbAllocN ?_ _)))).mono ?_; rintro e7 w7 ⟨rfl, g7⟩; have G7 : W6.grownBy w7 none := gbTrans (by repeat (first | with_reducible exact gd | with_reducible exact gbRefl _ _ | with_reducible refine gbDrew ?_ | with_reducible refine gbAllocN ?_ _)) g7; have T7 := HT w7 G7))
    · clear hc8 hf8 T7 T8' T0
      go_wp2
      go_meet
      exact ⟨_, rfl, rfl, hideIt (RA.made w8 h 38), gbAllocN G8 _⟩
    · clear hc8 hf8 T7 T8' T0
      go_wp2
      go_meet
      exact ⟨_, rfl, rfl, hideIt (((RA.made w7 nil8 38).kept g8).put8 h), gbPut8 G8 _ G7.size _ _ _ _ _ _ _ _⟩
    · clear hc8 hf8 T7 T8' T0
      go_wp2
      go_meet
      exact ⟨_, rfl, rfl, hideIt ((((RA.made W6 nil8 38).kept (gbDrew (gbRefl _ none))).kept (gbTrans g7 g8)).put8 h), gbPut8 G8 _ (Nat.le_refl _) _ _ _ _ _ _ _ _⟩
  case rest =>
  obtain ⟨v, rfl, rfl, D, gc⟩ := hcut
  clear HT
  replace C := hideIt (C.out.kept gc)
  replace G := gbTrans G gc
  clear gc A4
  have hq := fun w => run_eql_regs w h h (fun _ _ => rfl)
  have qe := eqGuardRegs
  obtain ⟨c0, c1, c2, c3, c4, c5, c6, c7⟩ := C.out.eight
  obtain ⟨d0, d1, d2, d3, d4, d5, d6, d7⟩ := D.out.eight
  go_wp2
  go_ret
  exact ⟨rfl, G⟩

theorem walk (a0 : Int) (w0 : (Lit.int .u64 a0).wf = true) (a1 : Int) (x2 : Option Addr) (len2 cap2 : Nat) (x3 : Option Addr) (len3 cap3 : Nat) (x4 : Option Addr) (len4 cap4 : Nat) (a5 : Int) (w5 : (Lit.int .u64 a5).wf = true) (w : World)
    (hx2 : ∀ i, i < len2 → ∃ (y : Addr) (z : Nat), x2 = some y ∧ w.cell? (y.add i) = some (.int .u64 (z : Int)) ∧ z < 18446744073709551616)
    (hx3 : ∀ i, i < len3 → ∃ (y : Addr) (z : Nat), x3 = some y ∧ w.cell? (y.add i) = some (.int .u64 (z : Int)) ∧ z < 18446744073709551616)
    (hx4 : ∀ i, i < len4 → ∃ (y : Addr) (z : Nat), x4 = some y ∧ w.cell? (y.add i) = some (.int .u64 (z : Int)) ∧ z < 18446744073709551616) :
    Calls Try.prog 8 #[.int .u64 a0, .int .i64 a1, .slice x2 len2 cap2, .slice x3 len3 cap3, .slice x4 len4 cap4, .int .u64 a5] w fun e w' => e = .returned (.bool true) ∧ Below w.heap.size w w' := by
  refine endWalk ?_
  obtain ⟨A0, rfl, _⟩ := natOf w0
  obtain ⟨b, rfl, _⟩ := natOf w5
  obtain ⟨V, L2⟩ := Wl.of hx2
  obtain ⟨T, L3⟩ := Wl.of hx3
  obtain ⟨Y, L4⟩ := Wl.of hx4
  obtain ⟨l, N, U, q0, q1, q2, l1, N4⟩ := numsOf A0 a1
  obtain ⟨X, hX, hP, hU⟩ := M.whole l N l1 N4
  obtain ⟨b1, qb⟩ : ∃ b1 : Nat, IntKind.u64.wrap ((b : Int) + 1) = (b1 : Int) := ⟨(IntKind.u64.wrap ((b : Int) + 1)).toNat, by rw [IntKind.wrap_u64]; omega⟩
  have H1 := M.cry_of (f := upd (rg V len2) 0 X) (rg T len3) b1 rfl hU
  have H2 := M.cry_of (f := upd (rg V len2) 0 X) (rg Y len4) b rfl hU
  have H3 := M.cry_of (f := upd (cp (upd (rg T len3) 0 X) (fun j => upd (rg V len2) 0 X (j + 1)) N) 5 b1) (rg Y len4) b (cry_nul _ _ X b1 N) hU
  have E : upd (cp (upd (rg Y len4) 0 X) (fun j => upd (cp (upd (rg T len3) 0 X) (fun j => upd (rg V len2) 0 X (j + 1)) N) 5 b1 (j + 1)) N) 5 b = upd (cp (upd (rg Y len4) 0 X) (fun j => upd (rg V len2) 0 X (j + 1)) N) 5 b := by
    funext i
    by_cases c1 : i = 0
    · subst c1; rw [cry_nul, cry_nul]
    · by_cases c2 : i ≤ N
      · rw [cry_in _ _ X b N i (by omega) c2 N4, cry_in _ _ X b N i (by omega) c2 N4, cry_in _ _ X b1 N i (by omega) c2 N4]
      · by_cases c3 : i = 5
        · subst c3; rw [cry_bdg, cry_bdg]
        · rw [cry_out _ _ X b N i (by omega) c3, cry_out _ _ X b N i (by omega) c3]
  rw [E] at H3
  exact core A0 l a1 U N x2 len2 cap2 x3 len3 cap3 x4 len4 cap4 b b1 X (rg V len2) (rg T len3) (rg Y len4) _ _ w q0 q1 q2 N4 qb (fun w => pack_is l N false X 0 (by omega) hP w)
    (fun w' g => regs_is V x2 len2 cap2 w' (L2.kept g)) (fun w' g => regs_is T x3 len3 cap3 w' (L3.kept g)) (fun w' g => regs_is Y x4 len4 cap4 w' (L4.kept g))
    (fun w => carry_is _ _ _ b1 0 hX H1 w) (fun w => carry_is _ _ _ b 0 (by rw [cry_nul]; exact hX) H3 w) (fun w => carry_is _ _ _ b 0 hX H2 w)

set_option maxRecDepth 100000 in
theorem lifted (os : Os) (started : os.Started) (H : Type) (enc : TypeId × Value → H) :
    ReturnsInHanded {} Try.checked os 8 .any (Rows.msgTwiceSpec.pre6 enc Try.prog Try.f8 Rows.msgTwiceRow.domain false) (Rows.msgTwiceSpec.post enc Try.prog Try.f8 false true false false) := by
  refine returnsInHanded_of_change (C := Try.checked) own started (by kernel_rfl) Try.func8
    (ChangeSpec.witness6 (enc := enc) (C := Try.checked) false ⟨#[], #[.int .u64 0, .int .i64 0, .slice none 0 0, .slice none 0 0, .slice none 0 0, .int .u64 0], []⟩ 8 (by kernel_rfl) (by kernel_rfl) (by kernel_rfl) (by kernel_rfl)) ?_
  intro W base args ds gs before hval0 hW hcnd _
  have hval : ∀ (j : Nat) t v, Try.f8.params[j]? = some t → args[j]? = some v → Value.okWide Try.prog W .any base t v := hval0
  have hW' := hW
  obtain ⟨p, q, hA0, hV, rfl, hfz, hnd⟩ := hW
  have hA : DataW.TrodAll enc Try.prog W 0 (fun _ => true) true Try.f8.params.toList args.toList ds p := hA0
  rw [Try.params8] at hA hval
  obtain ⟨v0, vs0, d0, ds0, p0, q0, hargs, rfl, rfl, h0, r0⟩ := trodAll_cons hA
  obtain ⟨v1, vs1, d1, ds1, p1, q1, rfl, rfl, rfl, h1, r1⟩ := trodAll_cons r0
  obtain ⟨v2, vs2, d2, ds2, p2, q2, rfl, rfl, rfl, h2, r2⟩ := trodAll_cons r1
  obtain ⟨v3, vs3, d3, ds3, p3, q3, rfl, rfl, rfl, h3, r3⟩ := trodAll_cons r2
  obtain ⟨v4, vs4, d4, ds4, p4, q4, rfl, rfl, rfl, h4, r4⟩ := trodAll_cons r3
  obtain ⟨v5, vs5, d5, ds5, p5, q5, rfl, rfl, rfl, h5, r5⟩ := trodAll_cons r4
  obtain ⟨rfl, rfl, rfl⟩ := trodAll_nil r5
  obtain rfl : args = #[v0, v1, v2, v3, v4, v5] := by cases args; simp_all
  obtain ⟨rfl, rfl⟩ := trodVars_none hV
  obtain ⟨a0, rfl, rfl, rfl, w0⟩ := open_int Try.underlying22 (hval 0 22 v0 rfl rfl) h0
  obtain ⟨a1, rfl, rfl, rfl, w1⟩ := open_int Try.underlying3 (hval 1 3 v1 rfl rfl) h1
  obtain ⟨x2, len2, cap2, rfl⟩ := okWide_slice Try.underlying35 (hval 2 35 v2 rfl rfl)
  have hx2 := wordsArg h2
  have k2 := h2
  have lt2 : ∀ x ∈ p2, x.block < W.heap.size := by obtain ⟨m, hm⟩ := k2; exact DataW.trod_lt m _ _ _ hm
  obtain ⟨x3, len3, cap3, rfl⟩ := okWide_slice Try.underlying35 (hval 3 35 v3 rfl rfl)
  have hx3 := wordsArg h3
  have k3 := h3
  have lt3 : ∀ x ∈ p3, x.block < W.heap.size := by obtain ⟨m, hm⟩ := k3; exact DataW.trod_lt m _ _ _ hm
  obtain ⟨x4, len4, cap4, rfl⟩ := okWide_slice Try.underlying35 (hval 4 35 v4 rfl rfl)
  have hx4 := wordsArg h4
  have k4 := h4
  have lt4 : ∀ x ∈ p4, x.block < W.heap.size := by obtain ⟨m, hm⟩ := k4; exact DataW.trod_lt m _ _ _ hm
  obtain ⟨a5, rfl, rfl, rfl, w5⟩ := open_int Try.underlying22 (hval 5 22 v5 rfl rfl) h5
  clear hA0 hval0
  refine (walk a0 w0 a1 x2 len2 cap2 x3 len3 cap3 x4 len4 cap4 a5 w5 W hx2 hx3 hx4).mono fun e W' ⟨he, bel⟩ => ?_
  subst he
  exact ⟨_, rfl, _, _, _, [], _, [], hW', trodAll_mk1 (shut_bool Try.underlying4 _), (trodAll_cons_mk (shut_int Try.underlying22 w0) (trodAll_cons_mk (shut_int Try.underlying3 w1) (trodAll_cons_mk (Below.trod laidOut (by kernel_rfl) (of_decide_eq_true (by kernel_rfl)) k2 bel lt2) (trodAll_cons_mk (Below.trod laidOut (by kernel_rfl) (of_decide_eq_true (by kernel_rfl)) k3 bel lt3) (trodAll_cons_mk (Below.trod laidOut (by kernel_rfl) (of_decide_eq_true (by kernel_rfl)) k4 bel lt4) (trodAll_cons_mk (shut_int Try.underlying22 w5) trodAll_mk0)))))), rfl, bel.frame _, fun h => by cases h⟩

theorem over : Rows.msgTwiceRow.holds Try.pinned (OpenSpec.ofChange Rows.msgTwiceSpec) :=
  OpenClaim.holds_of_wide 8 Try.f8 rfl rfl rfl rfl rfl rfl rfl ⟨rfl, rfl, rfl, rfl, rfl⟩ rfl rfl rfl rfl rfl (by kernel_rfl) Try.func8 (by kernel_rfl)
    (of_decide_eq_true (by kernel_rfl)) (by unfold Func.isWrapper; first | (rw [if_pos (by decide +kernel)]; kernel_rfl) | (rw [if_neg (by decide +kernel)]; exact ⟨rfl, rfl⟩))
    (fun os started H enc _ => lifted os started H enc)

theorem proved : Rows.MsgTwiceSaid := over
end Go.Proofs.Ytgimgbbiojkfgaa.msgTwice
namespace Go.Proofs.Ytgimgbbiojkfgaa
theorem msgTwice_holds : Rows.MsgTwiceSaid := msgTwice.proved
#print axioms msgTwice_holds
end Go.Proofs.Ytgimgbbiojkfgaa
