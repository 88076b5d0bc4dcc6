/- MsgCarries (16.2): what any registers become by any message, and by any answer: the program answers as the document does. For every input that the statement speaks of; none of our own conditions. The proof uses the statement's own bound on the bytes of a list that is handed in (words is appended to a new list). -/
import Derived.Test.YtgimgbbiojkfgaaApw
import Derived.Test.YtgimgbbiojkfgaaArgs
import Derived.ProofKit
import Derived.OpenShut
import Derived.ShutString
import Derived.ChangeOld
import Derived.Below
import Derived.Deep.Slices
namespace Go.Proofs.Ytgimgbbiojkfgaa.msgCarries
open Go.ChangeShapes Go.WideShapes Go.ChangeAt Go.RowKit
set_option linter.unusedVariables false

theorem own : ownKnob Try.prog.godebug = none := by kernel_rfl
theorem laidOut : laidOutB Try.prog = true := by kernel_rfl

set_option maxHeartbeats 4000000 in
set_option maxRecDepth 10000 in
theorem core (x0 : Option Addr) (len0 cap0 : Nat) (x1 : Option Addr) (len1 cap1 : Nat) (b : Nat) (a3 : Int) (x4 : Option Addr) (len4 cap4 : Nat) (f g h r V : Nat → Nat) (e : Int) (w : World)
    (HF : ∀ w', w.grownBy w' none → Calls Try.prog 13 #[.slice x0 len0 cap0] w' fun r w'' => r = .returned (rv f) ∧ w'.grownBy w'' none)
    (HG : ∀ w', w.grownBy w' none → Calls Try.prog 13 #[.slice x1 len1 cap1] w' fun r w'' => r = .returned (rv g) ∧ w'.grownBy w'' none)
    (HC : ∀ w, Calls Try.prog 14 #[rv f, rv g, .int .u64 (b : Int)] w fun r w' => r = .returned (.tuple #[rv h, .int .i64 e]) ∧ w.grownBy w' none)
    (HD : ∀ w, Calls Try.prog 15 #[rv f, rv g, .int .u64 (b : Int)] w fun r w' => r = .returned (.tuple #[rv h, .int .i64 e]) ∧ w.grownBy w' none)
    (HA : ∀ w' x len cap, Wl w' x len V → len = len4 → Calls Try.prog 16 #[rv g, .int .i64 a3, .slice x len cap] w' fun q w'' => q = .returned (rv r) ∧ w'.grownBy w'' none)
    (HB : ∀ w' x len cap, Wl w' x len V → len = len4 → Calls Try.prog 17 #[rv g, .int .i64 a3, .slice x len cap] w' fun q w'' => q = .returned (rv r) ∧ w'.grownBy w'' none)
    (L : Hid (Wl w x4 len4 V)) (hz : len4 * 8 ≤ reachBytes) :
    Calls Try.prog 4 #[.slice x0 len0 cap0, .slice x1 len1 cap1, .int .u64 (b : Int), .int .i64 a3, .slice x4 len4 cap4] w fun e w' => e = .returned (.bool true) ∧ w.grownBy w' none := by
  replace hz := hideIt hz
  go_enter Try.func4, Try.ntmps4
  go_wp2_with fail
  refine (HF _ (gbRefl _ _)).mono ?_
  rintro e w1 ⟨rfl, G⟩
  go_wp2_with fail
  refine (HG _ G).mono ?_
  rintro e w2 ⟨rfl, g2⟩
  replace G := gbTrans G g2
  clear g2
  go_upto_region 2 with fail
  obtain ⟨W1, e1, A, k1, s1⟩ := arrNew w2 f 36
  rw [e1]
  clear e1
  obtain ⟨W2, e2, B, k2, s2⟩ := arrNew W1 g 36
  rw [e2]
  clear e2
  rw [s1] at B
  replace A := A.kept k2
  replace G := gbTrans (gbTrans G k1) k2
  clear k1 k2 s1 s2
  generalize w2.heap.size + 1 = y at B
  generalize w2.heap.size = x at A
  obtain ⟨a0, a1, a2, a3, a4, a5, a6, a7⟩ := A.eight
  obtain ⟨b0, b1, b2, b3, b4, b5, b6, b7⟩ := B.eight
  go_wp2_with fail
  refine (HC _).mono ?_
  rintro e w3 ⟨rfl, g3⟩
  clear a0 a1 a2 a3 a4 a5 a6 a7 b0 b1 b2 b3 b4 b5 b6 b7
  go_upto_region 3 with fail
  obtain ⟨W3, e3, C, k3, s3⟩ := arrNew w3 h 38
  rw [e3]
  clear e3 s3
  generalize w3.heap.size = z at C
  replace A := (A.kept g3).kept k3
  replace B := (B.kept g3).kept k3
  replace G := gbTrans (gbTrans G g3) k3
  clear g3 k3
  obtain ⟨a0, a1, a2, a3, a4, a5, a6, a7⟩ := A.eight
  obtain ⟨b0, b1, b2, b3, b4, b5, b6, b7⟩ := B.eight
  go_wp2_with fail
  refine (HD _).mono ?_
  rintro e w4 ⟨rfl, g4⟩
  clear a0 a1 a2 a3 a4 a5 a6 a7 b0 b1 b2 b3 b4 b5 b6 b7 A
  go_upto_region 4 with fail
  obtain ⟨W4, e4, D, k4, s4⟩ := arrNew w4 h 36
  rw [e4]
  clear e4 s4
  generalize w4.heap.size = v at D
  replace B := hideIt ((B.kept g4).kept k4)
  replace C := hideIt ((C.kept g4).kept k4)
  replace D := hideIt D
  replace G := gbTrans (gbTrans G g4) k4
  clear g4 k4 HC HD HF HG
  replace L := hideIt (L.out.kept G)
  have HT : ∀ w', W4.grownBy w' none → T8 w' z h ∧ T8 w' v h ∧ T8 w' y g := fun w' k => ⟨(C.out.kept k).t8, (D.out.kept k).t8, (B.out.kept k).t8⟩
  have T0 := HT W4 (gbRefl _ _)
  have gd := gbDrew (gbRefl W4 none)
  have hq := fun w => run_eql_regs w h h (fun _ _ => rfl)
  have hr := fun w => run_eql_regs w r r (fun _ _ => rfl)
  have qe := eqGuardRegs
  go_region_held3 (fun w' => T8 w' z h ∧ T8 w' v h ∧ T8 w' y g)
    (first | with_reducible exact T0 | with_reducible exact T8' | with_reducible exact T7 | with_reducible exact T9 | (refine HT _ ?_; (repeat (first | with_reducible exact gd | with_reducible exact G8 | with_reducible exact G7 | with_reducible exact G9 | with_reducible exact gbRefl _ _ | with_reducible refine gbDrew ?_ | with_reducible refine gbAllocN ?_ _)); done) | go_keep | fail)
    (first | (go_at_call 17; refine (HB _ _ _ _ (L.out.kept (by repeat (first | with_reducible exact G8 | with_reducible exact G7 | with_reducible exact gd | with_reducible exact gbRefl _ _ | with_reducible refine gbDrew ?_ | with_reducible refine gbAllocN ?_ _))) rfl).mono ?_; rintro e9 w9 ⟨rfl, g9⟩; have G9 : W4.grownBy w9 none := gbTrans (by repeat (first | with_reducible exact G8 | with_reducible exact G7 | with_reducible exact gd | with_reducible exact gbRefl _ _ | with_reducible refine gbDrew ?_ | with_reducible refine gbAllocN ?_ _)) g9; have T9 := HT w9 G9) | (go_at_call 16; refine (HA _ _ _ _ (by first | with_reducible exact L7 | with_reducible exact L7.kept g9) rfl).mono ?_; rintro e8 w8 ⟨rfl, g8⟩; have G8 : W4.grownBy w8 none := gbTrans (by first | with_reducible exact G7 | with_reducible exact G9) g8; have T8' := HT w8 G8) | (refine step_append_words rfl (.tmp 46) (.tmp 47) rfl _ rfl (by repeat (first | exact Emp.new _ | with_reducible exact (Emp.new _).kept g9 | with_reducible exact (Emp.drew (Emp.new _)).kept g9 | with_reducible refine Emp.alloc ?_ _ | with_reducible refine Emp.drew ?_)) x4 len4 cap4 rfl V (L.out.kept (by repeat (first | with_reducible exact G9 | with_reducible exact gbRefl _ _ | with_reducible refine gbDrew ?_ | with_reducible refine gbAllocN ?_ _))) hz.out ?_; intro x7 cap7 w7 L7 g7; have G7 : W4.grownBy w7 none := gbNew (gbTrans (gbAny (by repeat (first | with_reducible exact G9 | with_reducible exact gbRefl _ _ | with_reducible refine gbDrew ?_ | with_reducible refine gbAllocN ?_ _)) _) g7) (by first | exact Nat.le_refl _ | exact G9.size); have T7 := HT w7 G7) | fail)
  rename_i hold
  clear hold T7 T8' T9 T0
  go_wp2
  go_ret
  exact ⟨rfl, gbTrans G G9⟩

theorem walk (x0 : Option Addr) (len0 cap0 : Nat) (x1 : Option Addr) (len1 cap1 : Nat) (a2 : Int) (w2 : (Lit.int .u64 a2).wf = true) (a3 : Int) (x4 : Option Addr) (len4 cap4 : Nat) (w : World)
    (hx0 : ∀ i, i < len0 → ∃ (y : Addr) (z : Nat), x0 = some y ∧ w.cell? (y.add i) = some (.int .u64 (z : Int)) ∧ z < 18446744073709551616)
    (hx1 : ∀ i, i < len1 → ∃ (y : Addr) (z : Nat), x1 = some y ∧ w.cell? (y.add i) = some (.int .u64 (z : Int)) ∧ z < 18446744073709551616)
    (hx4 : ∀ i, i < len4 → ∃ (y : Addr) (z : Nat), x4 = some y ∧ w.cell? (y.add i) = some (.int .u64 (z : Int)) ∧ z < 18446744073709551616) (sz : len4 * 8 ≤ reachBytes) :
    Calls Try.prog 4 #[.slice x0 len0 cap0, .slice x1 len1 cap1, .int .u64 a2, .int .i64 a3, .slice x4 len4 cap4] w fun e w' => e = .returned (.bool true) ∧ Below w.heap.size w w' := by
  refine endWalk ?_
  obtain ⟨b, rfl, _⟩ := natOf w2
  obtain ⟨F, L0⟩ := Wl.of hx0
  obtain ⟨T, L1⟩ := Wl.of hx1
  obtain ⟨V, L4⟩ := Wl.of hx4
  obtain ⟨⟨h, e⟩, hc⟩ : ∃ p, M.cry (rg F len0) (rg T len1) b = p := ⟨_, rfl⟩
  obtain ⟨E, hE⟩ : ∃ E : Nat, IntKind.u64.wrap a3 = (E : Int) := ⟨(IntKind.u64.wrap a3).toNat, by rw [IntKind.wrap_u64]; omega⟩
  exact core x0 len0 cap0 x1 len1 cap1 b a3 x4 len4 cap4 (rg F len0) (rg T len1) h (cp (upd (rg T len1) 0 E) V (Nat.min len4 4)) V e w
    (fun w' g => regs_is F x0 len0 cap0 w' (L0.kept g)) (fun w' g => regs_is T x1 len1 cap1 w' (L1.kept g))
    (fun w => carry_is _ _ h b e (rg_lt (fun i hi => (L0 i hi).choose_spec.2.2) 0) hc w) (fun w => rcarry_is _ _ h b e hc w)
    (fun w' x len cap L q => by subst q; exact answer_is (rg T len1) V a3 E hE x len cap _ rfl w' L)
    (fun w' x len cap L q => by subst q; exact ranswer_is (rg T len1) V a3 E hE x len cap _ rfl w' L) (hideIt L4) sz

set_option maxRecDepth 100000 in
theorem lifted (os : Os) (started : os.Started) (H : Type) (enc : TypeId × Value → H) :
    ReturnsInHanded {} Try.checked os 4 .any (Rows.msgCarriesSpec.pre6 enc Try.prog Try.f4 Rows.msgCarriesRow.domain false) (Rows.msgCarriesSpec.post enc Try.prog Try.f4 false true false false) := by
  refine returnsInHanded_of_change_sized (C := Try.checked) own started (by kernel_rfl) Try.func4
    (ChangeSpec.witness6 (enc := enc) (C := Try.checked) false ⟨#[], #[.slice none 0 0, .slice none 0 0, .int .u64 0, .int .i64 0, .slice none 0 0], []⟩ 8 (by kernel_rfl) (by kernel_rfl) (by kernel_rfl) (by kernel_rfl)) ?_
  intro W base args ds gs before hval0 hW hcnd hz _
  have hval : ∀ (j : Nat) t v, Try.f4.params[j]? = some t → args[j]? = some v → Value.okWide Try.prog W .any base t v := hval0
  have hW' := hW
  obtain ⟨p, q, hA0, hV, rfl, hfz, hnd⟩ := hW
  have hA : DataW.TrodAll enc Try.prog W 0 (fun _ => true) true Try.f4.params.toList args.toList ds p := hA0
  rw [Try.params4] at hA hval
  obtain ⟨v0, vs0, d0, ds0, p0, q0, hargs, rfl, rfl, h0, r0⟩ := trodAll_cons hA
  obtain ⟨v1, vs1, d1, ds1, p1, q1, rfl, rfl, rfl, h1, r1⟩ := trodAll_cons r0
  obtain ⟨v2, vs2, d2, ds2, p2, q2, rfl, rfl, rfl, h2, r2⟩ := trodAll_cons r1
  obtain ⟨v3, vs3, d3, ds3, p3, q3, rfl, rfl, rfl, h3, r3⟩ := trodAll_cons r2
  obtain ⟨v4, vs4, d4, ds4, p4, q4, rfl, rfl, rfl, h4, r4⟩ := trodAll_cons r3
  obtain ⟨rfl, rfl, rfl⟩ := trodAll_nil r4
  obtain rfl : args = #[v0, v1, v2, v3, v4] := by cases args; simp_all
  obtain ⟨rfl, rfl⟩ := trodVars_none hV
  obtain ⟨x0, len0, cap0, rfl⟩ := okWide_slice Try.underlying35 (hval 0 35 v0 rfl rfl)
  have hx0 := wordsArg h0
  have k0 := h0
  have lt0 : ∀ x ∈ p0, x.block < W.heap.size := by obtain ⟨m, hm⟩ := k0; exact DataW.trod_lt m _ _ _ hm
  obtain ⟨x1, len1, cap1, rfl⟩ := okWide_slice Try.underlying35 (hval 1 35 v1 rfl rfl)
  have hx1 := wordsArg h1
  have k1 := h1
  have lt1 : ∀ x ∈ p1, x.block < W.heap.size := by obtain ⟨m, hm⟩ := k1; exact DataW.trod_lt m _ _ _ hm
  obtain ⟨a2, rfl, rfl, rfl, w2⟩ := open_int Try.underlying22 (hval 2 22 v2 rfl rfl) h2
  obtain ⟨a3, rfl, rfl, rfl, w3⟩ := open_int Try.underlying3 (hval 3 3 v3 rfl rfl) h3
  obtain ⟨x4, len4, cap4, rfl⟩ := okWide_slice Try.underlying35 (hval 4 35 v4 rfl rfl)
  have hx4 := wordsArg h4
  have sz4 := wordsSized hz (j := 4) (by kernel_rfl) rfl h4
  have k4 := h4
  have lt4 : ∀ x ∈ p4, x.block < W.heap.size := by obtain ⟨m, hm⟩ := k4; exact DataW.trod_lt m _ _ _ hm
  clear hA0 hval0
  refine (walk x0 len0 cap0 x1 len1 cap1 a2 w2 a3 x4 len4 cap4 W hx0 hx1 hx4 sz4).mono fun e W' ⟨he, bel⟩ => ?_
  subst he
  exact ⟨_, rfl, _, _, _, [], _, [], hW', trodAll_mk1 (shut_bool Try.underlying4 _), (trodAll_cons_mk (Below.trod laidOut (by kernel_rfl) (of_decide_eq_true (by kernel_rfl)) k0 bel lt0) (trodAll_cons_mk (Below.trod laidOut (by kernel_rfl) (of_decide_eq_true (by kernel_rfl)) k1 bel lt1) (trodAll_cons_mk (shut_int Try.underlying22 w2) (trodAll_cons_mk (shut_int Try.underlying3 w3) (trodAll_cons_mk (Below.trod laidOut (by kernel_rfl) (of_decide_eq_true (by kernel_rfl)) k4 bel lt4) trodAll_mk0))))), rfl, bel.frame _, fun h => by cases h⟩

theorem over : Rows.msgCarriesRow.holds Try.pinned (OpenSpec.ofChange Rows.msgCarriesSpec) :=
  OpenClaim.holds_of_wide 4 Try.f4 rfl rfl rfl rfl rfl rfl rfl ⟨rfl, rfl, rfl, rfl, rfl⟩ rfl rfl rfl rfl rfl (by kernel_rfl) Try.func4 (by kernel_rfl)
    (of_decide_eq_true (by kernel_rfl)) (by unfold Func.isWrapper; first | (rw [if_pos (by decide +kernel)]; kernel_rfl) | (rw [if_neg (by decide +kernel)]; exact ⟨rfl, rfl⟩))
    (fun os started H enc _ => lifted os started H enc)

theorem proved : Rows.MsgCarriesSaid := over
end Go.Proofs.Ytgimgbbiojkfgaa.msgCarries
namespace Go.Proofs.Ytgimgbbiojkfgaa
theorem msgCarries_holds : Rows.MsgCarriesSaid := msgCarries.proved
#print axioms msgCarries_holds
end Go.Proofs.Ytgimgbbiojkfgaa
