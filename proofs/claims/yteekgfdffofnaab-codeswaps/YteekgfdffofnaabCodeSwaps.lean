/- THREE TIMES Xor CHANGES TWO REGISTERS' NUMBERS ABOUT; And AND Or TOGETHER ARE THEIR SUM: of any two words (no condition). -/
import Derived.Test.YteekgfdffofnaabRns
import Derived.Deep.Cut
import Derived.ProofKit
import Derived.OpenShut
import Derived.ShutString
import Derived.ChangeOld
import Derived.Below
import Derived.Deep.Slices
namespace Go.Proofs.Yteekgfdffofnaab.codeSwaps
open Go.ChangeShapes Go.WideShapes Go.ChangeAt Go.RowKit
set_option linter.unusedVariables false

theorem own : ownKnob Try.prog.godebug = none := by kernel_rfl
theorem laidOut : laidOutB Try.prog = true := by kernel_rfl

theorem and_add_or : ∀ (n a b : Nat), a < 2 ^ n → b < 2 ^ n → (a &&& b) + (a ||| b) = a + b
  | 0, a, b, ha, hb => by
    obtain rfl : a = 0 := by omega
    obtain rfl : b = 0 := by omega
    rfl
  | n + 1, a, b, ha, hb => by
    have ih := and_add_or n (a / 2) (b / 2) (by rw [Nat.pow_succ] at ha; omega) (by rw [Nat.pow_succ] at hb; omega)
    have e1 : (a &&& b) / 2 = a / 2 &&& b / 2 := Nat.and_div_two
    have e2 : (a ||| b) / 2 = a / 2 ||| b / 2 := Nat.or_div_two
    have f1 : (a &&& b) % 2 = (a % 2) &&& (b % 2) := by have := @Nat.and_mod_two_pow a b 1; simpa using this
    have f2 : (a ||| b) % 2 = (a % 2) ||| (b % 2) := by have := @Nat.or_mod_two_pow a b 1; simpa using this
    have g : (a % 2 &&& b % 2) + (a % 2 ||| b % 2) = a % 2 + b % 2 := by
      rcases Nat.mod_two_eq_zero_or_one a with h | h <;> rcases Nat.mod_two_eq_zero_or_one b with k | k <;> rw [h, k] <;> rfl
    rw [← e1, ← e2] at ih
    rw [← f1, ← f2] at g
    omega
/-- The two registers that are used. -/
def R2 (x y : Int) : Nat → Int := fun i => [x, y].getD i 0
theorem R2_pos {x y : Int} (h0 : 0 ≤ x) (h1 : 0 ≤ y) : ∀ j, 0 ≤ R2 x y j := fun j => by
  unfold R2
  match j with
  | 0 => exact h0
  | 1 => exact h1
  | j + 2 => exact (by simp)
theorem up0 (x y v : Int) : upd (R2 x y) 0 v = R2 v y := by
  funext j
  unfold upd R2
  match j with
  | 0 => rfl
  | 1 => rfl
  | j + 2 => simp
theorem up1 (x y v : Int) : upd (R2 x y) 1 v = R2 x v := by
  funext j
  unfold upd R2
  match j with
  | 0 => rfl
  | 1 => rfl
  | j + 2 => simp
theorem tr {i : I} {f g : Nat → Int} {p : Int} {e : E} {q : Int} (hf : ∀ j, 0 ≤ f j) (h : M.run i f p = (e, 0)) (h1 : e.k = 0) (h2 : e.f = g) (h3 : e.p = q) :
    ∃ e : E, (∀ w, Calls Try.prog 8 #[iv i, .agg (rc f), .int .i64 p] w fun r w' => r = .returned (.tuple #[.agg (ec e), .int .i64 0]) ∧ w.grownBy w' none) ∧ e.k = 0 ∧ e.f = g ∧ e.p = q :=
  ⟨e, run_is i f p e 0 hf h, h1, h2, h3⟩
theorem LI.three {w : World} {x : Nat} {t : TypeId} {i0 i1 i2 : I} (h : Rw w x t #[.int .i64 i0.o, .int .i64 i0.a, .int .i64 i0.b, .int .i64 i0.m, .int .i64 i1.o, .int .i64 i1.a, .int .i64 i1.b, .int .i64 i1.m, .int .i64 i2.o, .int .i64 i2.a, .int .i64 i2.b, .int .i64 i2.m]) : LI w x 3 (fun j => [i0, i1, i2].getD j I.zero) := fun j hj => by
  have e : j = 0 ∨ j = 1 ∨ j = 2 := by omega
  rcases e with rfl | rfl | rfl
  · exact ⟨h.cell 0, h.cell 1, h.cell 2, h.cell 3⟩
  · exact ⟨h.cell 4, h.cell 5, h.cell 6, h.cell 7⟩
  · exact ⟨h.cell 8, h.cell 9, h.cell 10, h.cell 11⟩
theorem LI.one {w : World} {x : Nat} {t : TypeId} {i0 : I} (h : Rw w x t #[.int .i64 i0.o, .int .i64 i0.a, .int .i64 i0.b, .int .i64 i0.m]) : LI w x 1 (fun _ => i0) := fun j hj => by
  obtain rfl : j = 0 := by omega
  exact ⟨h.cell 0, h.cell 1, h.cell 2, h.cell 3⟩
/-- Three times Xor. -/
abbrev sc : Nat → I := fun j => [⟨8, 0, 1, 0⟩, ⟨8, 1, 0, 0⟩, ⟨8, 0, 1, 0⟩].getD j I.zero
def Fs (a b : Nat) (k : Nat) : Nat → Int := if k = 0 then R2 a b else if k = 1 then R2 ((a ^^^ b : Nat) : Int) b else if k = 2 then R2 ((a ^^^ b : Nat) : Int) a else R2 b a
theorem swap_step (a b : Nat) (ha : a < 18446744073709551616) (hb : b < 18446744073709551616) (k : Nat) (hk : k < 3) :
    ∃ e : E, (∀ w, Calls Try.prog 8 #[iv (sc k), .agg (rc (Fs a b k)), .int .i64 (k : Int)] w fun r w' => r = .returned (.tuple #[.agg (ec e), .int .i64 0]) ∧ w.grownBy w' none) ∧ e.k = 0 ∧ e.f = Fs a b (k + 1) ∧ e.p = ((k + 1 : Nat) : Int) := by
  have hx : a ^^^ b < 2 ^ 64 := Nat.xor_lt_two_pow (by omega) (by omega)
  have n0 : ∀ n : Nat, (0 : Int) ≤ (n : Int) := Int.natCast_nonneg
  have e : k = 0 ∨ k = 1 ∨ k = 2 := by omega
  rcases e with rfl | rfl | rfl
  · refine tr (R2_pos (n0 _) (n0 _)) (i := ⟨8, 0, 1, 0⟩) (p := 0) (e := M.ex ⟨8, 0, 1, 0⟩ (R2 a b) 0) rfl rfl ?_ rfl
    show upd (R2 a b) 0 (bits .xor .u64 (a : Int) (b : Int)) = R2 ((a ^^^ b : Nat) : Int) b
    rw [up0, bits_xor_u64_nat a b ha hb]
  · refine tr (R2_pos (n0 _) (n0 _)) (i := ⟨8, 1, 0, 0⟩) (p := 1) (e := M.ex ⟨8, 1, 0, 0⟩ (R2 ((a ^^^ b : Nat) : Int) b) 1) rfl rfl ?_ rfl
    show upd (R2 ((a ^^^ b : Nat) : Int) b) 1 (bits .xor .u64 (b : Int) ((a ^^^ b : Nat) : Int)) = R2 ((a ^^^ b : Nat) : Int) a
    rw [up1, bits_xor_u64_nat b _ hb (by omega), Nat.xor_comm a b, ← Nat.xor_assoc, Nat.xor_self, Nat.zero_xor]
  · refine tr (R2_pos (n0 _) (n0 _)) (i := ⟨8, 0, 1, 0⟩) (p := 2) (e := M.ex ⟨8, 0, 1, 0⟩ (R2 ((a ^^^ b : Nat) : Int) a) 2) rfl rfl ?_ rfl
    show upd (R2 ((a ^^^ b : Nat) : Int) a) 0 (bits .xor .u64 ((a ^^^ b : Nat) : Int) (a : Int)) = R2 b a
    rw [up0, bits_xor_u64_nat _ a (by omega) ha, Nat.xor_comm a b, Nat.xor_assoc, Nat.xor_self, Nat.xor_zero]
theorem swaps_is (a b c x : Nat) (ha : a < 18446744073709551616) (hb : b < 18446744073709551616) (w : World) (L : LI w x 3 sc) :
    Calls Try.prog 5 #[.slice (some ⟨x, 0, none⟩) 3 c, .agg #[.int .u64 (a : Int), .int .u64 (b : Int), .int .u64 0, .int .u64 0, .int .u64 0, .int .u64 0, .int .u64 0, .int .u64 0], .int .i64 3] w
      fun r w' => r = .returned (.tuple #[.agg (rc (R2 b a)), .int .i64 3]) ∧ w.grownBy w' none :=
  runs_is sc 3 c 3 3 (Fs a b) (fun k => k) x w L (by omega) (by omega) (Nat.le_refl _) (.inl rfl) rfl (fun k hk => hk) (fun k hk => swap_step a b ha hb k hk)
theorem one_is (o : Nat) (a b c x : Nat) (v : Int) (ho : o = 6 ∨ o = 7) (hv : M.re o 0 a b = v) (w : World) (L : LI w x 1 (fun _ => ⟨o, 0, 1, 0⟩)) :
    Calls Try.prog 5 #[.slice (some ⟨x, 0, none⟩) 1 c, .agg #[.int .u64 (a : Int), .int .u64 (b : Int), .int .u64 0, .int .u64 0, .int .u64 0, .int .u64 0, .int .u64 0, .int .u64 0], .int .i64 1] w
      fun r w' => r = .returned (.tuple #[.agg (rc (R2 v b)), .int .i64 1]) ∧ w.grownBy w' none := by
  have n0 : ∀ n : Nat, (0 : Int) ≤ (n : Int) := Int.natCast_nonneg
  refine runs_is (fun _ => ⟨o, 0, 1, 0⟩) 1 c 1 1 (fun k => if k = 0 then R2 a b else R2 v b) (fun k => k) x w L (by omega) (by omega) (Nat.le_refl _) (.inl rfl) rfl (fun k hk => hk) (fun k hk => ?_)
  obtain rfl : k = 0 := by omega
  rcases ho with rfl | rfl
  · refine tr (R2_pos (n0 _) (n0 _)) (i := ⟨6, 0, 1, 0⟩) (p := 0) (e := M.ex ⟨6, 0, 1, 0⟩ (R2 a b) 0) rfl rfl ?_ rfl
    show upd (R2 a b) 0 (M.re 6 0 a b) = R2 v b
    rw [up0]; exact congrArg (fun z => R2 z b) hv
  · refine tr (R2_pos (n0 _) (n0 _)) (i := ⟨7, 0, 1, 0⟩) (p := 0) (e := M.ex ⟨7, 0, 1, 0⟩ (R2 a b) 0) rfl rfl ?_ rfl
    show upd (R2 a b) 0 (M.re 7 0 a b) = R2 v b
    rw [up0]; exact congrArg (fun z => R2 z b) hv
theorem weq (w : World) (a b : Nat) : (binOp .eql 25 (.agg (rc (R2 b a))) (.agg #[.int .u64 (b : Int), .int .u64 (a : Int), .int .u64 0, .int .u64 0, .int .u64 0, .int .u64 0, .int .u64 0, .int .u64 0])).run Try.prog w = .ok (.bool true) w :=
  run_eql_R w (R2 b a) (R2 b a) rfl

set_option maxHeartbeats 4000000 in
theorem core (a b X Y : Nat) (w : World) (ha : a < 18446744073709551616) (hb : b < 18446744073709551616) (hX : M.re (6 : Nat) 0 a b = (X : Int)) (hY : M.re (7 : Nat) 0 a b = (Y : Int)) (hq : (IntKind.u64.wrap ((X : Int) + (Y : Int)) == IntKind.u64.wrap ((a : Int) + (b : Int))) = true) :
    Calls Try.prog 3 #[.int .u64 a, .int .u64 b] w fun r w' => r = .returned (.bool true) ∧ w.grownBy w' none := by
  replace hX := hideIt hX
  replace hY := hideIt hY
  replace hq := hideIt hq
  go_enter Try.func3, Try.ntmps3
  go_wp2_with fail
  refine (works_is _).mono ?_
  rintro r w0 ⟨rfl, G⟩
  have L3 := fun (v : World) => LI.three (i0 := ⟨8, 0, 1, 0⟩) (i1 := ⟨8, 1, 0, 0⟩) (i2 := ⟨8, 0, 1, 0⟩) (Rw.made v #[.int .i64 8, .int .i64 0, .int .i64 1, .int .i64 0, .int .i64 8, .int .i64 1, .int .i64 0, .int .i64 0, .int .i64 8, .int .i64 0, .int .i64 1, .int .i64 0] 29)
  have L6 := fun (v : World) => LI.one (i0 := ⟨6, 0, 1, 0⟩) (Rw.made v #[.int .i64 6, .int .i64 0, .int .i64 1, .int .i64 0] 29)
  have L7 := fun (v : World) => LI.one (i0 := ⟨7, 0, 1, 0⟩) (Rw.made v #[.int .i64 7, .int .i64 0, .int .i64 1, .int .i64 0] 29)
  replace L3 := hideIt L3
  replace L6 := hideIt L6
  replace L7 := hideIt L7
  go_wp2_with fail
  refine (swaps_is a b _ _ ha hb _ (L3.out w0)).mono ?_
  rintro r w1 ⟨rfl, g1⟩
  replace G := gbTrans (gbAllocN G _) g1
  clear g1 L3
  go_upto_region 4 with (first | (refine wpList_allocW rfl rfl zR ?_; intro V1 x1 X1 k1 l1) | (refine wpList_storeW rfl _ _ rfl rfl rfl X1 tkR rfl rfl (rc_one _) ?_; intro W1 A h1))
  replace G := gbMade G k1 l1 h1
  clear k1 l1 h1 X1
  go_wp2_with fail
  refine (one_is 6 a b _ _ X (.inl rfl) hX.out _ (L6.out W1)).mono ?_
  rintro r w2 ⟨rfl, g2⟩
  replace A := (A.kept (gbAlloc _ _ none)).kept g2
  replace G := gbTrans (gbAllocN G _) g2
  clear g2 L6
  go_upto_region 5 with (first | (refine wpList_allocW rfl rfl zR ?_; intro V2 x2 X2 k2 l2) | (refine wpList_storeW rfl _ _ rfl rfl rfl X2 tkR rfl rfl (rc_one _) ?_; intro W2 B h2))
  replace A := A.past k2 l2 h2
  replace G := gbMade G k2 l2 h2
  clear k2 l2 h2 X2
  go_wp2_with fail
  refine (one_is 7 a b _ _ Y (.inr rfl) hY.out _ (L7.out W2)).mono ?_
  rintro r w3 ⟨rfl, g3⟩
  replace A := (A.kept (gbAlloc _ _ none)).kept g3
  replace B := (B.kept (gbAlloc _ _ none)).kept g3
  replace G := gbTrans (gbAllocN G _) g3
  clear g3 L7
  go_upto_region 6 with (first | (refine wpList_allocW rfl rfl zR ?_; intro V3 x3 X3 k3 l3) | (refine wpList_storeW rfl _ _ rfl rfl rfl X3 tkR rfl rfl (rc_one _) ?_; intro W3 C h3))
  replace A := A.past k3 l3 h3
  replace B := B.past k3 l3 h3
  replace G := gbMade G k3 l3 h3
  clear k3 l3 h3 X3
  have c1 : W3.cell? ⟨x2, 0, none⟩ = some (.int .u64 (X : Int)) := B.cell 0
  have c2 : W3.cell? ⟨x3, 0, none⟩ = some (.int .u64 (Y : Int)) := C.cell 0
  have qe := fun w => weq w a b
  have qg := eqGuardR
  clear hX hY B C
  replace hq := hq.out
  go_wp2_with (refine wpList_loadW rfl _ rfl rfl A tkR rfl ?_)
  go_ret
  exact ⟨rfl, G⟩

theorem walk (a0 : Int) (w0 : (Lit.int .u64 a0).wf = true) (a1 : Int) (w1 : (Lit.int .u64 a1).wf = true) (w : World) :
    Calls Try.prog 3 #[.int .u64 a0, .int .u64 a1] w fun e w' => e = .returned (.bool true) ∧ Below w.heap.size w w' := by
  refine endWalk ?_
  obtain ⟨a, rfl, ha⟩ := natOf w0
  obtain ⟨b, rfl, hb⟩ := natOf w1
  refine core a b (a &&& b) (a ||| b) w ha hb (u64_and_nat a b ha hb) (u64_or_nat a b ha hb) ?_
  have k := and_add_or 64 a b (by omega) (by omega)
  rw [show ((a &&& b : Nat) : Int) + ((a ||| b : Nat) : Int) = (a : Int) + (b : Int) by omega]
  simp

set_option maxRecDepth 100000 in
theorem lifted (os : Os) (started : os.Started) (H : Type) (enc : TypeId × Value → H) :
    ReturnsInHanded {} Try.checked os 3 .any (Rows.codeSwapsSpec.pre6 enc Try.prog Try.f3 Rows.codeSwapsRow.domain false) (Rows.codeSwapsSpec.post enc Try.prog Try.f3 false true false false) := by
  refine returnsInHanded_of_change (C := Try.checked) own started (by kernel_rfl) Try.func3
    (ChangeSpec.witness6 (enc := enc) (C := Try.checked) false ⟨#[], #[.int .u64 0, .int .u64 0], []⟩ 8 (by kernel_rfl) (by kernel_rfl) (by kernel_rfl) (by kernel_rfl)) ?_
  intro W base args ds gs before hval0 hW hcnd _
  have hval : ∀ (j : Nat) t v, Try.f3.params[j]? = some t → args[j]? = some v → Value.okWide Try.prog W .any base t v := hval0
  have hW' := hW
  obtain ⟨p, q, hA0, hV, rfl, hfz, hnd⟩ := hW
  have hA : DataW.TrodAll enc Try.prog W 0 (fun _ => true) true Try.f3.params.toList args.toList ds p := hA0
  rw [Try.params3] at hA hval
  obtain ⟨v0, vs0, d0, ds0, p0, q0, hargs, rfl, rfl, h0, r0⟩ := trodAll_cons hA
  obtain ⟨v1, vs1, d1, ds1, p1, q1, rfl, rfl, rfl, h1, r1⟩ := trodAll_cons r0
  obtain ⟨rfl, rfl, rfl⟩ := trodAll_nil r1
  obtain rfl : args = #[v0, v1] := by cases args; simp_all
  obtain ⟨rfl, rfl⟩ := trodVars_none hV
  obtain ⟨a0, rfl, rfl, rfl, w0⟩ := open_int Try.underlying22 (hval 0 22 v0 rfl rfl) h0
  obtain ⟨a1, rfl, rfl, rfl, w1⟩ := open_int Try.underlying22 (hval 1 22 v1 rfl rfl) h1
  clear hA0 hval0
  refine (walk a0 w0 a1 w1 W).mono fun e W' ⟨he, bel⟩ => ?_
  subst he
  exact ⟨_, rfl, _, _, _, [], _, [], hW', trodAll_mk1 (shut_bool Try.underlying4 _), (trodAll_cons_mk (shut_int Try.underlying22 w0) (trodAll_cons_mk (shut_int Try.underlying22 w1) trodAll_mk0)), rfl, bel.frame _, fun h => by cases h⟩

theorem over : Rows.codeSwapsRow.holds Try.pinned (OpenSpec.ofChange Rows.codeSwapsSpec) :=
  OpenClaim.holds_of_wide 3 Try.f3 rfl rfl rfl rfl rfl rfl rfl ⟨rfl, rfl, rfl, rfl, rfl⟩ rfl rfl rfl rfl rfl (by kernel_rfl) Try.func3 (by kernel_rfl)
    (of_decide_eq_true (by kernel_rfl)) (by unfold Func.isWrapper; first | (rw [if_pos (by decide +kernel)]; kernel_rfl) | (rw [if_neg (by decide +kernel)]; exact ⟨rfl, rfl⟩))
    (fun os started H enc _ => lifted os started H enc)

theorem proved : Rows.CodeSwapsSaid := over
end Go.Proofs.Yteekgfdffofnaab.codeSwaps
namespace Go.Proofs.Yteekgfdffofnaab
theorem codeSwaps_holds : Rows.CodeSwapsSaid := codeSwaps.proved
#print axioms codeSwaps_holds
end Go.Proofs.Yteekgfdffofnaab
