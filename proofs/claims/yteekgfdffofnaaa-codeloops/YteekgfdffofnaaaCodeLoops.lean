/- A LOOP OF INSTRUCTIONS MULTIPLIES BY ADDING: of any word and any number, brought below 40, it makes their product, as Mul does (no condition). -/
import Derived.Test.YteekgfdffofnaaaRns
import Derived.Deep.Cut
import Derived.ProofKit
import Derived.OpenShut
import Derived.ShutString
import Derived.ChangeOld
import Derived.Below
import Derived.Deep.Slices
namespace Go.Proofs.Yteekgfdffofnaaa.codeLoops
open Go.ChangeShapes Go.WideShapes Go.ChangeAt Go.RowKit
set_option linter.unusedVariables false

theorem own : ownKnob Try.prog.godebug = none := by kernel_rfl
theorem laidOut : laidOutB Try.prog = true := by kernel_rfl

theorem modN (a : Int) (m : Nat) (hm : 0 < m) : ∃ U N : Nat, IntKind.u64.wrap a = (U : Int) ∧ (U : Int) % (m : Int) = (N : Int) ∧ N < m := by
  refine ⟨(IntKind.u64.wrap a).toNat, (IntKind.u64.wrap a).toNat % m, ?_, ?_, Nat.mod_lt _ hm⟩
  · rw [IntKind.wrap_u64]; omega
  · rw [Int.natCast_emod]
/-- The four registers that the loop uses. -/
def R4 (a r1 r2 : Int) : Nat → Int := fun i => [a, r1, r2, 1].getD i 0
theorem R4_pos {a r1 r2 : Int} (h0 : 0 ≤ a) (h1 : 0 ≤ r1) (h2 : 0 ≤ r2) : ∀ j, 0 ≤ R4 a r1 r2 j := fun j => by
  unfold R4
  match j with
  | 0 => exact h0
  | 1 => exact h1
  | 2 => exact h2
  | 3 => exact (by decide : (0 : Int) ≤ 1)
  | j + 4 => exact (by simp)
theorem upd2 (a r1 r2 v : Int) : upd (R4 a r1 r2) 2 v = R4 a r1 v := by
  funext j
  unfold upd R4
  match j with
  | 0 => rfl
  | 1 => rfl
  | 2 => rfl
  | 3 => rfl
  | j + 4 => simp
theorem upd1 (a r1 r2 v : Int) : upd (R4 a r1 r2) 1 v = R4 a v r2 := by
  funext j
  unfold upd R4
  match j with
  | 0 => rfl
  | 1 => rfl
  | 2 => rfl
  | 3 => rfl
  | j + 4 => simp
/-- The loop's code. -/
abbrev lc : Nat → I := fun j => [⟨14, 1, 0, 4⟩, ⟨3, 2, 0, 0⟩, ⟨4, 1, 3, 0⟩, ⟨13, 0, 0, 0⟩].getD j I.zero
/-- How often Sub, and Add, was done ahead of step k. -/
def s1 (k : Nat) : Nat := (k + 1) / 4
def s2 (k : Nat) : Nat := (k + 2) / 4
/-- The registers ahead of step k, and the place. -/
def Fl (a : Int) (n k : Nat) : Nat → Int := R4 a ((n - s1 k : Nat) : Int) (IntKind.u64.wrap (a * ((s2 k : Nat) : Int)))
def Pl (n k : Nat) : Nat := if k = 4 * n + 1 then 4 else k % 4
theorem wrap_pos (x : Int) : 0 ≤ IntKind.u64.wrap x := by rw [IntKind.wrap_u64]; omega
theorem wrap_add (x y : Int) : IntKind.u64.wrap (IntKind.u64.wrap x + y) = IntKind.u64.wrap (x + y) := by
  simp only [IntKind.wrap_u64]; omega
theorem wrap_nat (n : Nat) (h : n < 18446744073709551616) : IntKind.u64.wrap (n : Int) = (n : Int) := by
  rw [IntKind.wrap_u64]; omega
theorem tr {i : I} {f g : Nat → Int} {p : Int} {e : E} {q : Int} (hf : ∀ j, 0 ≤ f j) (h : M.run i f p = (e, 0)) (h1 : e.k = 0) (h2 : e.f = g) (h3 : e.p = q) :
    ∃ e : E, (∀ w, Calls Try.prog 15 #[iv i, .agg (rc f), .int .i64 p] w fun r w' => r = .returned (.tuple #[.agg (ec e), .int .i64 0]) ∧ w.grownBy w' none) ∧ e.k = 0 ∧ e.f = g ∧ e.p = q :=
  ⟨e, run_is i f p e 0 hf h, h1, h2, h3⟩
theorem loop_step (a : Int) (ha : 0 ≤ a) (n k : Nat) (hn : n < 40) (hk : k < 4 * n + 1) :
    ∃ e : E, (∀ w, Calls Try.prog 15 #[iv (lc (Pl n k)), .agg (rc (Fl a n k)), .int .i64 (Pl n k : Int)] w fun r w' => r = .returned (.tuple #[.agg (ec e), .int .i64 0]) ∧ w.grownBy w' none) ∧ e.k = 0 ∧ e.f = Fl a n (k + 1) ∧ e.p = (Pl n (k + 1) : Int) := by
  have pos : ∀ j, 0 ≤ Fl a n k j := R4_pos ha (by omega) (wrap_pos _)
  have hp : Pl n k = k % 4 := by unfold Pl; rw [if_neg (by omega)]
  have e4 : k % 4 = 0 ∨ k % 4 = 1 ∨ k % 4 = 2 ∨ k % 4 = 3 := by omega
  rcases e4 with e4 | e4 | e4 | e4 <;> rw [hp, e4]
  · -- Zero
    refine tr pos (i := ⟨14, 1, 0, 4⟩) (p := 0) (e := M.ex ⟨14, 1, 0, 4⟩ (Fl a n k) 0) rfl rfl ?_ ?_
    · show upd (Fl a n k) 1 (Fl a n k 1) = Fl a n (k + 1)
      rw [upd_self]
      unfold Fl
      rw [show s1 (k + 1) = s1 k by unfold s1; omega, show s2 (k + 1) = s2 k by unfold s2; omega]
    · show M.af 14 4 (Fl a n k 1) (Fl a n k 0) 0 = _
      have e1 : Fl a n k 1 = ((n - s1 k : Nat) : Int) := rfl
      rw [e1]
      unfold M.af Pl
      by_cases c : k + 1 = 4 * n + 1
      · rw [if_neg (by decide), if_pos (by right; left; exact ⟨rfl, by unfold s1; omega⟩), if_pos c]; rfl
      · rw [if_neg (by decide), if_neg (by simp [s1]; omega), if_neg c]; omega
  · -- Add
    refine tr pos (i := ⟨3, 2, 0, 0⟩) (p := 1) (e := M.ex ⟨3, 2, 0, 0⟩ (Fl a n k) 1) rfl rfl ?_ ?_
    · show upd (Fl a n k) 2 (IntKind.u64.wrap (IntKind.u64.wrap (a * ((s2 k : Nat) : Int)) + a)) = Fl a n (k + 1)
      unfold Fl
      rw [upd2, wrap_add, show s1 (k + 1) = s1 k by unfold s1; omega, show s2 (k + 1) = s2 k + 1 by unfold s2; omega]
      congr 2
      push_cast
      rw [Int.mul_add, Int.mul_one]
    · show ((1 : Int) + 1) % 4096 = _
      unfold Pl
      rw [if_neg (by omega)]; omega
  · -- Sub
    refine tr pos (i := ⟨4, 1, 3, 0⟩) (p := 2) (e := M.ex ⟨4, 1, 3, 0⟩ (Fl a n k) 2) rfl rfl ?_ ?_
    · show upd (Fl a n k) 1 (IntKind.u64.wrap (((n - s1 k : Nat) : Int) - 1)) = Fl a n (k + 1)
      unfold Fl
      rw [upd1, show s2 (k + 1) = s2 k by unfold s2; omega]
      congr 1
      rw [IntKind.wrap_u64]; unfold s1; omega
    · show ((2 : Int) + 1) % 4096 = _
      unfold Pl
      rw [if_neg (by omega)]; omega
  · -- Jump
    refine tr pos (i := ⟨13, 0, 0, 0⟩) (p := 3) (e := M.ex ⟨13, 0, 0, 0⟩ (Fl a n k) 3) rfl rfl ?_ ?_
    · show upd (Fl a n k) 0 (Fl a n k 0) = Fl a n (k + 1)
      rw [upd_self]
      unfold Fl
      rw [show s1 (k + 1) = s1 k by unfold s1; omega, show s2 (k + 1) = s2 k by unfold s2; omega]
    · show (0 : Int) = _
      unfold Pl
      by_cases c : k + 1 = 4 * n + 1
      · omega
      · rw [if_neg c]; omega
theorem LI.four {w : World} {x : Nat} {t : TypeId} {i0 i1 i2 i3 : I} (h : Rw w x t #[.int .i64 i0.o, .int .i64 i0.a, .int .i64 i0.b, .int .i64 i0.m, .int .i64 i1.o, .int .i64 i1.a, .int .i64 i1.b, .int .i64 i1.m, .int .i64 i2.o, .int .i64 i2.a, .int .i64 i2.b, .int .i64 i2.m, .int .i64 i3.o, .int .i64 i3.a, .int .i64 i3.b, .int .i64 i3.m]) : LI w x 4 (fun j => [i0, i1, i2, i3].getD j I.zero) := fun j hj => by
  have e : j = 0 ∨ j = 1 ∨ j = 2 ∨ j = 3 := by omega
  rcases e with rfl | rfl | rfl | rfl
  · exact ⟨h.cell 0, h.cell 1, h.cell 2, h.cell 3⟩
  · exact ⟨h.cell 4, h.cell 5, h.cell 6, h.cell 7⟩
  · exact ⟨h.cell 8, h.cell 9, h.cell 10, h.cell 11⟩
  · exact ⟨h.cell 12, h.cell 13, h.cell 14, h.cell 15⟩
theorem loops_is (a : Int) (ha : 0 ≤ a) (n c b : Nat) (hn : n < 40) (w : World) (L : LI w b 4 lc) :
    Calls Try.prog 19 #[.slice (some ⟨b, 0, none⟩) 4 c, .agg #[.int .u64 a, .int .u64 (n : Int), .int .u64 0, .int .u64 1, .int .u64 0, .int .u64 0, .int .u64 0, .int .u64 0], .int .i64 (4 * (n : Int) + 1)] w
      fun r w' => r = .returned (.tuple #[.agg (rc (R4 a 0 (IntKind.u64.wrap (a * (n : Int))))), .int .i64 4]) ∧ w.grownBy w' none := by
  have h := runs_is lc 4 c (4 * n + 1) (4 * n + 1) (Fl a n) (Pl n) b w L (by omega) (by omega) (Nat.le_refl _) (.inl rfl) (by unfold Pl; rw [if_neg (by omega)]) (fun k hk => by unfold Pl; rw [if_neg (by omega)]; omega) (fun k hk => loop_step a ha n k hn hk)
  have f0 : Fl a n 0 = R4 a (n : Int) 0 := by
    unfold Fl
    rw [show s1 0 = 0 from rfl, show s2 0 = 0 from rfl]
    simp [IntKind.wrap_u64]
  have fK : Fl a n (4 * n + 1) = R4 a 0 (IntKind.u64.wrap (a * (n : Int))) := by
    unfold Fl
    rw [show s1 (4 * n + 1) = n by unfold s1; omega, show s2 (4 * n + 1) = n by unfold s2; omega, Nat.sub_self]; rfl
  have pK : Pl n (4 * n + 1) = 4 := by unfold Pl; rw [if_pos rfl]
  rw [f0, fK, pK] at h
  exact h
theorem mul_is (a : Int) (ha : 0 ≤ a) (n : Nat) (w : World) :
    Calls Try.prog 15 #[iv ⟨5, 0, 1, 0⟩, .agg #[.int .u64 a, .int .u64 (n : Int), .int .u64 0, .int .u64 0, .int .u64 0, .int .u64 0, .int .u64 0, .int .u64 0], .int .i64 0] w
      fun r w' => r = .returned (.tuple #[.agg (ec ⟨upd (upd (upd nil8 1 n) 0 a) 0 (IntKind.u64.wrap (a * (n : Int))), 1, 0, 0, 0, 0⟩), .int .i64 0]) ∧ w.grownBy w' none :=
  run_is ⟨5, 0, 1, 0⟩ (upd (upd nil8 1 n) 0 a) 0 _ 0 (upd_pos (upd_pos nil8_pos (Int.natCast_nonneg _)) ha) rfl w

set_option maxHeartbeats 4000000 in
theorem core (A : Nat) (a1 : Int) (U N : Nat) (w : World) (p1 : IntKind.u64.wrap a1 = (U : Int)) (q1 : (U : Int) % 40 = (N : Int)) (hN : N < 40) (hA : A < 18446744073709551616) :
    Calls Try.prog 7 #[.int .u64 A, .int .i64 a1] w fun r w' => r = .returned (.bool true) ∧ w.grownBy w' none := by
  go_enter Try.func7, Try.ntmps7
  go_wp2_with fail
  refine (works_is _).mono ?_
  rintro r w0 ⟨rfl, G⟩
  go_upto_region 4 with fail
  clear p1 q1
  go_upto_region 5 with fail
  obtain ⟨W1, e1, LR, g1, _⟩ := rowMade w0 #[.int .i64 14, .int .i64 1, .int .i64 0, .int .i64 4, .int .i64 3, .int .i64 2, .int .i64 0, .int .i64 0, .int .i64 4, .int .i64 1, .int .i64 3, .int .i64 0, .int .i64 13, .int .i64 0, .int .i64 0, .int .i64 0] 28
  rw [e1]
  clear e1
  have L : LI W1 w0.heap.size 4 lc := LI.four (i0 := ⟨14, 1, 0, 4⟩) (i1 := ⟨3, 2, 0, 0⟩) (i2 := ⟨4, 1, 3, 0⟩) (i3 := ⟨13, 0, 0, 0⟩) LR
  clear LR
  generalize w0.heap.size = b at L
  replace L := hideIt L
  replace G := gbTrans G g1
  clear g1
  go_wp2_with fail
  refine (loops_is A (Int.natCast_nonneg _) N _ b hN W1 L.out).mono ?_
  rintro r w2 ⟨rfl, g2⟩
  replace G := gbTrans G g2
  clear g2 L
  go_upto_region 6 with (first | (refine wpList_allocW rfl rfl zR ?_; intro V1 x1 X1 k1 l1) | (refine wpList_storeW rfl _ _ rfl rfl rfl X1 tkR rfl rfl (rc_one _) ?_; intro W3 R h1))
  replace G := gbMade G k1 l1 h1
  clear k1 l1 h1 X1
  go_wp2_with fail
  refine (mul_is A (Int.natCast_nonneg _) N _).mono ?_
  rintro r w4 ⟨rfl, g4⟩
  replace R := R.kept g4
  replace G := gbTrans G g4
  clear g4
  go_upto_region 7 with (first | (refine wpList_allocW rfl rfl zE ?_; intro V2 x2 X2 k2 l2) | (refine wpList_storeW rfl _ _ rfl rfl rfl X2 tkE rfl rfl (ec_one _) ?_; intro W5 D h2))
  replace R := R.past k2 l2 h2
  replace G := gbMade G k2 l2 h2
  clear k2 l2 h2 X2
  have c1 : W5.cell? ⟨x1, 1, none⟩ = some (.int .u64 0) := R.cell 1
  have c2 : W5.cell? ⟨x1, 2, none⟩ = some (.int .u64 (IntKind.u64.wrap ((A : Int) * (N : Int)))) := R.cell 2
  have c3 : W5.cell? ⟨x2, 0, none⟩ = some (.int .u64 (IntKind.u64.wrap ((A : Int) * (N : Int)))) := D.cell 0
  clear R D
  go_wp2
  go_ret
  exact ⟨rfl, G⟩

theorem walk (a0 : Int) (w0 : (Lit.int .u64 a0).wf = true) (a1 : Int) (w : World) :
    Calls Try.prog 7 #[.int .u64 a0, .int .i64 a1] w fun e w' => e = .returned (.bool true) ∧ Below w.heap.size w w' := by
  refine endWalk ?_
  obtain ⟨A, rfl, hA⟩ := natOf w0
  obtain ⟨U, N, p1, q1, hN⟩ := modN a1 40 (by decide)
  exact core A a1 U N w p1 q1 hN hA

set_option maxRecDepth 100000 in
theorem lifted (os : Os) (started : os.Started) (H : Type) (enc : TypeId × Value → H) :
    ReturnsInHanded {} Try.checked os 7 .any (Rows.codeLoopsSpec.pre6 enc Try.prog Try.f7 Rows.codeLoopsRow.domain false) (Rows.codeLoopsSpec.post enc Try.prog Try.f7 false true false false) := by
  refine returnsInHanded_of_change (C := Try.checked) own started (by kernel_rfl) Try.func7
    (ChangeSpec.witness6 (enc := enc) (C := Try.checked) false ⟨#[], #[.int .u64 0, .int .i64 0], []⟩ 8 (by kernel_rfl) (by kernel_rfl) (by kernel_rfl) (by kernel_rfl)) ?_
  intro W base args ds gs before hval0 hW hcnd _
  have hval : ∀ (j : Nat) t v, Try.f7.params[j]? = some t → args[j]? = some v → Value.okWide Try.prog W .any base t v := hval0
  have hW' := hW
  obtain ⟨p, q, hA0, hV, rfl, hfz, hnd⟩ := hW
  have hA : DataW.TrodAll enc Try.prog W 0 (fun _ => true) true Try.f7.params.toList args.toList ds p := hA0
  rw [Try.params7] at hA hval
  obtain ⟨v0, vs0, d0, ds0, p0, q0, hargs, rfl, rfl, h0, r0⟩ := trodAll_cons hA
  obtain ⟨v1, vs1, d1, ds1, p1, q1, rfl, rfl, rfl, h1, r1⟩ := trodAll_cons r0
  obtain ⟨rfl, rfl, rfl⟩ := trodAll_nil r1
  obtain rfl : args = #[v0, v1] := by cases args; simp_all
  obtain ⟨rfl, rfl⟩ := trodVars_none hV
  obtain ⟨a0, rfl, rfl, rfl, w0⟩ := open_int Try.underlying24 (hval 0 24 v0 rfl rfl) h0
  obtain ⟨a1, rfl, rfl, rfl, w1⟩ := open_int Try.underlying3 (hval 1 3 v1 rfl rfl) h1
  clear hA0 hval0
  refine (walk a0 w0 a1 W).mono fun e W' ⟨he, bel⟩ => ?_
  subst he
  exact ⟨_, rfl, _, _, _, [], _, [], hW', trodAll_mk1 (shut_bool Try.underlying4 _), (trodAll_cons_mk (shut_int Try.underlying24 w0) (trodAll_cons_mk (shut_int Try.underlying3 w1) trodAll_mk0)), rfl, bel.frame _, fun h => by cases h⟩

theorem over : Rows.codeLoopsRow.holds Try.pinned (OpenSpec.ofChange Rows.codeLoopsSpec) :=
  OpenClaim.holds_of_wide 7 Try.f7 rfl rfl rfl rfl rfl rfl rfl ⟨rfl, rfl, rfl, rfl, rfl⟩ rfl rfl rfl rfl rfl (by kernel_rfl) Try.func7 (by kernel_rfl)
    (of_decide_eq_true (by kernel_rfl)) (by unfold Func.isWrapper; first | (rw [if_pos (by decide +kernel)]; kernel_rfl) | (rw [if_neg (by decide +kernel)]; exact ⟨rfl, rfl⟩))
    (fun os started H enc _ => lifted os started H enc)

theorem proved : Rows.CodeLoopsSaid := over
end Go.Proofs.Yteekgfdffofnaaa.codeLoops
namespace Go.Proofs.Yteekgfdffofnaaa
theorem codeLoops_holds : Rows.CodeLoopsSaid := codeLoops.proved
#print axioms codeLoops_holds
end Go.Proofs.Yteekgfdffofnaaa
