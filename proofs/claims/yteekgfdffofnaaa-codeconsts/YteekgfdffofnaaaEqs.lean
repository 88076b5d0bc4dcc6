/-
  HELD AGAINST ONE ANOTHER: an instruction, registers, an effect and itself.
-/
import Derived.Test.YteekgfdffofnaaaBase
namespace Go.Proofs.Yteekgfdffofnaaa
set_option maxRecDepth 10000
open Go.RowKit
set_option linter.unusedVariables false

theorem eqStep {w : World} {d : Nat} {xs ys : Array Value} {fld : Field} {fs : List Field} {va vb : Value} (hn : fld.name ≠ "_") (ha : (part fld.type xs fld.offset).run Try.prog w = .ok va w) (hb : (part fld.type ys fld.offset).run Try.prog w = .ok vb w)
    (he : (Op.equalIn d fld.type va vb).run Try.prog w = .ok true w) : (Op.eqFields d xs ys (fld :: fs)).run Try.prog w = (Op.eqFields d xs ys fs).run Try.prog w := by
  rw [Op.eqFields]
  simp only [hn, ne_eq, not_false_eq_true, if_true, Sem.run_bind, ha, hb, he, Result.andThen_ok]
  simp
theorem part_int (w : World) (xs : Array Value) (i : Nat) (v : Value) (h : xs[i]? = some v) : (part 3 xs i).run Try.prog w = .ok v w := by
  have h1 : (isAgg 3).run Try.prog w = .ok false w := by kernel_rfl
  simp [part, Sem.run_bind, h1, h]
theorem part_u64 (w : World) (xs : Array Value) (i : Nat) (v : Value) (h : xs[i]? = some v) : (part 24 xs i).run Try.prog w = .ok v w := by
  have h1 : (isAgg 24).run Try.prog w = .ok false w := by kernel_rfl
  simp [part, Sem.run_bind, h1, h]
theorem part_regs (w : World) (e : E) : (part 39 (ec e) 0).run Try.prog w = .ok (.agg (rc e.f)) w := by
  have h1 : (isAgg 39).run Try.prog w = .ok true w := by kernel_rfl
  have h2 : (sizeOf 39).run Try.prog w = .ok 8 w := by kernel_rfl
  have h3 : (ec e).extract 0 (0 + 8) = rc e.f := by simp [ec, el, rc, rl]
  simp only [part, Sem.run_bind, h1, h2, h3, Result.andThen_ok, if_true, Sem.run_pure]
theorem eq_int (w : World) (a : Int) : (Op.equalIn 9999 3 (.int .i64 a) (.int .i64 a)).run Try.prog w = .ok true w := by
  simp [go_sem, Try.underlying3]
theorem eq_u64 (w : World) (a : Int) : (Op.equalIn 9999 24 (.int .u64 a) (.int .u64 a)).run Try.prog w = .ok true w := by
  simp [go_sem, Try.underlying24]
theorem eqItems_regs (w : World) (f : Nat → Int) (m : Nat) : ∀ l : List Nat, (∀ i ∈ l, i < 8) → (Op.eqItems (m + 2) 24 1 (rc f) (rc f) l).run Try.prog w = .ok true w
  | [], _ => by simp [Op.eqItems]
  | i :: l, h => by
    have hi := h i (by simp)
    have ih := eqItems_regs w f m l (fun j hj => h j (by simp [hj]))
    have hp : (part 24 (rc f) (i * 1)).run Try.prog w = .ok (.int .u64 (f i)) w := part_u64 w _ _ _ (by rw [Nat.mul_one]; exact rc_at f i hi)
    simp only [Op.eqItems, Sem.run_bind, hp, Result.andThen_ok]
    simp [go_sem, Try.underlying24, ih]
theorem run_equal_R (w : World) (f : Nat → Int) (m : Nat) : (Op.equalIn (m + 4) 39 (.agg (rc f)) (.agg (rc f))).run Try.prog w = .ok true w := by
  have hc : Try.prog.cellsOf 24 = 1 := by kernel_rfl
  obtain ⟨i, hi⟩ : ∃ i, Try.prog.info? 24 = some i := Option.isSome_iff_exists.1 (by kernel_rfl)
  rw [run_equalIn_array w (m + 3) _ _ Try.underlying39 hi, hc, eqItems_regs w f (m + 1) _ (by simp)]
theorem run_eql_R (w : World) (f g : Nat → Int) (h : f = g) : (binOp .eql 39 (.agg (rc f)) (.agg (rc g))).run Try.prog w = .ok (.bool true) w := by
  subst h
  rw [run_eql_struct, run_equal_R w f 9996]; rfl
theorem run_equal_E (w : World) (e : E) : (Op.equalIn 10000 41 (.agg (ec e)) (.agg (ec e))).run Try.prog w = .ok true w := by
  rw [run_equalIn_agg w 9999 41 _ _ (by kernel_rfl) (by kernel_rfl)]
  simp only [Program.fieldsOf, Try.underlying41]
  refine (eqStep (fld := ⟨_, _, 0, _, _, _, _⟩) (by decide) (part_regs w _) (part_regs w _) (run_equal_R w _ 9995)).trans ?_
  refine (eqStep (fld := ⟨_, _, 8, _, _, _, _⟩) (by decide) (part_int w _ 8 _ rfl) (part_int w _ 8 _ rfl) (eq_int w _)).trans ?_
  refine (eqStep (fld := ⟨_, _, 9, _, _, _, _⟩) (by decide) (part_int w _ 9 _ rfl) (part_int w _ 9 _ rfl) (eq_int w _)).trans ?_
  refine (eqStep (fld := ⟨_, _, 10, _, _, _, _⟩) (by decide) (part_u64 w _ 10 _ rfl) (part_u64 w _ 10 _ rfl) (eq_u64 w _)).trans ?_
  refine (eqStep (fld := ⟨_, _, 11, _, _, _, _⟩) (by decide) (part_int w _ 11 _ rfl) (part_int w _ 11 _ rfl) (eq_int w _)).trans ?_
  refine (eqStep (fld := ⟨_, _, 12, _, _, _, _⟩) (by decide) (part_u64 w _ 12 _ rfl) (part_u64 w _ 12 _ rfl) (eq_u64 w _)).trans ?_
  simp [Op.eqFields]
theorem run_eql_E (w : World) (e : E) : (binOp .eql 41 (.agg (ec e)) (.agg (ec e))).run Try.prog w = .ok (.bool true) w := by
  rw [run_eql_struct, run_equal_E]; rfl
theorem run_equal_I (w : World) (i : I) : (Op.equalIn 10000 28 (iv i) (iv i)).run Try.prog w = .ok true w := by
  rw [run_equalIn_agg w 9999 28 _ _ (by kernel_rfl) (by kernel_rfl)]
  simp only [go_sem, Program.fieldsOf, Try.underlying28]
  simp [go_sem, Try.underlying3]
theorem run_eql_I (w : World) (i : I) : (binOp .eql 28 (.agg (ic i)) (.agg (ic i))).run Try.prog w = .ok (.bool true) w := by
  rw [run_eql_struct, run_equal_I]; rfl
theorem run_neq_I (w : World) (i : I) : (binOp .neq 28 (.agg (ic i)) (.agg (ic i))).run Try.prog w = .ok (.bool false) w := by
  rw [run_neq_struct, run_equal_I]; rfl
theorem eqGuardI : Try.prog.eqGuardType Try.prog.depth 28 = false := by kernel_rfl
theorem eqGuardR : Try.prog.eqGuardType Try.prog.depth 39 = false := by kernel_rfl
theorem eqGuardE : Try.prog.eqGuardType Try.prog.depth 41 = false := by kernel_rfl

/-! ### What comes in, and how a law's walk ends -/
/-- A number that a word of 64 bits holds. -/
def U64 (a : Int) : Prop := 0 ≤ a ∧ a < 18446744073709551616
theorem u64_wf {a : Int} (h : (Lit.int .u64 a).wf = true) : U64 a := by
  unfold Lit.wf at h
  rw [Bool.and_eq_true, decide_eq_true_eq, decide_eq_true_eq] at h
  have e1 : IntKind.u64.min = 0 := by decide
  have e2 : IntKind.u64.max = 18446744073709551615 := by decide
  rw [e1, e2] at h
  unfold U64
  omega
theorem natOf {a : Int} (h : (Lit.int .u64 a).wf = true) : ∃ A : Nat, a = A ∧ A < 18446744073709551616 :=
  ⟨a.toNat, by have := (u64_wf h).1; omega, by have := (u64_wf h).2; omega⟩
theorem endWalk {P : Program} {f : FuncId} {args : Array Value} {w : World} (h : Calls P f args w fun e w' => e = .returned (.bool true) ∧ w.grownBy w' none) :
    Calls P f args w fun e w' => e = .returned (.bool true) ∧ Below w.heap.size w w' :=
  h.mono fun _ _ k => ⟨k.1, gbEnd k.2⟩
end Go.Proofs.Yteekgfdffofnaaa
