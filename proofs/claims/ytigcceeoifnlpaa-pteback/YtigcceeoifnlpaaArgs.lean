/-
  WHAT COMES IN: an entry by value; the law's To and From; works.
-/
import Derived.Test.YtigcceeoifnlpaaUnpk
import Derived.Lib.SmallJoins
import Derived.Deep.Slices
import Derived.Deep.Cut
import Derived.OpenShut
namespace Go.Proofs.Ytigcceeoifnlpaa
open Go.ChangeShapes Go.WideShapes Go.ChangeAt Go.RowKit

/-- A number that a word of 64 bits holds. -/
def U64 (a : Int) : Prop := 0 ≤ a ∧ a < 18446744073709551616

theorem u64_wf {a : Int} (h : (Lit.int .u64 a).wf = true) : U64 a := by
  unfold Lit.wf at h
  rw [Bool.and_eq_true, decide_eq_true_eq, decide_eq_true_eq] at h
  have e1 : IntKind.u64.min = 0 := by decide
  have e2 : IntKind.u64.max = 18446744073709551615 := by decide
  rw [e1, e2] at h
  unfold U64
  omega

theorem endWalk {P : Program} {f : FuncId} {args : Array Value} {w : World} (h : Calls P f args w fun e w' => e = .returned (.bool true) ∧ w.grownBy w' none) :
    Calls P f args w fun e w' => e = .returned (.bool true) ∧ Below w.heap.size w w' :=
  h.mono fun _ _ k => ⟨k.1, gbEnd k.2⟩

theorem entryArg {H : Type} {enc : TypeId × Value → H} {W : World} {r : Reach} {b0 base : Nat} {spare : Nat → Bool} {held : Bool} {v : Value} {d : DataW H} {p : List MemPlace}
    (hv : Value.okWide Try.prog W r b0 23 v) (h : DataW.Trod enc Try.prog W base spare held 23 v d p) : ∃ (a b : Bool) (n : Int), v = ev ⟨a, b, n⟩ := by
  obtain ⟨v0, v1, v2, y0, y1, y2, n, rfl, _, _, h0, h1, h2⟩ := Go.Joins.open_agg3 Try.underlying23 (by kernel_rfl) (by kernel_rfl) hv h
  obtain ⟨A0, e0, _⟩ := DataW.trod_bool Try.underlying4 h0
  obtain ⟨A1, e1, _⟩ := DataW.trod_bool Try.underlying4 h1
  obtain ⟨A2, e2, _⟩ := DataW.trod_int Try.underlying3 h2
  simp only [List.cons.injEq, and_true] at e0 e1 e2
  subst e0 e1 e2
  exact ⟨A0, A1, A2, rfl⟩

set_option maxHeartbeats 400000 in
theorem to_any (v o : Bool) (a : Int) (w : World) : Calls Try.prog 7 #[ev ⟨v, o, a⟩] w fun e w' => e = .returned (ev ⟨v, o, a⟩) ∧ w.grownBy w' none := by
  have G0 := gbAlloc w (.cells #[.bool v, .bool o, .int .i64 a] 23) none
  have G1 := gbAllocN G0 (.cells #[.bool v, .bool o, .int .i64 a] 28)
  have G2 := gbAllocN G0 (.cells #[.bool false, .bool false, .int .i64 0] 28)
  go_enter Try.func7, Try.ntmps7
  go_wp2
  exact bodyPost_ret (v := ev ⟨v, o, a⟩) (by simp [results, Try.results7, go_sem]) rfl ⟨rfl, by repeat (first | with_reducible exact G1 | with_reducible exact G2 | refine gbSetNew ?_ _ _ _ (by simp))⟩

set_option maxHeartbeats 800000 in
theorem works_any (w : World) : Calls Try.prog 14 #[] w fun e w' => e = .returned (.bool true) ∧ w.grownBy w' none := by
  have h1 := fun w => pack_is true true 32 35 0 (by decide) w
  have h2 := fun w => unpack_is 2 E.zero 10 (by decide) (by unfold M.up; rw [if_neg (by decide)]) w
  have h3 := fun w => split_is 291 1 2 3 0 (by decide) w
  have h4 := fun w => pack_is true false 33 0 9 (by decide) w
  go_enter Try.func14, Try.ntmps14
  go_wp2_with fail
  refine (h1 _).mono ?_
  rintro e w1 ⟨rfl, g1⟩
  go_wp2_with fail
  refine (h2 _).mono ?_
  rintro e w2 ⟨rfl, g2⟩
  go_upto_region 3 with fail
  obtain ⟨W2, hW2, _, k2⟩ := boxNew w2 E.zero 28
  simp only at hW2
  rw [hW2]
  clear hW2
  go_wp2_with fail
  refine (h3 _).mono ?_
  rintro e w3 ⟨rfl, g3⟩
  go_wp2_with fail
  refine (h4 _).mono ?_
  rintro e w4 ⟨rfl, g4⟩
  go_wp2
  go_ret
  exact ⟨rfl, gbTrans (gbTrans (gbTrans (gbTrans g1 g2) k2) g3) g4⟩
theorem M.pk_valid0 {a : Int} (h : M.pg a = true) : M.pk ⟨true, false, a⟩ = (a + 1, 0) := by
  have c : M.ce ⟨true, false, a⟩ = 0 := by simp only [M.ce, if_true, h]
  simp only [M.pk, c, if_true, M.pw, Bool.false_eq_true, if_false, Int.add_zero]
theorem M.pk_valid1 {a : Int} (h : M.pg a = true) : M.pk ⟨true, true, a⟩ = (a + 1 + 2, 0) := by
  have c : M.ce ⟨true, true, a⟩ = 0 := by simp only [M.ce, if_true, h]
  simp only [M.pk, c, if_true, M.pw]
end Go.Proofs.Ytigcceeoifnlpaa
