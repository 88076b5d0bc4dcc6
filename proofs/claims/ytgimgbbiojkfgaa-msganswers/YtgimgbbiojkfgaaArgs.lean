/-
  WHAT COMES IN: an info by value, lists of words; the laws' works.
-/
import Derived.Test.YtgimgbbiojkfgaaRca
import Derived.Lib.SmallJoins
import Derived.Deep.Slices
import Derived.OpenShut
namespace Go.Proofs.Ytgimgbbiojkfgaa
set_option maxRecDepth 10000
open Go.ChangeShapes Go.WideShapes Go.ChangeAt Go.RowKit

/-- A number that a word of 64 bits holds. -/
def U64 (a : Int) : Prop := 0 ≤ a ∧ a < 18446744073709551616

theorem u64_wf {a : Int} (h : (Lit.int .u64 a).wf = true) : U64 a := by
  unfold Lit.wf at h
  rw [Bool.and_eq_true, decide_eq_true_eq, decide_eq_true_eq] at h
  have e1 : IntKind.u64.min = 0 := by decide
  have e2 : IntKind.u64.max = 18446744073709551615 := by decide
  rw [e1, e2] at h
  unfold U64
  omega

theorem endWalk {P : Program} {f : FuncId} {args : Array Value} {w : World} (h : Calls P f args w fun e w' => e = .returned (.bool true) ∧ w.grownBy w' none) :
    Calls P f args w fun e w' => e = .returned (.bool true) ∧ Below w.heap.size w w' :=
  h.mono fun _ _ k => ⟨k.1, gbEnd k.2⟩

theorem wordCells {H : Type} {enc : TypeId × Value → H} {W : World} {base fuel : Nat} {spare : Nat → Bool} {held : Bool} {a : Option Addr} {len cap : Nat} {x : DataW H × List MemPlace}
    (h : DataW.trod enc Try.prog W base spare held fuel 35 [.slice a len cap] = some x) : ∀ i, i < len → ∃ (x : Addr) (z : Nat), a = some x ∧ W.cell? (x.add i) = some (.int .u64 (z : Int)) ∧ z < 18446744073709551616 := by
  intro i hi
  rcases Deep.open_slice Try.underlying35 h with ⟨hcs, _⟩ | ⟨y, l, c, m, n, D, Pl, hcs, _, hl, _, hm, _, hx⟩
  · simp at hcs; omega
  · simp at hcs
    obtain ⟨rfl, rfl, rfl⟩ := hcs
    have hlm : len ≤ m := by rw [hm]; split <;> omega
    obtain ⟨cs', h1, h2⟩ := hx i (by omega)
    have ce : Try.prog.cellsOf 22 = 1 := by kernel_rfl
    rw [ce] at h1
    obtain ⟨_, hlen, hcell⟩ := World.cells?_some h1
    match cs', hlen with
    | [v0], _ =>
      obtain ⟨A0, e0, _, w0⟩ := DataW.trod_int Try.underlying22 h2
      simp only [List.cons.injEq, and_true] at e0
      subst e0
      have d0 := hcell 0 (by omega)
      have z : (y.add (i * 1)).add 0 = y.add i := by unfold Addr.add; simp
      rw [z] at d0
      have u0 := u64_wf w0
      obtain ⟨Z, rfl⟩ : ∃ Z : Nat, A0 = Z := ⟨A0.toNat, by have := u0.1; omega⟩
      exact ⟨y, Z, rfl, d0, by have := u0.2; omega⟩
theorem wordsArg {H : Type} {enc : TypeId × Value → H} {W : World} {base : Nat} {spare : Nat → Bool} {held : Bool} {a : Option Addr} {len cap : Nat} {d : DataW H} {p : List MemPlace}
    (h : DataW.Trod enc Try.prog W base spare held 35 (.slice a len cap) d p) : ∀ i, i < len → ∃ (x : Addr) (z : Nat), a = some x ∧ W.cell? (x.add i) = some (.int .u64 (z : Int)) ∧ z < 18446744073709551616 := by
  obtain ⟨fuel, hf⟩ := h
  exact wordCells hf

theorem infoArg {H : Type} {enc : TypeId × Value → H} {W : World} {r : Reach} {b0 base : Nat} {spare : Nat → Bool} {held : Bool} {v : Value} {d : DataW H} {p : List MemPlace}
    (hv : Value.okWide Try.prog W r b0 24 v) (h : DataW.Trod enc Try.prog W base spare held 24 v d p) : ∃ (l n : Int) (c : Bool), v = iv ⟨l, n, c⟩ ∧ U64 l := by
  obtain ⟨v0, v1, v2, y0, y1, y2, n, rfl, _, _, h0, h1, h2⟩ := Go.Joins.open_agg3 Try.underlying24 (by kernel_rfl) (by kernel_rfl) hv h
  obtain ⟨A0, e0, _, w0⟩ := DataW.trod_int Try.underlying22 h0
  obtain ⟨A1, e1, _⟩ := DataW.trod_int Try.underlying3 h1
  obtain ⟨A2, e2, _⟩ := DataW.trod_bool Try.underlying4 h2
  simp only [List.cons.injEq, and_true] at e0 e1 e2
  subst e0 e1 e2
  exact ⟨A0, A1, A2, rfl, u64_wf w0⟩

/-! ### Numbers that are brought into bounds, and the message that they make -/
theorem natOf {a : Int} (h : (Lit.int .u64 a).wf = true) : ∃ A : Nat, a = A ∧ A < 18446744073709551616 :=
  ⟨a.toNat, by have := (u64_wf h).1; omega, by have := (u64_wf h).2; omega⟩
theorem numsOf (A0 : Nat) (a1 : Int) : ∃ l N U : Nat, (A0 : Int) % 65536 = (l : Int) ∧ IntKind.u64.wrap a1 = (U : Int) ∧ (U : Int) % 5 = (N : Int) ∧ l < 65536 ∧ N ≤ 4 := by
  refine ⟨A0 % 65536, (IntKind.u64.wrap a1).toNat % 5, (IntKind.u64.wrap a1).toNat, by omega, ?_, by omega, by omega, by omega⟩
  rw [IntKind.wrap_u64]; omega
theorem M.whole (l N : Nat) (hl : l < 65536) (hN : N ≤ 4) : ∃ X : Nat, X < 18446744073709551616 ∧ M.pk ⟨l, N, false⟩ = ((X : Int), 0) ∧ M.up X = (⟨l, N, false⟩, 0) := by
  refine ⟨N + 16 * l, by omega, ?_, ?_⟩
  · rw [M.pk_ok (by omega) (by omega)]
    simp
  · rw [M.up_yes (by omega) (by omega)]
    simp only [Prod.mk.injEq, I.mk.injEq, and_true, beq_eq_false_iff_ne]
    omega
theorem M.cry_of {f : Nat → Nat} {X N : Nat} {l : Int} {c : Bool} (g : Nat → Nat) (b : Nat) (hf : f 0 = X) (h : M.up X = (⟨l, N, c⟩, 0)) : M.cry f g b = (upd (cp (upd g 0 X) (fun j => f (j + 1)) N) 5 b, 0) := by
  unfold M.cry
  rw [hf, h]
  simp
theorem cry_in (f g : Nat → Nat) (X b N j : Nat) (h1 : 1 ≤ j) (h2 : j ≤ N) (h3 : N ≤ 4) : upd (cp (upd g 0 X) (fun j => f (j + 1)) N) 5 b j = f j := by
  unfold upd cp
  rw [if_neg (by omega), if_pos (by omega)]
  show f (j - 1 + 1) = f j
  rw [Nat.sub_add_cancel h1]
theorem cry_out (f g : Nat → Nat) (X b N j : Nat) (h1 : N < j) (h2 : j ≠ 5) : upd (cp (upd g 0 X) (fun j => f (j + 1)) N) 5 b j = g j := by
  unfold upd cp
  rw [if_neg h2, if_neg (by omega)]
  show (if j = 0 then X else g j) = g j
  rw [if_neg (by omega)]
theorem cry_nul (f g : Nat → Nat) (X b N : Nat) : upd (cp (upd g 0 X) (fun j => f (j + 1)) N) 5 b 0 = X := by
  unfold upd cp
  rw [if_neg (by decide), if_neg (by omega)]
  rfl
theorem cry_bdg (f g : Nat → Nat) (X b N : Nat) : upd (cp (upd g 0 X) (fun j => f (j + 1)) N) 5 b 5 = b := by
  unfold upd
  rw [if_pos rfl]

/-! ### works -/
theorem M.up90 : M.up 90 = (⟨5, 2, true⟩, 0) := M.up_yes (W := 90) (by decide) (by decide)
theorem M.up7 : M.up 7 = (I.zero, 10) := M.up_no (W := 7) (by decide)
def f1 : Nat → Nat := fun i => [90, 7, 8, 9].getD i 0
def f2 : Nat → Nat := fun i => [1, 1, 1, 1, 1, 1].getD i 0
def f3 : Nat → Nat := fun i => [1, 1, 1].getD i 0
theorem cry1 : M.cry f1 f2 3 = (upd (cp (upd f2 0 90) (fun j => f1 (j + 1)) 2) 5 3, 0) := by
  unfold M.cry
  rw [show M.up (f1 0) = (⟨5, 2, true⟩, 0) from M.up90]
  rfl
theorem wcarry (w : World) : Calls Try.prog 14 #[.agg #[.int .u64 90, .int .u64 7, .int .u64 8, .int .u64 9, .int .u64 0, .int .u64 0, .int .u64 0, .int .u64 0], .agg #[.int .u64 1, .int .u64 1, .int .u64 1, .int .u64 1, .int .u64 1, .int .u64 1, .int .u64 0, .int .u64 0], .int .u64 3] w
    fun r w' => r = .returned (.tuple #[.agg #[.int .u64 90, .int .u64 7, .int .u64 8, .int .u64 1, .int .u64 1, .int .u64 3, .int .u64 0, .int .u64 0], .int .i64 0]) ∧ w.grownBy w' none :=
  carry_is f1 f2 _ 3 0 (by decide) cry1 w
theorem wanswer (w : World) (b c : Nat) (h : w.cell? ⟨b, 0, none⟩ = some (.int .u64 6)) : Calls Try.prog 16 #[.agg #[.int .u64 1, .int .u64 1, .int .u64 1, .int .u64 0, .int .u64 0, .int .u64 0, .int .u64 0, .int .u64 0], .int .i64 3, .slice (some ⟨b, 0, none⟩) 1 c] w
    fun r w' => r = .returned (.agg #[.int .u64 3, .int .u64 6, .int .u64 1, .int .u64 0, .int .u64 0, .int .u64 0, .int .u64 0, .int .u64 0]) ∧ w.grownBy w' none :=
  answer_is f3 (fun _ => 6) 3 3 (by decide) (some ⟨b, 0, none⟩) 1 c 1 rfl w (fun i hi => ⟨_, rfl, by
    have e : i = 0 := Nat.lt_one_iff.1 hi
    rw [e]
    exact h, show 6 < 18446744073709551616 by decide⟩)
theorem weql1 (w : World) : (binOp .eql 38 (.agg #[.int .u64 90, .int .u64 7, .int .u64 8, .int .u64 1, .int .u64 1, .int .u64 3, .int .u64 0, .int .u64 0]) (.agg #[.int .u64 90, .int .u64 7, .int .u64 8, .int .u64 1, .int .u64 1, .int .u64 3, .int .u64 0, .int .u64 0])).run Try.prog w = .ok (.bool true) w :=
  run_eql_regs w (fun i => [90, 7, 8, 1, 1, 3].getD i 0) (fun i => [90, 7, 8, 1, 1, 3].getD i 0) (fun _ _ => rfl)
theorem weql2 (w : World) : (binOp .eql 38 (.agg #[.int .u64 3, .int .u64 6, .int .u64 1, .int .u64 0, .int .u64 0, .int .u64 0, .int .u64 0, .int .u64 0]) (.agg #[.int .u64 3, .int .u64 6, .int .u64 1, .int .u64 0, .int .u64 0, .int .u64 0, .int .u64 0, .int .u64 0])).run Try.prog w = .ok (.bool true) w :=
  run_eql_regs w (fun i => [3, 6, 1].getD i 0) (fun i => [3, 6, 1].getD i 0) (fun _ _ => rfl)

theorem arrLit (w : World) : ∃ W, w.alloc (.cells #[.int .u64 90, .int .u64 7, .int .u64 8, .int .u64 1, .int .u64 1, .int .u64 3, .int .u64 0, .int .u64 0] 38) = W ∧ RA W w.heap.size 38 (fun i => [90, 7, 8, 1, 1, 3].getD i 0) ∧ w.grownBy W none ∧ W.heap.size = w.heap.size + 1 :=
  arrNew w (fun i => [90, 7, 8, 1, 1, 3].getD i 0) 38

set_option maxHeartbeats 2000000 in
theorem works_any (w : World) : Calls Try.prog 18 #[] w fun e w' => e = .returned (.bool true) ∧ w.grownBy w' none := by
  have h1 := fun w => pack_is 5 2 true 90 0 (by decide) (by decide) w
  have h2 := fun w => unpack_is 90 _ _ (by decide) M.up90 w
  have h3 := fun w => unpack_is 7 _ _ (by decide) M.up7 w
  have h4 := wcarry
  have qe := eqGuardRegs
  have q1 := weql1
  have q2 := weql2
  go_enter Try.func18, Try.ntmps18
  go_wp2_with fail
  refine (h1 _).mono ?_
  rintro e w1 ⟨rfl, g1⟩
  go_wp2_with fail
  refine (h2 _).mono ?_
  rintro e w2 ⟨rfl, g2⟩
  go_upto_region 3 with fail
  obtain ⟨W2, hW2, X, k2⟩ := boxNew w2 ⟨5, 2, true⟩ 28
  simp only at hW2
  rw [hW2]
  clear hW2
  generalize w2.heap.size = x at X
  have G := gbTrans (gbTrans g1 g2) k2
  clear g1 g2 k2
  go_wp2_with fail
  refine (h3 _).mono ?_
  rintro e w3 ⟨rfl, g3⟩
  go_upto_region 4 with fail
  obtain ⟨W3, hW3, Y, k3⟩ := boxNew w3 I.zero 28
  simp only at hW3
  rw [hW3]
  clear hW3
  clear Y
  generalize w3.heap.size = y
  replace X := (X.kept g3).kept k3
  replace G := gbTrans (gbTrans G g3) k3
  clear g3 k3
  go_wp2_with fail
  refine (h4 _).mono ?_
  rintro e w4 ⟨rfl, g4⟩
  go_upto_region 5 with fail
  obtain ⟨W4, hW4, R, k4, s4⟩ := arrLit w4
  rw [hW4]
  clear hW4 s4
  generalize w4.heap.size = z at R
  replace X := (X.kept g4).kept k4
  replace G := gbTrans (gbTrans G g4) k4
  clear g4 k4
  obtain ⟨a0, a1, a2, a3, a4, a5, a6, a7⟩ := R.eight
  simp only [List.getD_cons_zero, List.getD_cons_succ, List.getD_nil] at a0 a1 a2 a3 a4 a5 a6 a7
  obtain ⟨x0, x1, x2, _, _⟩ := X
  simp only at x0 x1 x2
  go_wp2_with fail
  refine (wanswer _ W4.heap.size 1 (by simp)).mono ?_
  rintro e w5 ⟨rfl, g5⟩
  go_wp2
  go_ret
  exact ⟨rfl, gbTrans (gbAllocN G _) g5⟩
end Go.Proofs.Ytgimgbbiojkfgaa
