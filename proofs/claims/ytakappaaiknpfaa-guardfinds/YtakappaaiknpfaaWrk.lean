/-
  A STORE THAT IS ALL NEW, and the contract of donjonlaw08's works: true.
-/
import Derived.Test.YtakappaaiknpfaaFnd
namespace Go.Proofs.Ytakappaaiknpfaa
open Go.RowKit
set_option linter.unusedVariables false

/-- A store whose blocks were not there for w0; nothing else has turned since. -/
structure Own (w0 w : World) (O : Nat → Prop) (p n : Nat) (S : St) : Prop where
  sat : SAt w p n O S
  lo : ∀ i, O i → w0.heap.size ≤ i ∧ i < w.heap.size
  gr : w0.grownBy w none
  good : Good S
theorem Own.kept {w0 w w' : World} {O : Nat → Prop} {p n : Nat} {S : St} (h : Own w0 w O p n S) (g : w.grownBy w' none) : Own w0 w' O p n S :=
  ⟨h.sat.kept g, fun i hi => ⟨(h.lo i hi).1, Nat.lt_of_lt_of_le (h.lo i hi).2 g.size⟩, gbTrans h.gr g, h.good⟩
theorem Own.fr {w0 w w' : World} {O : Nat → Prop} {p n : Nat} {S : St} (h : Own w0 w O p n S) (F : Fr O w w') : w0.grownBy w' none :=
  ((Fr.grown (O := O) h.gr).trans F).new (fun i hi e => absurd (h.lo i e).1 (by omega))
theorem Own.keep {w0 w w' : World} {O : Nat → Prop} {p n x : Nat} {S : St} (h : Own w0 w O p n S) (g : w.grownBy w' (some x)) (hx : ¬ O x) (h0 : w0.heap.size ≤ x) : Own w0 w' O p n S :=
  ⟨h.sat.fr (O' := fun i => i = x) (Fr.at g rfl) (fun i hi e => hx (e ▸ hi)), fun i hi => ⟨(h.lo i hi).1, Nat.lt_of_lt_of_le (h.lo i hi).2 g.size⟩, gbNew (gbTrans (gbAny h.gr _) g) h0, h.good⟩
theorem Box.guard {w : World} {x : Nat} {k o r b g n : Int} (h : Box w x ⟨k, o, r, b, g, n⟩) (g' : Int) : ∃ W, w.setCell ⟨x, 4, none⟩ (.int .u64 g') = W ∧ Box W x ⟨k, o, r, b, g', n⟩ ∧ w.grownBy W (some x) := by
  obtain ⟨a0, a1, a2, a3, a4, a5, lt, fr⟩ := h
  exact ⟨_, rfl, ⟨(World.cell?_setCell_other _ _ _ _ (by simp)).trans a0, (World.cell?_setCell_other _ _ _ _ (by simp)).trans a1, (World.cell?_setCell_other _ _ _ _ (by simp)).trans a2, (World.cell?_setCell_other _ _ _ _ (by simp)).trans a3, World.cell?_setCell_same _ _ _ a4, (World.cell?_setCell_other _ _ _ _ (by simp)).trans a5, by simpa [World.setCell] using lt, fun i => by simpa using fr i⟩, gbSetCell _ _ _ _⟩
theorem Own.past {w0 w : World} {O : Nat → Prop} {p n : Nat} {S : St} (h : Own w0 w O p n S) (x : Nat) (hx : w.heap.size ≤ x) : ¬ O x := fun e => absurd (h.lo x e).2 (by omega)

theorem new_own {w0 w : World} (g : w0.grownBy w none) : Calls Try.prog 19 #[] w fun e w' => ∃ p O, e = .returned (.pointer (some ⟨p, 0, none⟩)) ∧ Own w0 w' O p 0 (fun _ => none) := by
  refine (new_is w).mono ?_
  rintro _ w1 ⟨p, rfl, A, g1⟩
  exact ⟨p, _, rfl, A, fun i hi => ⟨Nat.le_trans g.size hi.1, hi.2⟩, gbTrans g g1, Good.none⟩
theorem add_own {w0 w : World} {O : Nat → Prop} {p n : Nat} {S : St} (h : Own w0 w O p n S) (id r e : Int) (hid : I64 id) (hm : n ≤ 1000) (he : M.addE S id r = e) :
    Calls Try.prog 20 #[.pointer (some ⟨p, 0, none⟩), .int .i64 id, .int .i64 r] w fun x w' => x = .returned (.int .i64 e) ∧ ∃ O', Own w0 w' O' p (n + 1) (M.addS S id r) ∧ Fr O w w' := by
  refine (add_is h.sat h.good id r e hid hm he).mono ?_
  rintro _ w1 ⟨rfl, A, F⟩
  refine ⟨rfl, _, ⟨A, ?_, h.fr F, h.good.add id r⟩, F⟩
  intro i hi
  have h1 := F.size
  have h2 := h.gr.size
  rcases hi with e | ⟨rfl, e⟩
  · have := h.lo i e; omega
  · omega
theorem put_own {w0 w : World} {O : Nat → Prop} {p m : Nat} {S : St} (h : Own w0 w O p m S) (n i k o r b g t e : Int) (hn : I64 n) (hb : 0 ≤ b) (hg : 0 ≤ g) (he : M.putE S n i ⟨k, o, r, b, g, t⟩ = e) :
    Calls Try.prog 21 #[.pointer (some ⟨p, 0, none⟩), sv n i, cv ⟨k, o, r, b, g, t⟩] w fun x w' => x = .returned (.int .i64 e) ∧ Own w0 w' O p m (M.putS S n i ⟨k, o, r, b, g, t⟩) ∧ Fr O w w' := by
  refine (put_is h.sat h.good n i k o r b g t e hn hb hg he).mono ?_
  rintro _ w1 ⟨rfl, A, F⟩
  have h1 := F.size
  exact ⟨rfl, ⟨A, fun i hi => by have := h.lo i hi; omega, h.fr F, h.good.put n i _⟩, F⟩

/-- Two slots' names held against one another. -/
def M.seq (a0 a1 b0 b1 : Int) : Bool := a0 == b0 && a1 == b1
theorem run_equal_slots (w : World) (a0 a1 b0 b1 : Int) : (Op.equalIn 10000 32 (.agg #[.int .i64 a0, .int .i64 a1]) (.agg #[.int .i64 b0, .int .i64 b1])).run Try.prog w = .ok (M.seq a0 a1 b0 b1) w := by
  rw [run_equalIn_agg w 9999 32 _ _ (by kernel_rfl) (by kernel_rfl)]
  simp only [go_sem, Program.fieldsOf, Try.underlying32]
  by_cases h0 : a0 = b0
  · by_cases h1 : a1 = b1
    all_goals simp [M.seq, go_sem, Try.underlying3, h0, h1]
  · simp [M.seq, go_sem, Try.underlying3, h0]
theorem run_eql_slots (w : World) (a0 a1 b0 b1 : Int) : (binOp .eql 32 (.agg #[.int .i64 a0, .int .i64 a1]) (.agg #[.int .i64 b0, .int .i64 b1])).run Try.prog w = .ok (.bool (M.seq a0 a1 b0 b1)) w := by
  rw [run_eql_struct, run_equal_slots]; rfl
theorem M.seq_refl (a b : Int) : M.seq a b a b = true := by simp [M.seq]
theorem eqGuardSlots : Try.prog.eqGuardType Try.prog.depth 32 = false := by kernel_rfl

abbrev W.S0 : St := fun _ => none
abbrev W.S1 : St := M.addS W.S0 1 2
theorem W.e1 : M.addE W.S0 1 2 = 0 := by decide +kernel
theorem W.f1 : M.fd W.S1 ⟨2, 1, 0, 0, 5, 3⟩ 22 5 = (1, 2, 0) := by decide +kernel
theorem W.f2 : M.fd W.S1 ⟨2, 1, 0, 0, 4, 3⟩ 22 5 = (0, 0, 6) := by decide +kernel
theorem W.f3 : M.fd W.S1 ⟨6, 0, 0, 0, 0, 0⟩ 22 5 = (0, 0, 2) := by decide +kernel
theorem W.f4 : M.fd W.S1 ⟨2, 1, 0, 0, 4, 3⟩ 32 5 = (0, 0, 1) := by decide +kernel
theorem W.i0 : I64 0 := by decide
theorem W.i1 : I64 1 := by decide

set_option maxHeartbeats 2000000 in
theorem works_is (w : World) : Calls Try.prog 18 #[] w fun e w' => e = .returned (.bool true) ∧ w.grownBy w' none := by
  have qe := eqGuardSlots
  have qn := run_eql_slots
  go_enter Try.func18, Try.ntmps18
  go_wp2_with fail
  refine (new_own (gbRefl w none)).mono ?_
  rintro _ w1 ⟨p, O, rfl, B1⟩
  have HB1 := hideIt B1
  clear B1
  go_wp2_with fail
  refine (add_own HB1.out 1 2 0 W.i1 (by omega) W.e1).mono ?_
  rintro _ w2 ⟨rfl, O2, B2, _⟩
  have HB2 := hideIt B2
  clear B2 HB1
  go_upto_region 5 with fail
  obtain ⟨W3, hW3, X3, g3⟩ := boxNew w2 ⟨2, 1, 0, 0, 5, 3⟩
  simp only at hW3
  rw [hW3]
  have HB3 := hideIt (HB2.out.kept g3)
  have HX3 := hideIt X3
  have l3 : w2.heap.size < W3.heap.size := X3.lt
  obtain ⟨x0, x1, x2, x3, x4, x5, _, _⟩ := X3
  simp only at x0 x1 x2 x3 x4 x5
  clear hW3
  have HP := hideIt (find_is HB3.out.sat HB3.out.good 22 2 1 0 0 5 3 5 1 2 0 W.i1 (by decide) W.f1)
  go_wp2_with fail
  refine HP.out.mono ?_
  rintro _ w4 ⟨rfl, g4⟩
  clear x0 x1 x2 x3 x4 x5 HP
  go_upto_region 6 with fail
  obtain ⟨W5, hW5, Y5, g5⟩ := sboxNew w4 1 2
  rw [hW5]
  have HB5 := hideIt (HB3.out.kept (gbTrans g4 g5))
  have X5 := HX3.out.kept (gbTrans g4 g5)
  have x4 := X5.at4
  simp only at x4
  have f4 := X5.fr 4
  clear hW5 HB3 HX3
  go_upto_region 7 with fail
  obtain ⟨W6, hW6, X6, g6⟩ := X5.guard 4
  rw [hW6]
  have HY6 := hideIt (Y5.keep g6 (by have := g4.size; omega))
  clear hW6 x4 f4
  have HB6 := hideIt (HB5.out.keep g6 (HB2.out.past _ (Nat.le_refl _)) HB2.out.gr.size)
  have HX6 := hideIt X6
  obtain ⟨x0, x1, x2, x3, x4, x5, _, _⟩ := X6
  simp only at x0 x1 x2 x3 x4 x5
  clear X5 Y5 HB5 HB2
  have HP := hideIt (find_is HB6.out.sat HB6.out.good 22 2 1 0 0 4 3 5 0 0 6 W.i1 (by decide) W.f2)
  go_wp2_with fail
  refine HP.out.mono ?_
  rintro _ w7 ⟨rfl, g7⟩
  clear x0 x1 x2 x3 x4 x5 HP
  go_upto_region 8 with fail
  obtain ⟨W8, hW8, _, g8⟩ := sboxNew w7 0 0
  rw [hW8]
  have HB8 := hideIt (HB6.out.kept (gbTrans g7 g8))
  have HX8 := hideIt (HX6.out.kept (gbTrans g7 g8))
  have HY8 := hideIt (HY6.out.kept (gbTrans g7 g8))
  clear hW8 HB6 HX6 HY6
  have HP := hideIt (find_is HB8.out.sat HB8.out.good 22 6 0 0 0 0 0 5 0 0 2 W.i0 (by decide) W.f3)
  go_wp2_with fail
  refine HP.out.mono ?_
  rintro _ w9 ⟨rfl, g9⟩
  clear HP
  go_upto_region 9 with fail
  obtain ⟨W10, hW10, _, g10⟩ := sboxNew w9 0 0
  rw [hW10]
  have HB10 := hideIt (HB8.out.kept (gbTrans g9 g10))
  have X10 := HX8.out.kept (gbTrans g9 g10)
  have HY10 := hideIt (HY8.out.kept (gbTrans g9 g10))
  clear hW10 HB8 HX8 HY8
  obtain ⟨x0, x1, x2, x3, x4, x5, _, _⟩ := X10
  simp only at x0 x1 x2 x3 x4 x5
  have HP := hideIt (find_is HB10.out.sat HB10.out.good 32 2 1 0 0 4 3 5 0 0 1 W.i1 (by decide) W.f4)
  go_wp2_with fail
  refine HP.out.mono ?_
  rintro _ w11 ⟨rfl, g11⟩
  clear HP x0 x1 x2 x3 x4 x5
  go_upto_region 10 with fail
  obtain ⟨W12, hW12, _, g12⟩ := sboxNew w11 0 0
  rw [hW12]
  have HB12 := hideIt (HB10.out.kept (gbTrans g11 g12))
  obtain ⟨y0, y1, _⟩ := HY10.out.kept (gbTrans g11 g12)
  have he := M.seq_refl 1 2
  clear hW12
  go_wp2
  go_ret
  exact ⟨rfl, HB12.out.gr⟩

end Go.Proofs.Ytakappaaiknpfaa
