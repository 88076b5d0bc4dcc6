/-
  THE CONTRACT of donjonlaw07's works: true.
-/
import Derived.Test.YtjlkinocpkcghaaFull
import Derived.Deep.RegionHeld3
namespace Go.Proofs.Ytjlkinocpkcghaa
open Go.RowKit
set_option linter.unusedVariables false

abbrev Six (w : World) (x : Nat) (c : C) : Prop := w.cell? ⟨x, 0, none⟩ = some (.int .i64 c.k) ∧ w.cell? ⟨x, 1, none⟩ = some (.int .i64 c.o) ∧ w.cell? ⟨x, 2, none⟩ = some (.int .i64 c.r) ∧ w.cell? ⟨x, 3, none⟩ = some (.int .u64 c.b) ∧ w.cell? ⟨x, 4, none⟩ = some (.int .u64 c.g) ∧ w.cell? ⟨x, 5, none⟩ = some (.int .i64 c.n)
theorem Box.tup {w : World} {x : Nat} {c : C} (h : Box w x c) : Six w x c := ⟨h.at0, h.at1, h.at2, h.at3, h.at4, h.at5⟩

abbrev W.c : C := ⟨4, 5, 0, 0, 0, 0⟩
abbrev W.S0 : St := fun _ => none
abbrev W.S1 : St := M.addS W.S0 3 1
abbrev W.S2 : St := M.putS W.S1 3 2 W.c
abbrev W.S3 : St := M.putS W.S2 3 1 W.c
abbrev W.S4 : St := M.putS W.S3 3 1 W.c
abbrev W.S5 : St := M.dropS W.S4 3
abbrev W.S6 : St := M.takeS W.S5 3 1
abbrev W.S7 : St := M.dropS W.S6 3
theorem W.G1 : Good W.S1 := Good.none.add 3 1
theorem W.G2 : Good W.S2 := W.G1.put 3 2 W.c
theorem W.G3 : Good W.S3 := W.G2.put 3 1 W.c
theorem W.G4 : Good W.S4 := W.G3.put 3 1 W.c
theorem W.G5 : Good W.S5 := W.G4.drop 3
theorem W.G6 : Good W.S6 := W.G5.take 3 1
theorem W.G7 : Good W.S7 := W.G6.drop 3
theorem W.e1 : M.addE W.S0 3 1 = 0 := by decide +kernel
theorem W.e2 : M.putE W.S1 3 2 W.c = 6 := by decide +kernel
theorem W.e3 : M.putE W.S2 3 1 W.c = 0 := by decide +kernel
theorem W.e4 : M.putE W.S3 3 1 W.c = 4 := by decide +kernel
theorem W.e5 : M.dropE W.S4 3 = 8 := by decide +kernel
theorem W.e6 : M.takeE W.S5 3 1 = 0 := by decide +kernel
theorem W.c6 : M.takeC W.S5 3 1 = W.c := M.eq_iff.1 (by decide +kernel)
theorem W.e7 : M.dropE W.S6 3 = 0 := by decide +kernel
theorem W.e8 : M.rad W.S7 3 = 0 := by decide +kernel
theorem W.e9 : (M.full W.S7).length = 0 := by decide +kernel
theorem W.i3 : I64 3 := by decide

set_option maxRecDepth 10000 in
set_option maxHeartbeats 2000000 in
theorem works_any (w : World) : Calls Try.prog 24 #[] w fun e w' => e = .returned (.bool true) ∧ w.grownBy w' none := by
  have qe := eqGuardCap
  have qn := run_eql_cap
  go_enter Try.func24, Try.ntmps24
  go_wp2_with fail
  refine (new_is _).mono ?_
  rintro _ w1 ⟨p, rfl, A0, g0⟩
  obtain ⟨O, hO⟩ : ∃ O : Nat → Prop, O = fun i => w.heap.size ≤ i ∧ i < w1.heap.size := ⟨_, rfl⟩
  rw [← hO] at A0
  have HO1 : Hid (∀ i, O i → w.heap.size ≤ i ∧ i < w1.heap.size) := hideIt (by rw [hO]; exact fun _ h => h)
  clear hO
  have HA0 := hideIt A0
  clear A0
  go_upto_region 5 with fail
  obtain ⟨W1, hW1, X1, g1⟩ := boxNew w1 W.c
  simp only at hW1
  rw [hW1]
  clear hW1
  have X1d := X1.kept (gbDrewN W1 1 none)
  have A1d := HA0.out.kept (gbTrans g1 (gbDrewN W1 1 none))
  have hx : Hid (¬ O w1.heap.size) := hideIt (fun e => Nat.lt_irrefl _ (HO1.out _ e).2)
  have hx2 : Hid (∀ N, w1.heap.size < W1.heap.size → ¬ O w1.heap.size → ¬ (O w1.heap.size ∨ (w1.heap.size = W1.heap.size ∧ w1.heap.size < N))) := hideIt (fun N h1 h2 e => by rcases e with e | ⟨e, _⟩; exact h2 e; omega)
  have hx3 : Hid (w1.heap.size < W1.heap.size) := hideIt X1.lt
  have HX1 := hideIt X1d
  have HA1 := hideIt A1d
  have x1 := X1.tup
  clear X1d A1d X1
  go_region_held3 (fun w' => w'.cell? ⟨w1.heap.size, 0, none⟩ = some (.int .i64 4) ∧ w'.cell? ⟨w1.heap.size, 1, none⟩ = some (.int .i64 5) ∧ w'.cell? ⟨w1.heap.size, 2, none⟩ = some (.int .i64 0) ∧ w'.cell? ⟨w1.heap.size, 3, none⟩ = some (.int .u64 0) ∧ w'.cell? ⟨w1.heap.size, 4, none⟩ = some (.int .u64 0) ∧ w'.cell? ⟨w1.heap.size, 5, none⟩ = some (.int .i64 0))
    (first | exact x1 | go_keep | exact HX2.out.tup | exact HX3.out.tup | exact HX4.out.tup | exact HX5.out.tup | exact HX6.out.tup | fail)
    ((first | (go_at_call 7; refine (add_is HA1.out Good.none 3 1 0 W.i3 (by omega) W.e1).mono ?_; rintro _ w2 ⟨rfl, A2, F2⟩; have HX2 : Hid (Box w2 w1.heap.size W.c) := hideIt (F2.box HX1.out hx.out); have HF2 : Hid (Fr O W1 w2) := hideIt ((Fr.grown (gbDrewN W1 1 none)).trans F2); have HS2 : Hid (W1.heap.size ≤ w2.heap.size) := hideIt F2.size; have HA2 : Hid (SAt w2 p 1 (fun i => O i ∨ (i = W1.heap.size ∧ i < w2.heap.size)) W.S1) := hideIt A2; clear A2 F2) | (go_at_call 11; refine (put_is HA4.out W.G3 3 1 4 5 0 0 0 0 4 W.i3 (by decide) (by decide) W.e4).mono ?_; rintro _ w5 ⟨rfl, A5, F5⟩; have HX5 : Hid (Box w5 w1.heap.size W.c) := hideIt (F5.box HX4.out (hx2.out _ HX1.out.lt hx.out)); have HF5 : Hid (Fr (fun i => O i ∨ (i = W1.heap.size ∧ i < w2.heap.size)) w2 w5) := hideIt (HF4.out.trans F5); have HA5 : Hid (SAt w5 p 1 (fun i => O i ∨ (i = W1.heap.size ∧ i < w2.heap.size)) W.S4) := hideIt A5; clear A5 F5) | (go_at_call 11; refine (put_is HA3.out W.G2 3 1 4 5 0 0 0 0 0 W.i3 (by decide) (by decide) W.e3).mono ?_; rintro _ w4 ⟨rfl, A4, F4⟩; have HX4 : Hid (Box w4 w1.heap.size W.c) := hideIt (F4.box HX3.out (hx2.out _ HX1.out.lt hx.out)); have HF4 : Hid (Fr (fun i => O i ∨ (i = W1.heap.size ∧ i < w2.heap.size)) w2 w4) := hideIt (HF3.out.trans F4); have HA4 : Hid (SAt w4 p 1 (fun i => O i ∨ (i = W1.heap.size ∧ i < w2.heap.size)) W.S3) := hideIt A4; clear A4 F4) | (go_at_call 11; refine (put_is HA2.out W.G1 3 2 4 5 0 0 0 0 6 W.i3 (by decide) (by decide) W.e2).mono ?_; rintro _ w3 ⟨rfl, A3, F3⟩; have HX3 : Hid (Box w3 w1.heap.size W.c) := hideIt (F3.box HX2.out (hx2.out _ HX1.out.lt hx.out)); have HF3 : Hid (Fr (fun i => O i ∨ (i = W1.heap.size ∧ i < w2.heap.size)) w2 w3) := hideIt (F3); have HA3 : Hid (SAt w3 p 1 (fun i => O i ∨ (i = W1.heap.size ∧ i < w2.heap.size)) W.S2) := hideIt A3; clear A3 F3) | (go_at_call 9; refine (drop_is HA5.out W.G4 3 8 W.i3 W.e5).mono ?_; rintro _ w6 ⟨rfl, A6, F6⟩; have HX6 : Hid (Box w6 w1.heap.size W.c) := hideIt (F6.box HX5.out (hx2.out _ HX1.out.lt hx.out)); have HF6 : Hid (Fr (fun i => O i ∨ (i = W1.heap.size ∧ i < w2.heap.size)) w2 w6) := hideIt (HF5.out.trans F6); have HA6 : Hid (SAt w6 p 1 (fun i => O i ∨ (i = W1.heap.size ∧ i < w2.heap.size)) W.S5) := hideIt A6; clear A6 F6) | fail))
  rename_i hold
  clear hold x1 HX1 HA1 HA0 HX2 HX3 HX4 HX5 HA2 HA3 HA4 HA5 HF3 HF4 HF5
  obtain ⟨O2, hO2⟩ : ∃ O2 : Nat → Prop, O2 = fun i => O i ∨ (i = W1.heap.size ∧ i < w2.heap.size) := ⟨_, rfl⟩
  have HO2 : Hid (∀ i, O2 i → w.heap.size ≤ i ∧ i < w2.heap.size ∧ i ≠ w1.heap.size) := hideIt (by
    intro i hi
    rw [hO2] at hi
    have h1 := g0.size
    have h2 := g1.size
    have h3 := HS2.out
    rcases hi with e | ⟨rfl, e⟩
    · have := HO1.out i e; refine ⟨this.1, by omega, by omega⟩
    · refine ⟨by omega, e, ?_⟩
      intro e2
      have := hx3.out
      omega)
  have HA6' : Hid (SAt w6 p 1 O2 W.S5) := hideIt (by rw [hO2]; exact HA6.out)
  have HF6' : Hid (Fr O2 w2 w6) := hideIt (by rw [hO2]; exact HF6.out)
  clear HA6 HF6 hO2 hx2
  go_wp2_with fail
  refine (take_is HA6'.out W.G5 3 1 4 5 0 0 0 0 0 W.i3 W.c6 W.e6).mono ?_
  rintro _ w7 ⟨rfl, A7, F7⟩
  have HA7 := hideIt A7
  have HF7 := hideIt F7
  clear A7 F7
  go_upto_region 7 with fail
  obtain ⟨W7, hW7, Y7, g7⟩ := boxNew w7 W.c
  simp only at hW7
  rw [hW7]
  clear hW7
  have X7 := (HF7.out.box HX6.out (fun e => (HO2.out _ e).2.2 rfl)).kept g7
  have A7 := hideIt (HA7.out.kept g7)
  obtain ⟨a0, a1, a2, a3, a4, a5, _, _⟩ := id X7
  obtain ⟨b0, b1, b2, b3, b4, b5, _, _⟩ := id Y7
  have he : M.eq ⟨4, 5, 0, 0, 0, 0⟩ ⟨4, 5, 0, 0, 0, 0⟩ = true := M.eq_refl _
  clear X7 Y7
  go_wp2_with fail
  refine (drop_is A7.out W.G6 3 0 W.i3 W.e7).mono ?_
  rintro _ w8 ⟨rfl, A8, F8⟩
  have HA8 := hideIt A8
  have HF8 := hideIt F8
  clear A8 F8 a0 a1 a2 a3 a4 a5 b0 b1 b2 b3 b4 b5
  go_wp2_with fail
  refine (radix_is HA8.out 3 0 W.i3 W.e8).mono ?_
  rintro _ w9 ⟨rfl, g9⟩
  go_wp2_with fail
  refine (full_is (HA8.out.kept g9)).mono ?_
  rintro _ w10 ⟨v, rfl, hL, g10⟩
  have hv : ∃ x cap, v = .slice x 0 cap := by
    rcases hL.form with ⟨rfl, _⟩ | ⟨g, cap, rfl, _⟩
    · exact ⟨_, _, rfl⟩
    · rw [W.e9]; exact ⟨_, _, rfl⟩
  obtain ⟨x, cap, rfl⟩ := hv
  clear hL
  go_wp2
  go_ret
  have F : Fr O2 w2 w10 := HF6'.out.trans (HF7.out.trans ((Fr.grown g7).trans (HF8.out.trans (Fr.grown (gbTrans g9 g10)))))
  refine ⟨rfl, ?_⟩
  have F0 : Fr O W1 w2 := HF2.out
  have F1 : Fr O w w2 := (Fr.grown (gbTrans g0 g1)).trans F0
  exact (F1.join (O' := O2) F (fun i hi e => absurd (HO2.out i e).1 (by omega))).new (fun i hi e => absurd (HO1.out i e).1 (by omega))

end Go.Proofs.Ytjlkinocpkcghaa
