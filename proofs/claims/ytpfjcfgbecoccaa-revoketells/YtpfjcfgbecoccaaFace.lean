/-
  THE CONTRACTS of Delete and Revoke: what is refused, and that no steps are left is caught.
-/
import Derived.Test.YtpfjcfgbecoccaaG6
import Derived.Defers
import Derived.Recover
namespace Go.Proofs.Ytpfjcfgbecoccaa
set_option maxRecDepth 10000
open Go.RowKit
set_option linter.unusedVariables false

/-! ### What is caught -/
theorem tmps46 (P1 P2 P3 P4 X : Value) : (#[P1, P2, P3, P4] ++ ((Array.replicate 18 undef).setIfInBounds 3 X).setIfInBounds 0 X) = #[P1, P2, P3, P4, X, undef, undef, X, undef, undef, undef, undef, undef, undef, undef, undef, undef, undef, undef, undef, undef, undef] := by simp [Array.replicate, List.replicate]
set_option maxHeartbeats 1000000 in
theorem catch_idle (P1 P2 P3 P4 : Value) (w : World) :
    CallsD Try.prog 46 #[P1, P2, P3, P4] .returning w fun e u' w' => e = .returned (.tuple #[]) ∧ u' = .returning ∧ w' = w := by
  refine callsD_of_wpS Try.func46 rfl fun c₀ cs hu => ?_
  apply wpS_seq
  apply wpS_region
  simp [wpOpsS, go_sem, recoverD, hu, Try.ntmps46, Exit.thenS]
  rw [tmps46]
  refine wpS_of_wp ?_
  go_wp2
  cases c₀
  simp_all [bodyPostS, results, Try.results46]
set_option maxHeartbeats 1000000 in
theorem catch_more (C1 R1 R2 R3 M1 : Nat) (xo : Option Addr) (vn vc : Nat) (o1 o2 o3 : Value) (w : World) (h1 : w.cell? ⟨C1, 0, none⟩ = some (.pointer (some ⟨M1, 0, none⟩))) (h2 : w.cell? ⟨M1, 2, none⟩ = some (.slice xo vn vc)) (r1 : w.cell? ⟨R1, 0, none⟩ = some o1) (r2 : w.cell? ⟨R2, 0, none⟩ = some o2) (r3 : w.cell? ⟨R3, 0, none⟩ = some o3)
    (z1 : w.frozen? ⟨R1, 0, none⟩ = false) (z2 : w.frozen? ⟨R2, 0, none⟩ = false) (z3 : w.frozen? ⟨R3, 0, none⟩ = false) (n12 : R1 ≠ R2) (n13 : R1 ≠ R3) (n23 : R2 ≠ R3) :
    CallsD Try.prog 46 #[.pointer (some ⟨C1, 0, none⟩), .pointer (some ⟨R1, 0, none⟩), .pointer (some ⟨R2, 0, none⟩), .pointer (some ⟨R3, 0, none⟩)] (.panicking NS) w fun e u' w' =>
      e = .returned (.tuple #[]) ∧ u' = .panicking [{ v := .iface 93 (.agg #[]), recovered := true }] ∧ ∃ W, w.grownBy W none ∧ w' = ((W.setCell ⟨R1, 0, none⟩ (.slice xo vn vc)).setCell ⟨R2, 0, none⟩ (.bool false)).setCell ⟨R3, 0, none⟩ (.int .i64 11) := by
  refine callsD_of_wpS Try.func46 rfl fun c₀ cs hu => ?_
  apply wpS_seq
  apply wpS_region
  simp [wpOpsS, go_sem, recoverD, hu, NS, Try.ntmps46, Exit.thenS]
  rw [tmps46]
  refine wpS_of_wp ?_
  have hta : ∀ w : World, (Instr.typeAssert (Value.iface 93 (.agg #[])) 20 93 true).run Try.prog w = .ok (.tuple #[.agg #[], .bool true]) w := fun w => by kernel_rfl
  have gA := gbAlloc w (.cells #[] 93) none
  have k1 := gA.cell h1 (by simp)
  have k2 := gA.cell h2 (by simp)
  have q1 := gA.cell r1 (by simp)
  have q2 := gA.cell r2 (by simp)
  have q3 := gA.cell r3 (by simp)
  have y1 := (gbFrozen gA (i := 0) (World.block_lt_of_cell? _ _ r1) (by simp)).trans z1
  have y2 := (gbFrozen gA (i := 0) (World.block_lt_of_cell? _ _ r2) (by simp)).trans z2
  have y3 := (gbFrozen gA (i := 0) (World.block_lt_of_cell? _ _ r3) (by simp)).trans z3
  clear h1 h2 r1 r2 r3 z1 z2 z3
  have n21 := Ne.symm n12
  have n31 := Ne.symm n13
  have n32 := Ne.symm n23
  go_wp2
  cases c₀
  simp_all [bodyPostS, results, Try.results46]
  exact ⟨_, gA, rfl⟩
/-! ### The face -/
/-- The cells of the results. -/
structure Res (w : World) (N : Nat) (v : Value) (b : Bool) (e : Int) : Prop where
  c1 : w.cell? ⟨N + 1, 0, none⟩ = some v
  c2 : w.cell? ⟨N + 2, 0, none⟩ = some (.bool b)
  c3 : w.cell? ⟨N + 3, 0, none⟩ = some (.int .i64 e)
  f1 : w.frozen? ⟨N + 1, 0, none⟩ = false
  f2 : w.frozen? ⟨N + 2, 0, none⟩ = false
  f3 : w.frozen? ⟨N + 3, 0, none⟩ = false
  lt : N + 3 < w.heap.size
theorem Res.kept {w w' : World} {N : Nat} {v : Value} {b : Bool} {e : Int} (h : Res w N v b e) (g : w.grownBy w' none) : Res w' N v b e := by
  have hl := h.lt
  exact ⟨g.cell h.c1 (by simp), g.cell h.c2 (by simp), g.cell h.c3 (by simp), (gfroz g _ _ (by omega)).trans h.f1, (gfroz g _ _ (by omega)).trans h.f2, (gfroz g _ _ hl).trans h.f3, Nat.lt_of_lt_of_le hl g.size⟩
theorem Res.fr {O : Nat → Prop} {w w' : World} {N : Nat} {v : Value} {b : Bool} {e : Int} (h : Res w N v b e) (F : Fr O w w') (h1 : ¬ O (N + 1)) (h2 : ¬ O (N + 2)) (h3 : ¬ O (N + 3)) : Res w' N v b e := by
  have hl := h.lt
  exact ⟨F.cell h.c1 h1, F.cell h.c2 h2, F.cell h.c3 h3, (gfrozF F _ _ h1 (by omega)).trans h.f1, (gfrozF F _ _ h2 (by omega)).trans h.f2, (gfrozF F _ _ h3 hl).trans h.f3, Nat.lt_of_lt_of_le hl F.size⟩
theorem faceNew (w : World) (a c : Int) : ∃ W, (((w.alloc (.cells #[.int .i64 a, .int .i64 c] 24)).alloc (.cells #[.slice none 0 0] 40)).alloc (.cells #[.bool false] 4)).alloc (.cells #[.int .i64 0] 37) = W ∧ SBox W w.heap.size a c ∧ Res W w.heap.size (.slice none 0 0) false 0 ∧ w.grownBy W none := by
  have g1 := gbAlloc w (.cells #[.int .i64 a, .int .i64 c] 24) none
  obtain ⟨w1, hw1⟩ : ∃ w1, w.alloc (.cells #[.int .i64 a, .int .i64 c] 24) = w1 := ⟨_, rfl⟩
  have s1 := SBox.made w a c
  rw [hw1] at s1 g1 ⊢
  have z1 : w1.heap.size = w.heap.size + 1 := by rw [← hw1]; exact Deep.nblk_alloc _ _
  obtain ⟨w2, hw2⟩ : ∃ w2, w1.alloc (.cells #[.slice none 0 0] 40) = w2 := ⟨_, rfl⟩
  have g2 := gbAlloc w1 (.cells #[.slice none 0 0] 40) none
  have c2 : (w1.alloc (.cells #[.slice none 0 0] 40)).cell? ⟨w1.heap.size, 0, none⟩ = some (.slice none 0 0) := by simp
  have f2 : (w1.alloc (.cells #[.slice none 0 0] 40)).frozen? ⟨w1.heap.size, 0, none⟩ = false := by simp
  have z2 : (w1.alloc (.cells #[.slice none 0 0] 40)).heap.size = w1.heap.size + 1 := Deep.nblk_alloc _ _
  rw [hw2] at g2 c2 f2 z2 ⊢
  obtain ⟨w3, hw3⟩ : ∃ w3, w2.alloc (.cells #[.bool false] 4) = w3 := ⟨_, rfl⟩
  have g3 := gbAlloc w2 (.cells #[.bool false] 4) none
  have c3 : (w2.alloc (.cells #[.bool false] 4)).cell? ⟨w2.heap.size, 0, none⟩ = some (.bool false) := by simp
  have f3 : (w2.alloc (.cells #[.bool false] 4)).frozen? ⟨w2.heap.size, 0, none⟩ = false := by simp
  have z3 : (w2.alloc (.cells #[.bool false] 4)).heap.size = w2.heap.size + 1 := Deep.nblk_alloc _ _
  rw [hw3] at g3 c3 f3 z3 ⊢
  have g4 := gbAlloc w3 (.cells #[.int .i64 0] 37) none
  have c4 : (w3.alloc (.cells #[.int .i64 0] 37)).cell? ⟨w3.heap.size, 0, none⟩ = some (.int .i64 0) := by simp
  have f4 : (w3.alloc (.cells #[.int .i64 0] 37)).frozen? ⟨w3.heap.size, 0, none⟩ = false := by simp
  have z4 : (w3.alloc (.cells #[.int .i64 0] 37)).heap.size = w3.heap.size + 1 := Deep.nblk_alloc _ _
  have e2 : w2.heap.size = w.heap.size + 2 := by omega
  have e3 : w3.heap.size = w.heap.size + 3 := by omega
  rw [z1] at c2 f2
  rw [e2] at c3 f3
  rw [e3] at c4 f4
  have g34 := gbTrans g3 g4
  have g234 := gbTrans g2 g34
  exact ⟨_, rfl, s1.kept g234, ⟨g34.cell c2 (by simp), g4.cell c3 (by simp), c4, (gfroz g34 _ _ (by omega)).trans f2, (gfroz g4 _ _ (by omega)).trans f3, f4, by omega⟩, gbTrans g1 g234⟩
abbrev gRef (w : World) (p : Nat) (a c l e : Int) : Prop := ∀ W, w.grownBy W none → Calls Try.prog 45 #[.pointer (some ⟨p, 0, none⟩), sv a c, .int .i64 l] W fun x w' => x = .returned (.int .i64 e) ∧ W.grownBy w' none
theorem Res.set {w : World} {N : Nat} {v : Value} {b : Bool} {e : Int} (h : Res w N v b e) (v' : Value) (b' : Bool) (e' : Int) :
    ∃ W, ((w.setCell ⟨N + 1, 0, none⟩ v').setCell ⟨N + 2, 0, none⟩ (.bool b')).setCell ⟨N + 3, 0, none⟩ (.int .i64 e') = W ∧ W.cell? ⟨N + 1, 0, none⟩ = some v' ∧ W.cell? ⟨N + 2, 0, none⟩ = some (.bool b') ∧ W.cell? ⟨N + 3, 0, none⟩ = some (.int .i64 e') ∧ Fr (fun i => i = N + 1 ∨ i = N + 2 ∨ i = N + 3) w W := by
  refine ⟨_, rfl, ?_, ?_, ?_, ?_⟩
  · exact (World.cell?_setCell_other _ _ _ _ (by simp)).trans ((World.cell?_setCell_other _ _ _ _ (by simp)).trans (World.cell?_setCell_same _ _ _ h.c1))
  · exact (World.cell?_setCell_other _ _ _ _ (by simp)).trans (World.cell?_setCell_same _ _ _ ((World.cell?_setCell_other _ _ _ _ (by simp)).trans h.c2))
  · exact World.cell?_setCell_same _ _ _ ((World.cell?_setCell_other _ _ _ _ (by simp)).trans ((World.cell?_setCell_other _ _ _ _ (by simp)).trans h.c3))
  · exact ((Fr.at (gbSetCell _ _ _ _) (.inl rfl)).trans (Fr.at (gbSetCell _ _ _ _) (.inr (.inl rfl)))).trans (Fr.at (gbSetCell _ _ _ _) (.inr (.inr rfl)))

set_option maxHeartbeats 1000000 in
theorem inSteps_no (w : World) (p : Nat) (a c l e : Int) (fv : Value) (HRf : gRef w p a c l e) (he : (e != 0) = true) :
    Calls Try.prog 30 #[.pointer (some ⟨p, 0, none⟩), sv a c, .int .i64 l, fv] w fun x w' => x = .returned (.tuple #[.slice none 0 0, .bool false, .int .i64 e]) ∧ w.grownBy w' none := by
  go_enter_defers Try.func30, Try.ntmps30
  go_upto_region 1 with fail
  obtain ⟨W, hW, ⟨x0, x1, _⟩, HR, g0⟩ := faceNew w a c
  rw [hW]
  clear hW
  have HRs := hideIt HR
  clear HR
  go_wp2_with fail
  refine (HRf W g0).mono ?_
  rintro _ w2 ⟨rfl, g2⟩
  have R2 := HRs.out.kept g2
  have HR2 := hideIt R2
  obtain ⟨c1, c2, c3, f1, f2, f3, _⟩ := R2
  go_wp2
  obtain ⟨W5, hW5, d1, d2, d3, F5⟩ := HR2.out.set (.slice none 0 0) false e
  rw [hW5]
  have hg : w.grownBy W5 none := ((Fr.grown (O := fun i => i = w.heap.size + 1 ∨ i = w.heap.size + 2 ∨ i = w.heap.size + 3) (gbTrans g0 g2)).trans F5).new (fun i hi k => by rcases k with k | k | k <;> omega)
  clear hW5
  exact ⟨_, by simp [results, Try.results30, go_sem, d1, d2, d3], rfl, hg⟩

/-- What a call that takes away begins with. -/
theorem workNew {w0 w : World} {O : Nat → Prop} {p s t m : Nat} {S : St} {f : T9.Fo} (h : Cs w0 w O p s t m S f) (l : Nat) :
    ∃ W, (w.alloc (.cells #[.pointer (some ⟨p, 0, none⟩), .int .i64 (l : Int), .slice none 0 0] 91)).alloc (.cells #[.pointer (some ⟨w.heap.size, 0, none⟩)] 79) = W ∧ Rv w0 W (fun i => O i ∨ i = w.heap.size) p s t m w.heap.size ⟨S, f, l, []⟩ ∧ W.cell? ⟨w.heap.size + 1, 0, none⟩ = some (.pointer (some ⟨w.heap.size, 0, none⟩)) ∧ w.grownBy W none ∧ w.heap.size + 1 < W.heap.size := by
  have g1 := gbAlloc w (.cells #[.pointer (some ⟨p, 0, none⟩), .int .i64 (l : Int), .slice none 0 0] 91) none
  obtain ⟨w1, hw1⟩ : ∃ w1, w.alloc (.cells #[.pointer (some ⟨p, 0, none⟩), .int .i64 (l : Int), .slice none 0 0] 91) = w1 := ⟨_, rfl⟩
  have z1 : w1.heap.size = w.heap.size + 1 := by rw [← hw1]; exact Deep.nblk_alloc _ _
  have b1 : w1.heap[w.heap.size]? = some (.cells #[.pointer (some ⟨p, 0, none⟩), .int .i64 (l : Int), .slice none 0 0] 91) := by rw [← hw1]; exact Deep.blk_alloc_new _ _
  rw [hw1] at g1 ⊢
  have g2 := gbAlloc w1 (.cells #[.pointer (some ⟨w.heap.size, 0, none⟩)] 79) none
  have c2 : (w1.alloc (.cells #[.pointer (some ⟨w.heap.size, 0, none⟩)] 79)).cell? ⟨w1.heap.size, 0, none⟩ = some (.pointer (some ⟨w.heap.size, 0, none⟩)) := by simp
  have z2 : (w1.alloc (.cells #[.pointer (some ⟨w.heap.size, 0, none⟩)] 79)).heap.size = w1.heap.size + 1 := Deep.nblk_alloc _ _
  rw [z1] at c2
  have g12 := gbTrans g1 g2
  have h0 := h.gr.size
  refine ⟨_, rfl, ⟨O, .slice none 0 0, h.kept g12, fun i hi => ⟨.inl hi, fun e => by have := (h.lo i hi).2; omega⟩, TL.nil _ _, (fun k hk => by cases hk), (g2.block _ (by omega) (by simp)).trans b1, .inr rfl, fun i hi => ?_, rfl⟩, c2, g12, by omega⟩
  rcases hi with e | e
  · have := h.lo i e; omega
  · omega

set_option maxHeartbeats 2000000 in
theorem inSteps_del {w0 w : World} {O : Nat → Prop} {p s t m : Nat} {S : St} {f : T9.Fo} (h : Cs w0 w O p s t m S f) (a c : Int) (l A : Nat) (HRf : gRef w p a c l 0) (rq : Bool) (rx : M.X) (HA : Hid (SBox w A a c)) (nA : Hid (¬ O A))
    (HK : Hid (∀ (W : World) (O' : Nat → Prop) (M' : Nat), Rv w0 W O' p s t m M' ⟨S, f, l, []⟩ → SBox W A a c → ¬ O' A → Calls Try.prog 33 #[.pointer (some ⟨M', 0, none⟩), .pointer (some ⟨A, 0, none⟩)] W fun e w' => e = endOf rq ∧ Rv w0 w' (wide O' W w') p s t m M' rx ∧ Fr O' W w')) :
    Calls Try.prog 30 #[.pointer (some ⟨p, 0, none⟩), sv a c, .int .i64 (l : Int), .func (.func 33) #[] #[.pointer (some ⟨A, 0, none⟩)]] w fun x w' => ∃ tv Oc, x = .returned (.tuple #[tv, .bool (!rq), .int .i64 (if rq then 11 else 0)]) ∧ Cs w0 w' Oc p s t m rx.S rx.f ∧ (∀ i, Oc i → O i ∨ w.heap.size ≤ i) ∧ Fr O w w' ∧ TL w' w0.heap.size tv rx.T ∧ (∀ k, tv.ownBlock = some k → ¬ Oc k) := by
  have hmf : ∀ (fn : Fn) (first cap : Array Value) (w : World), (Instr.makeFunc fn first cap).run Try.prog w = .ok (.func fn first cap) w := fun _ _ _ _ => rfl
  have HH := hideIt h
  clear h
  go_enter_defers Try.func30, Try.ntmps30
  go_upto_region 1 with fail
  obtain ⟨W, hW, ⟨x0, x1, _⟩, HR, g0⟩ := faceNew w a c
  rw [hW]
  clear hW
  have HRs := hideIt HR
  clear HR
  go_wp2_with fail
  refine (HRf W g0).mono ?_
  rintro _ w2 ⟨rfl, g2⟩
  have HR2 := hideIt (HRs.out.kept g2)
  have HC2 := hideIt (HH.out.kept (gbTrans g0 g2))
  clear x0 x1 HRs
  go_upto_region 5 with fail
  obtain ⟨W4, hW4, HV, k4, g4, z4⟩ := workNew HC2.out l
  rw [hW4]
  clear hW4
  have HV4 := hideIt HV
  have HR4 := hideIt (HR2.out.kept g4)
  have HA4 := hideIt (HA.out.kept (gbTrans (gbTrans g0 g2) g4))
  have nA4 : Hid (¬ (O A ∨ A = w2.heap.size)) := hideIt (fun e => by
    rcases e with e | e
    · exact nA.out e
    · have := (HA.out.kept (gbTrans g0 g2)).lt; omega)
  have Hk4 := hideIt k4
  have Hz4 := hideIt z4
  clear HV z4
  go_wp2_with fail
  refine (HK.out W4 _ w2.heap.size HV4.out HA4.out nA4.out).mono ?_
  rintro e w5 ⟨he, R5, F5⟩
  have HR5 : Hid (Res w5 w.heap.size (.slice none 0 0) false 0) := hideIt (HR4.out.fr F5 (fun e => ?no1) (fun e => ?no2) (fun e => ?no3))
  case no1 | no2 | no3 =>
    have h1 := HR2.out.lt
    rcases e with e | e
    · have := (HH.out.lo _ e).2; omega
    · omega
  have Hk5 : Hid (w5.cell? ⟨w2.heap.size + 1, 0, none⟩ = some (.pointer (some ⟨w2.heap.size, 0, none⟩))) := hideIt (F5.cell Hk4.out (fun e => by
    rcases e with e | e
    · have := (HC2.out.lo _ e).2
      change w2.heap.size + 1 < w2.heap.size at this
      omega
    · change w2.heap.size + 1 = w2.heap.size at e
      omega))
  obtain ⟨OC5, tv, X5⟩ := R5
  obtain ⟨xo, vn, vc, rfl⟩ : ∃ xo vn vc, tv = .slice xo vn vc := by
    rcases X5.tl.form with ⟨rfl, _⟩ | ⟨g, cap, rfl, _⟩
    · exact ⟨_, _, _, rfl⟩
    · exact ⟨_, _, _, rfl⟩
  have HX5 := hideIt X5
  have HFIN : Hid (∀ W6 w6, w5.grownBy W6 none → Fr (fun i => i = w.heap.size + 1 ∨ i = w.heap.size + 2 ∨ i = w.heap.size + 3) W6 w6 → Cs w0 w6 OC5 p s t m rx.S rx.f ∧ (∀ i, OC5 i → O i ∨ w.heap.size ≤ i) ∧ Fr O w w6 ∧ TL w6 w0.heap.size (.slice xo vn vc) rx.T ∧ (∀ k, Value.ownBlock (.slice xo vn vc) = some k → ¬ OC5 k)) := hideIt (fun W6 w6 g6 F6 => ?fin)
  case fin =>
    have hsz := HR2.out.lt
    have hgs := (gbTrans g0 g2).size
    have hF : Fr O w w5 := (Fr.grown (gbTrans (gbTrans g0 g2) g4)).join F5 (fun i hi e => by
      rcases e with e | e
      · exact e
      · omega)
    have hsub : ∀ i, OC5 i → O i ∨ (w.heap.size ≤ i ∧ i ≠ w.heap.size + 1 ∧ i ≠ w.heap.size + 2 ∧ i ≠ w.heap.size + 3) := fun i hi => by
      rcases (HX5.out.sub i hi).1 with (e | e) | e
      · exact .inl e
      · exact absurd e (HX5.out.sub i hi).2
      · have := (HR4.out.lt); omega
    have hres : ∀ i, OC5 i → ¬ (i = w.heap.size + 1 ∨ i = w.heap.size + 2 ∨ i = w.heap.size + 3) := fun i hi k => by
      rcases hsub i hi with e | e
      · have := (HH.out.lo i e).2; omega
      · omega
    have hC6 := HX5.out.cs.kept g6
    have hC7 : Cs w0 w6 OC5 p s t m rx.S rx.f := by
      obtain ⟨OS, OT, h1, h2, h3, h4, h5⟩ := hC6.ex
      refine ⟨⟨OS, OT, h1.fr F6 (fun i hi => hres i (h4 i hi).1), h2.fr F6 (fun i hi => hres i (h5 i hi).1), h3, h4, h5⟩, (F6.block p hC6.plt (hres p hC6.op)).trans hC6.box, hC6.op, fun i hi => ⟨(hC6.lo i hi).1, Nat.lt_of_lt_of_le (hC6.lo i hi).2 F6.size⟩, ?_, hC6.gs, hC6.gt⟩
      have := HH.out.gr.size
      exact ((Fr.grown (O := fun i => i = w.heap.size + 1 ∨ i = w.heap.size + 2 ∨ i = w.heap.size + 3) hC6.gr).trans F6).new (fun i hi e => by rcases e with e | e | e <;> omega)
    refine ⟨hC7, fun i hi => ?_, ((hF.trans (Fr.grown g6)).join F6 (fun i hi e => by rcases e with e | e | e <;> omega)), (HX5.out.tl.kept g6).fr F6 (fun k hk e => ?_), fun k hk => (HX5.out.tv k hk).2.1⟩
    · rcases hsub i hi with e | e
      · exact .inl e
      · exact .inr e.1
    · rcases (HX5.out.tv k hk).1 with (z | z) | z
      · have := (HH.out.lo k z).2; rcases e with e | e | e <;> omega
      · exact absurd z (HX5.out.tv k hk).2.2
      · have := HR4.out.lt; rcases e with e | e | e <;> omega
  have q1 := HX5.out.c2
  clear X5 F5 k4
  cases rq with
  | true =>
    obtain rfl : e = .panicked NS := he
    dsimp only
    go_wp2
    refine leaves_cons (f := 46) (args := #[.pointer (some ⟨w2.heap.size + 1, 0, none⟩), .pointer (some ⟨w.heap.size + 1, 0, none⟩), .pointer (some ⟨w.heap.size + 2, 0, none⟩), .pointer (some ⟨w.heap.size + 3, 0, none⟩)]) (by simp) (by simp [go_sem]) ?_
    refine (catch_more (w2.heap.size + 1) (w.heap.size + 1) (w.heap.size + 2) (w.heap.size + 3) w2.heap.size xo vn vc _ _ _ w5 Hk5.out q1 HR5.out.c1 HR5.out.c2 HR5.out.c3 HR5.out.f1 HR5.out.f2 HR5.out.f3 (by simp) (by simp) (by simp)).mono ?_
    rintro e u' w6 ⟨rfl, rfl, W6, g6, rfl⟩
    obtain ⟨W7, hW7, d1, d2, d3, F7⟩ := (HR5.out.kept g6).set (.slice xo vn vc) false 11
    rw [hW7]
    have HF := HFIN.out W6 W7 g6 F7
    clear hW7
    simp [Leaves, settle, results, Try.results30, go_sem, d1, d2, d3]
    exact ⟨_, HF⟩
  | false =>
    obtain rfl : e = .returned (.tuple #[]) := he
    have q2 := Hk5.out
    have r1 := HR5.out.c1
    have r2 := HR5.out.c2
    have r3 := HR5.out.c3
    have y1 := HR5.out.f1
    have y2 := HR5.out.f2
    have y3 := HR5.out.f3
    go_wp2
    obtain ⟨W7, hW7, d1, d2, d3, F7⟩ := HR5.out.set (.slice xo vn vc) true 0
    rw [hW7]
    have HF := HFIN.out w5 W7 (gbRefl _ _) F7
    clear hW7
    refine leaves_cons (f := 46) (args := #[.pointer (some ⟨w2.heap.size + 1, 0, none⟩), .pointer (some ⟨w.heap.size + 1, 0, none⟩), .pointer (some ⟨w.heap.size + 2, 0, none⟩), .pointer (some ⟨w.heap.size + 3, 0, none⟩)]) (by simp) (by simp [go_sem]) ?_
    refine (catch_idle _ _ _ _ _).mono ?_
    rintro e u' w6 ⟨rfl, rfl, rfl⟩
    simp [Leaves, settle, results, Try.results30, go_sem, d1, d2, d3]
    exact ⟨_, HF⟩

set_option maxHeartbeats 2000000 in
theorem inSteps_rev {w0 w : World} {O : Nat → Prop} {p s t m : Nat} {S : St} {f : T9.Fo} (h : Cs w0 w O p s t m S f) (a c : Int) (l A : Nat) (HRf : gRef w p a c l 0) (rq : Bool) (rx : M.X) (HA : Hid (SBox w A a c)) (nA : Hid (¬ O A))
    (HK : Hid (∀ (W : World) (O' : Nat → Prop) (M' : Nat), Rv w0 W O' p s t m M' ⟨S, f, l, []⟩ → SBox W A a c → ¬ O' A → Calls Try.prog 31 #[.pointer (some ⟨M', 0, none⟩), .pointer (some ⟨A, 0, none⟩)] W fun e w' => e = endOf rq ∧ Rv w0 w' (wide O' W w') p s t m M' rx ∧ Fr O' W w')) :
    Calls Try.prog 30 #[.pointer (some ⟨p, 0, none⟩), sv a c, .int .i64 (l : Int), .func (.func 31) #[] #[.pointer (some ⟨A, 0, none⟩)]] w fun x w' => ∃ tv Oc, x = .returned (.tuple #[tv, .bool (!rq), .int .i64 (if rq then 11 else 0)]) ∧ Cs w0 w' Oc p s t m rx.S rx.f ∧ (∀ i, Oc i → O i ∨ w.heap.size ≤ i) ∧ Fr O w w' ∧ TL w' w0.heap.size tv rx.T ∧ (∀ k, tv.ownBlock = some k → ¬ Oc k) := by
  have hmf : ∀ (fn : Fn) (first cap : Array Value) (w : World), (Instr.makeFunc fn first cap).run Try.prog w = .ok (.func fn first cap) w := fun _ _ _ _ => rfl
  have HH := hideIt h
  clear h
  go_enter_defers Try.func30, Try.ntmps30
  go_upto_region 1 with fail
  obtain ⟨W, hW, ⟨x0, x1, _⟩, HR, g0⟩ := faceNew w a c
  rw [hW]
  clear hW
  have HRs := hideIt HR
  clear HR
  go_wp2_with fail
  refine (HRf W g0).mono ?_
  rintro _ w2 ⟨rfl, g2⟩
  have HR2 := hideIt (HRs.out.kept g2)
  have HC2 := hideIt (HH.out.kept (gbTrans g0 g2))
  clear x0 x1 HRs
  go_upto_region 5 with fail
  obtain ⟨W4, hW4, HV, k4, g4, z4⟩ := workNew HC2.out l
  rw [hW4]
  clear hW4
  have HV4 := hideIt HV
  have HR4 := hideIt (HR2.out.kept g4)
  have HA4 := hideIt (HA.out.kept (gbTrans (gbTrans g0 g2) g4))
  have nA4 : Hid (¬ (O A ∨ A = w2.heap.size)) := hideIt (fun e => by
    rcases e with e | e
    · exact nA.out e
    · have := (HA.out.kept (gbTrans g0 g2)).lt; omega)
  have Hk4 := hideIt k4
  have Hz4 := hideIt z4
  clear HV z4
  go_wp2_with fail
  refine (HK.out W4 _ w2.heap.size HV4.out HA4.out nA4.out).mono ?_
  rintro e w5 ⟨he, R5, F5⟩
  have HR5 : Hid (Res w5 w.heap.size (.slice none 0 0) false 0) := hideIt (HR4.out.fr F5 (fun e => ?no1) (fun e => ?no2) (fun e => ?no3))
  case no1 | no2 | no3 =>
    have h1 := HR2.out.lt
    rcases e with e | e
    · have := (HH.out.lo _ e).2; omega
    · omega
  have Hk5 : Hid (w5.cell? ⟨w2.heap.size + 1, 0, none⟩ = some (.pointer (some ⟨w2.heap.size, 0, none⟩))) := hideIt (F5.cell Hk4.out (fun e => by
    rcases e with e | e
    · have := (HC2.out.lo _ e).2
      change w2.heap.size + 1 < w2.heap.size at this
      omega
    · change w2.heap.size + 1 = w2.heap.size at e
      omega))
  obtain ⟨OC5, tv, X5⟩ := R5
  obtain ⟨xo, vn, vc, rfl⟩ : ∃ xo vn vc, tv = .slice xo vn vc := by
    rcases X5.tl.form with ⟨rfl, _⟩ | ⟨g, cap, rfl, _⟩
    · exact ⟨_, _, _, rfl⟩
    · exact ⟨_, _, _, rfl⟩
  have HX5 := hideIt X5
  have HFIN : Hid (∀ W6 w6, w5.grownBy W6 none → Fr (fun i => i = w.heap.size + 1 ∨ i = w.heap.size + 2 ∨ i = w.heap.size + 3) W6 w6 → Cs w0 w6 OC5 p s t m rx.S rx.f ∧ (∀ i, OC5 i → O i ∨ w.heap.size ≤ i) ∧ Fr O w w6 ∧ TL w6 w0.heap.size (.slice xo vn vc) rx.T ∧ (∀ k, Value.ownBlock (.slice xo vn vc) = some k → ¬ OC5 k)) := hideIt (fun W6 w6 g6 F6 => ?fin)
  case fin =>
    have hsz := HR2.out.lt
    have hgs := (gbTrans g0 g2).size
    have hF : Fr O w w5 := (Fr.grown (gbTrans (gbTrans g0 g2) g4)).join F5 (fun i hi e => by
      rcases e with e | e
      · exact e
      · omega)
    have hsub : ∀ i, OC5 i → O i ∨ (w.heap.size ≤ i ∧ i ≠ w.heap.size + 1 ∧ i ≠ w.heap.size + 2 ∧ i ≠ w.heap.size + 3) := fun i hi => by
      rcases (HX5.out.sub i hi).1 with (e | e) | e
      · exact .inl e
      · exact absurd e (HX5.out.sub i hi).2
      · have := (HR4.out.lt); omega
    have hres : ∀ i, OC5 i → ¬ (i = w.heap.size + 1 ∨ i = w.heap.size + 2 ∨ i = w.heap.size + 3) := fun i hi k => by
      rcases hsub i hi with e | e
      · have := (HH.out.lo i e).2; omega
      · omega
    have hC6 := HX5.out.cs.kept g6
    have hC7 : Cs w0 w6 OC5 p s t m rx.S rx.f := by
      obtain ⟨OS, OT, h1, h2, h3, h4, h5⟩ := hC6.ex
      refine ⟨⟨OS, OT, h1.fr F6 (fun i hi => hres i (h4 i hi).1), h2.fr F6 (fun i hi => hres i (h5 i hi).1), h3, h4, h5⟩, (F6.block p hC6.plt (hres p hC6.op)).trans hC6.box, hC6.op, fun i hi => ⟨(hC6.lo i hi).1, Nat.lt_of_lt_of_le (hC6.lo i hi).2 F6.size⟩, ?_, hC6.gs, hC6.gt⟩
      have := HH.out.gr.size
      exact ((Fr.grown (O := fun i => i = w.heap.size + 1 ∨ i = w.heap.size + 2 ∨ i = w.heap.size + 3) hC6.gr).trans F6).new (fun i hi e => by rcases e with e | e | e <;> omega)
    refine ⟨hC7, fun i hi => ?_, ((hF.trans (Fr.grown g6)).join F6 (fun i hi e => by rcases e with e | e | e <;> omega)), (HX5.out.tl.kept g6).fr F6 (fun k hk e => ?_), fun k hk => (HX5.out.tv k hk).2.1⟩
    · rcases hsub i hi with e | e
      · exact .inl e
      · exact .inr e.1
    · rcases (HX5.out.tv k hk).1 with (z | z) | z
      · have := (HH.out.lo k z).2; rcases e with e | e | e <;> omega
      · exact absurd z (HX5.out.tv k hk).2.2
      · have := HR4.out.lt; rcases e with e | e | e <;> omega
  have q1 := HX5.out.c2
  clear X5 F5 k4
  cases rq with
  | true =>
    obtain rfl : e = .panicked NS := he
    dsimp only
    go_wp2
    refine leaves_cons (f := 46) (args := #[.pointer (some ⟨w2.heap.size + 1, 0, none⟩), .pointer (some ⟨w.heap.size + 1, 0, none⟩), .pointer (some ⟨w.heap.size + 2, 0, none⟩), .pointer (some ⟨w.heap.size + 3, 0, none⟩)]) (by simp) (by simp [go_sem]) ?_
    refine (catch_more (w2.heap.size + 1) (w.heap.size + 1) (w.heap.size + 2) (w.heap.size + 3) w2.heap.size xo vn vc _ _ _ w5 Hk5.out q1 HR5.out.c1 HR5.out.c2 HR5.out.c3 HR5.out.f1 HR5.out.f2 HR5.out.f3 (by simp) (by simp) (by simp)).mono ?_
    rintro e u' w6 ⟨rfl, rfl, W6, g6, rfl⟩
    obtain ⟨W7, hW7, d1, d2, d3, F7⟩ := (HR5.out.kept g6).set (.slice xo vn vc) false 11
    rw [hW7]
    have HF := HFIN.out W6 W7 g6 F7
    clear hW7
    simp [Leaves, settle, results, Try.results30, go_sem, d1, d2, d3]
    exact ⟨_, HF⟩
  | false =>
    obtain rfl : e = .returned (.tuple #[]) := he
    have q2 := Hk5.out
    have r1 := HR5.out.c1
    have r2 := HR5.out.c2
    have r3 := HR5.out.c3
    have y1 := HR5.out.f1
    have y2 := HR5.out.f2
    have y3 := HR5.out.f3
    go_wp2
    obtain ⟨W7, hW7, d1, d2, d3, F7⟩ := HR5.out.set (.slice xo vn vc) true 0
    rw [hW7]
    have HF := HFIN.out w5 W7 (gbRefl _ _) F7
    clear hW7
    refine leaves_cons (f := 46) (args := #[.pointer (some ⟨w2.heap.size + 1, 0, none⟩), .pointer (some ⟨w.heap.size + 1, 0, none⟩), .pointer (some ⟨w.heap.size + 2, 0, none⟩), .pointer (some ⟨w.heap.size + 3, 0, none⟩)]) (by simp) (by simp [go_sem]) ?_
    refine (catch_idle _ _ _ _ _).mono ?_
    rintro e u' w6 ⟨rfl, rfl, rfl⟩
    simp [Leaves, settle, results, Try.results30, go_sem, d1, d2, d3]
    exact ⟨_, HF⟩

set_option maxHeartbeats 1000000 in
theorem clo_del {w0 W : World} {O' : Nat → Prop} {p s t m M' : Nat} {X : M.X} (R : Rv w0 W O' p s t m M' X) (A : Nat) (a c : Int) (HA : SBox W A a c) (nA : ¬ O' A) (rq : Bool) (rx : M.X) (HC : Calls Try.prog 34 #[.pointer (some ⟨M', 0, none⟩), sv a c, .slice none 0 0] W fun e w' => e = endOf rq ∧ Rv w0 w' (wide O' W w') p s t m M' rx ∧ Fr O' W w') :
    Calls Try.prog 33 #[.pointer (some ⟨M', 0, none⟩), .pointer (some ⟨A, 0, none⟩)] W fun e w' => e = endOf rq ∧ Rv w0 w' (wide O' W w') p s t m M' rx ∧ Fr O' W w' := by
  obtain ⟨x0, x1, _⟩ := HA
  go_enter Try.func33, Try.ntmps33
  go_wp2_with fail
  refine HC.mono ?_
  rintro e w1 ⟨he, H1⟩
  cases rq with
  | true =>
    obtain rfl : e = .panicked NS := he
    dsimp only
    go_wp2
    exact ⟨rfl, rfl, H1⟩
  | false =>
    obtain rfl : e = .returned (.tuple #[]) := he
    go_wp2
    exact bodyPost_end (results_none rfl _ _ _) rfl ⟨rfl, H1⟩

set_option maxHeartbeats 1000000 in
theorem clo_rev {w0 W : World} {O' : Nat → Prop} {p s t m M' : Nat} {X : M.X} (R : Rv w0 W O' p s t m M' X) (A : Nat) (a c : Int) (HA : SBox W A a c) (nA : ¬ O' A) (rq : Bool) (rx : M.X) (HC : Calls Try.prog 32 #[.pointer (some ⟨M', 0, none⟩), sv a c] W fun e w' => e = endOf rq ∧ Rv w0 w' (wide O' W w') p s t m M' rx ∧ Fr O' W w') :
    Calls Try.prog 31 #[.pointer (some ⟨M', 0, none⟩), .pointer (some ⟨A, 0, none⟩)] W fun e w' => e = endOf rq ∧ Rv w0 w' (wide O' W w') p s t m M' rx ∧ Fr O' W w' := by
  obtain ⟨x0, x1, _⟩ := HA
  go_enter Try.func31, Try.ntmps31
  go_wp2_with fail
  refine HC.mono ?_
  rintro e w1 ⟨he, H1⟩
  cases rq with
  | true =>
    obtain rfl : e = .panicked NS := he
    dsimp only
    go_wp2
    exact ⟨rfl, rfl, H1⟩
  | false =>
    obtain rfl : e = .returned (.tuple #[]) := he
    go_wp2
    exact bodyPost_end (results_none rfl _ _ _) rfl ⟨rfl, H1⟩

set_option maxHeartbeats 1000000 in
theorem delete_core (w : World) (p : Nat) (a c l : Int) (R : Ending → World → Prop) (W : World) (hW : w.alloc (.cells #[.int .i64 a, .int .i64 c] 24) = W) (HC : Hid (Calls Try.prog 30 #[.pointer (some ⟨p, 0, none⟩), sv a c, .int .i64 l, .func (.func 33) #[] #[.pointer (some ⟨w.heap.size, 0, none⟩)]] W fun x w' => ∃ tv d e, x = .returned (.tuple #[tv, .bool d, .int .i64 e]) ∧ R x w')) :
    Calls Try.prog 13 #[.pointer (some ⟨p, 0, none⟩), sv a c, .int .i64 l] w R := by
  have hmf : ∀ (fn : Fn) (first cap : Array Value) (w : World), (Instr.makeFunc fn first cap).run Try.prog w = .ok (.func fn first cap) w := fun _ _ _ _ => rfl
  have X := SBox.made w a c
  rw [hW] at X
  obtain ⟨x0, x1, _⟩ := X
  go_enter Try.func13, Try.ntmps13
  go_wp2_with fail
  refine HC.out.mono ?_
  rintro _ w2 ⟨tv, d, e, rfl, h⟩
  go_wp2
  exact bodyPost_ret (v := .tuple #[tv, .bool d, .int .i64 e]) (by simp [results, Try.results13, go_sem]) rfl h

set_option maxHeartbeats 1000000 in
theorem revoke_core (w : World) (p : Nat) (a c l : Int) (R : Ending → World → Prop) (W : World) (hW : w.alloc (.cells #[.int .i64 a, .int .i64 c] 24) = W) (HC : Hid (Calls Try.prog 30 #[.pointer (some ⟨p, 0, none⟩), sv a c, .int .i64 l, .func (.func 31) #[] #[.pointer (some ⟨w.heap.size, 0, none⟩)]] W fun x w' => ∃ tv d e, x = .returned (.tuple #[tv, .bool d, .int .i64 e]) ∧ R x w')) :
    Calls Try.prog 12 #[.pointer (some ⟨p, 0, none⟩), sv a c, .int .i64 l] w R := by
  have hmf : ∀ (fn : Fn) (first cap : Array Value) (w : World), (Instr.makeFunc fn first cap).run Try.prog w = .ok (.func fn first cap) w := fun _ _ _ _ => rfl
  have X := SBox.made w a c
  rw [hW] at X
  obtain ⟨x0, x1, _⟩ := X
  go_enter Try.func12, Try.ntmps12
  go_wp2_with fail
  refine HC.out.mono ?_
  rintro _ w2 ⟨tv, d, e, rfl, h⟩
  go_wp2
  exact bodyPost_ret (v := .tuple #[tv, .bool d, .int .i64 e]) (by simp [results, Try.results12, go_sem]) rfl h

namespace M
/-- What a call that takes away answers. -/
def faceE (S : St) (a : Int × Int) (l : Int) : Int := if 1 ≤ l ∧ l ≤ 1000 then srcE S a else 1
def delR (S : St) (f : T9.Fo) (a : Int × Int) (l : Int) : Bool × X := away f.len ⟨S, f, l.toNat, []⟩ a []
def revR (S : St) (f : T9.Fo) (a : Int × Int) (l : Int) : Bool × X := rvk (f.len + 1) ⟨S, f, l.toNat, []⟩ a
theorem faceE_ok {S : St} {a : Int × Int} {l : Int} (h : faceE S a l = 0) : 1 ≤ l ∧ l ≤ 1000 ∧ (gc S a).k ≠ 0 := by
  unfold faceE at h
  split at h
  · rename_i hl; exact ⟨hl.1, hl.2, (srcE_ok h).2⟩
  · cases h
end M

theorem Cs.delete_no {w0 w : World} {O : Nat → Prop} {p s t m : Nat} {S : St} {f : T9.Fo} (h : Cs w0 w O p s t m S f) (a c l e : Int) (ha : I64 a) (he : M.faceE S (a, c) l = e) (hne : (e != 0) = true) :
    Calls Try.prog 13 #[.pointer (some ⟨p, 0, none⟩), sv a c, .int .i64 l] w fun x w' => x = .returned (.tuple #[.slice none 0 0, .bool false, .int .i64 e]) ∧ w.grownBy w' none := by
  have g := gbAlloc w (.cells #[.int .i64 a, .int .i64 c] 24) none
  refine delete_core w p a c l _ _ rfl (hideIt ((inSteps_no _ p a c l e _ (fun W gW => ((h.kept g).kept gW).refusal a c l e ha he) hne).mono ?_))
  rintro _ w' ⟨rfl, g'⟩
  exact ⟨_, _, _, rfl, rfl, gbTrans g g'⟩
theorem Cs.delete_yes {w0 w : World} {O : Nat → Prop} {p s t m : Nat} {S : St} {f : T9.Fo} (h : Cs w0 w O p s t m S f) (I : M.Inv S f) (a c l : Int) (ha : I64 a) (hc : I64 c) (hm : f.len ≤ 1000) (he : M.faceE S (a, c) l = 0) (rq : Bool) (rx : M.X) (hr : M.delR S f (a, c) l = (rq, rx)) :
    Calls Try.prog 13 #[.pointer (some ⟨p, 0, none⟩), sv a c, .int .i64 l] w fun x w' => ∃ tv Oc, x = .returned (.tuple #[tv, .bool (!rq), .int .i64 (if rq then 11 else 0)]) ∧ Cs w0 w' Oc p s t m rx.S rx.f ∧ (∀ i, Oc i → O i ∨ w.heap.size ≤ i) ∧ Fr O w w' ∧ TL w' w0.heap.size tv rx.T ∧ (∀ k, tv.ownBlock = some k → ¬ Oc k) := by
  have g := gbAlloc w (.cells #[.int .i64 a, .int .i64 c] 24) none
  have hz : (w.alloc (.cells #[.int .i64 a, .int .i64 c] 24)).heap.size = w.heap.size + 1 := Deep.nblk_alloc _ _
  obtain ⟨l1, l2, hf⟩ := M.faceE_ok he
  obtain ⟨L, rfl⟩ : ∃ L : Nat, l = (L : Int) := ⟨l.toNat, by omega⟩
  have hk := h.kept g
  have ok : M.Ok ⟨S, f, L, []⟩ := ⟨I, h.gs, h.gt⟩
  unfold M.delR at hr
  rw [Int.toNat_natCast] at hr
  refine delete_core w p a c L _ _ rfl (hideIt ((inSteps_del hk a c L w.heap.size (fun W gW => (hk.kept gW).refusal a c L 0 ha he) rq rx (hideIt (SBox.made w a c)) (hideIt (fun e => by have := (h.lo _ e).2; omega)) (hideIt (fun W O' M' R hA nA => clo_del R w.heap.size a c hA nA rq rx ?_))).mono ?_))
  · refine (R.away f.len ok a c (.slice none 0 0) [] (Lst.nil _ _) (fun k hk => by cases hk) hf (by simp) (by rw [M.free_nil]; exact Nat.le_refl _) hm (by show 0 + L ≤ 1000; omega) (by simpa using hm) rq rx hr).mono ?_
    rintro e w1 ⟨he, R1, _, F1⟩
    exact ⟨he, R1, F1.mono (fun i _ e => by rcases e with e | e; exact e; cases e)⟩
  · rintro _ w' ⟨tv, Oc, rfl, C, hs, F, T, hn⟩
    exact ⟨_, _, _, rfl, tv, Oc, rfl, C, fun i hi => by rcases hs i hi with e | e; exact .inl e; exact .inr (by omega), (Fr.grown g).trans F, T, hn⟩

theorem Cs.revoke_no {w0 w : World} {O : Nat → Prop} {p s t m : Nat} {S : St} {f : T9.Fo} (h : Cs w0 w O p s t m S f) (a c l e : Int) (ha : I64 a) (he : M.faceE S (a, c) l = e) (hne : (e != 0) = true) :
    Calls Try.prog 12 #[.pointer (some ⟨p, 0, none⟩), sv a c, .int .i64 l] w fun x w' => x = .returned (.tuple #[.slice none 0 0, .bool false, .int .i64 e]) ∧ w.grownBy w' none := by
  have g := gbAlloc w (.cells #[.int .i64 a, .int .i64 c] 24) none
  refine revoke_core w p a c l _ _ rfl (hideIt ((inSteps_no _ p a c l e _ (fun W gW => ((h.kept g).kept gW).refusal a c l e ha he) hne).mono ?_))
  rintro _ w' ⟨rfl, g'⟩
  exact ⟨_, _, _, rfl, rfl, gbTrans g g'⟩
theorem Cs.revoke_yes {w0 w : World} {O : Nat → Prop} {p s t m : Nat} {S : St} {f : T9.Fo} (h : Cs w0 w O p s t m S f) (I : M.Inv S f) (a c l : Int) (ha : I64 a) (hc : I64 c) (hm : f.len ≤ 1000) (he : M.faceE S (a, c) l = 0) (rq : Bool) (rx : M.X) (hr : M.revR S f (a, c) l = (rq, rx)) :
    Calls Try.prog 12 #[.pointer (some ⟨p, 0, none⟩), sv a c, .int .i64 l] w fun x w' => ∃ tv Oc, x = .returned (.tuple #[tv, .bool (!rq), .int .i64 (if rq then 11 else 0)]) ∧ Cs w0 w' Oc p s t m rx.S rx.f ∧ (∀ i, Oc i → O i ∨ w.heap.size ≤ i) ∧ Fr O w w' ∧ TL w' w0.heap.size tv rx.T ∧ (∀ k, tv.ownBlock = some k → ¬ Oc k) := by
  have g := gbAlloc w (.cells #[.int .i64 a, .int .i64 c] 24) none
  have hz : (w.alloc (.cells #[.int .i64 a, .int .i64 c] 24)).heap.size = w.heap.size + 1 := Deep.nblk_alloc _ _
  obtain ⟨l1, l2, hf⟩ := M.faceE_ok he
  obtain ⟨L, rfl⟩ : ∃ L : Nat, l = (L : Int) := ⟨l.toNat, by omega⟩
  have hk := h.kept g
  have ok : M.Ok ⟨S, f, L, []⟩ := ⟨I, h.gs, h.gt⟩
  unfold M.revR at hr
  rw [Int.toNat_natCast] at hr
  refine revoke_core w p a c L _ _ rfl (hideIt ((inSteps_rev hk a c L w.heap.size (fun W gW => (hk.kept gW).refusal a c L 0 ha he) rq rx (hideIt (SBox.made w a c)) (hideIt (fun e => by have := (h.lo _ e).2; omega)) (hideIt (fun W O' M' R hA nA => clo_rev R w.heap.size a c hA nA rq rx ?_))).mono ?_))
  · exact R.kin ok a c ha hc hm (by show 0 + L ≤ 1000; omega) (f.len + 1) (Nat.lt_succ_self _) rq rx hr
  · rintro _ w' ⟨tv, Oc, rfl, C, hs, F, T, hn⟩
    exact ⟨_, _, _, rfl, tv, Oc, rfl, C, fun i hi => by rcases hs i hi with e | e; exact .inl e; exact .inr (by omega), (Fr.grown g).trans F, T, hn⟩
end Go.Proofs.Ytpfjcfgbecoccaa
