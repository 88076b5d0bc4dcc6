/-
  THE DOCUMENT'S SIDE (donjonref07): Get, Put, Take.
-/
import Derived.Test.YtdnoidnpiaadaaaGreatG6
import Derived.Deep.RegionHeld3
namespace Go.Proofs.YtdnoidnpiaadaaaGreat
open Go.RowKit
set_option linter.unusedVariables false
set_option maxRecDepth 10000
variable {u : Value}

abbrev gIs (w : World) (p : Nat) (n i : Int) (b : Bool) : Prop := ∀ W, w.grownBy W none → Calls Tryz.prog 99 #[.pointer (some ⟨p, 0, none⟩), sv n i] W fun e w' => e = .returned (.bool b) ∧ W.grownBy w' none
abbrev gAt (w : World) (p : Nat) (n j : Int) : Prop := ∀ W, w.grownBy W none → Calls Tryz.prog 57 #[.pointer (some ⟨p, 0, none⟩), .int .i64 n] W fun e w' => e = .returned (.int .i64 j) ∧ W.grownBy w' none

set_option maxHeartbeats 1000000 in
theorem rget_no (w : World) (p : Nat) (n i : Int) (HI : gIs w p n i false) :
    Calls Tryz.prog 52 #[.pointer (some ⟨p, 0, none⟩), sv n i] w fun e w' => e = .returned (.tuple #[cv C.zero, .int .i64 6]) ∧ w.grownBy w' none := by
  go_enter Tryz.func52, Tryz.ntmps52
  go_upto_region 1 with fail
  obtain ⟨W, hW, X, Y, g0⟩ := slotZero w n i
  rw [hW]
  clear hW
  have x0 := X.at0
  have x1 := X.at1
  go_wp2_with fail
  refine (HI _ g0).mono ?_
  rintro _ w1 ⟨rfl, g1⟩
  have Y1 := Y.kept g1
  obtain ⟨y0, y1, y2, y3, y4, y5, yl, yf⟩ := id Y1
  have f0 := yf 0
  have f1 := yf 1
  have f2 := yf 2
  have f3 := yf 3
  have f4 := yf 4
  have f5 := yf 5
  clear x0 x1
  go_wp2
  obtain ⟨W2, hW2, Y2, g2⟩ := Y1.put C.zero
  simp only at hW2
  rw [hW2]
  clear hW2 y0 y1 y2 y3 y4 y5 f0 f1 f2 f3 f4 f5
  obtain ⟨y0, y1, y2, y3, y4, y5, _, _⟩ := Y2
  exact bodyPost_ret (v := .tuple #[cv C.zero, .int .i64 6]) (by simp [results, Tryz.results52, go_sem, y0, y1, y2, y3, y4, y5]) rfl ⟨rfl, gbNew (gbTrans (gbAny (gbTrans g0 g1) _) g2) (Nat.le_succ _)⟩

/-- What Get, Put and Take read of a store. -/
structure Rd (w : World) (p g m cap j h q x : Nat) (n : Int) (a : Nat) (c : C) : Prop where
  hc : w.cell? ⟨p, 0, none⟩ = some (.slice (some ⟨g, 0, none⟩) m cap)
  hl : w.cell? ⟨g, j * 3 + 2, none⟩ = some (.slice (some ⟨h, 0, none⟩) q q)
  x0 : w.cell? ⟨x, 0, none⟩ = some (.int .i64 n)
  x1 : w.cell? ⟨x, 1, none⟩ = some (.int .i64 a)
  z0 : w.cell? ⟨h, a * 6, none⟩ = some (.int .i64 c.k)
  z1 : w.cell? ⟨h, a * 6 + 1, none⟩ = some (.int .i64 c.o)
  z2 : w.cell? ⟨h, a * 6 + 2, none⟩ = some (.int .i64 c.r)
  z3 : w.cell? ⟨h, a * 6 + 3, none⟩ = some (.int .u64 c.b)
  z4 : w.cell? ⟨h, a * 6 + 4, none⟩ = some (.int .u64 c.g)
  z5 : w.cell? ⟨h, a * 6 + 5, none⟩ = some (.int .i64 c.n)
theorem Rd.keep {w w' : World} {p g m cap j h q x : Nat} {n : Int} {a : Nat} {c : C} {y : Option Nat} (R : Rd w p g m cap j h q x n a c) (k : w.grownBy w' y) (hp : some p ≠ y) (hg : some g ≠ y) (hx : some x ≠ y) (hh : some h ≠ y) : Rd w' p g m cap j h q x n a c :=
  ⟨k.cell R.hc hp, k.cell R.hl hg, k.cell R.x0 hx, k.cell R.x1 hx, k.cell R.z0 hh, k.cell R.z1 hh, k.cell R.z2 hh, k.cell R.z3 hh, k.cell R.z4 hh, k.cell R.z5 hh⟩
theorem Rd.kept {w w' : World} {p g m cap j h q x : Nat} {n : Int} {a : Nat} {c : C} (R : Rd w p g m cap j h q x n a c) (k : w.grownBy w' none) : Rd w' p g m cap j h q x n a c := R.keep k (by simp) (by simp) (by simp) (by simp)
theorem Rd.tup {w : World} {p g m cap j h q x : Nat} {n : Int} {a : Nat} {c : C} (R : Rd w p g m cap j h q x n a c) : w.cell? ⟨p, 0, none⟩ = some (.slice (some ⟨g, 0, none⟩) m cap) ∧ w.cell? ⟨g, j * 3 + 2, none⟩ = some (.slice (some ⟨h, 0, none⟩) q q) ∧ w.cell? ⟨x, 0, none⟩ = some (.int .i64 n) ∧ w.cell? ⟨x, 1, none⟩ = some (.int .i64 a) ∧ w.cell? ⟨h, a * 6, none⟩ = some (.int .i64 c.k) ∧ w.cell? ⟨h, a * 6 + 1, none⟩ = some (.int .i64 c.o) ∧ w.cell? ⟨h, a * 6 + 2, none⟩ = some (.int .i64 c.r) ∧ w.cell? ⟨h, a * 6 + 3, none⟩ = some (.int .u64 c.b) ∧ w.cell? ⟨h, a * 6 + 4, none⟩ = some (.int .u64 c.g) ∧ w.cell? ⟨h, a * 6 + 5, none⟩ = some (.int .i64 c.n) :=
  ⟨R.hc, R.hl, R.x0, R.x1, R.z0, R.z1, R.z2, R.z3, R.z4, R.z5⟩
theorem Rd.mk' {w W : World} {p g m cap j h q x : Nat} {n : Int} {a : Nat} {c : C} (hc : w.cell? ⟨p, 0, none⟩ = some (.slice (some ⟨g, 0, none⟩) m cap)) (hl : w.cell? ⟨g, j * 3 + 2, none⟩ = some (.slice (some ⟨h, 0, none⟩) q q)) (Z : Cell6 w h (a * 6) c) (g0 : w.grownBy W none) (X : SBox W x n a) : Rd W p g m cap j h q x n a c :=
  have K := Z.kept g0
  ⟨g0.cell hc (by simp), g0.cell hl (by simp), X.at0, X.at1, K.at0, K.at1, K.at2, K.at3, K.at4, K.at5⟩

set_option maxHeartbeats 1000000 in
theorem rget_yes (w : World) (p g m cap j h q a : Nat) (n k o r b gg t : Int) (hj : (j : Int) < (m : Int)) (hq : (a : Int) < (q : Int)) (hc : w.cell? ⟨p, 0, none⟩ = some (.slice (some ⟨g, 0, none⟩) m cap)) (hl : w.cell? ⟨g, j * 3 + 2, none⟩ = some (.slice (some ⟨h, 0, none⟩) q q)) (Z : Cell6 w h (a * 6) ⟨k, o, r, b, gg, t⟩)
    (HI : gIs w p n a true) (HA : gAt w p n j) :
    Calls Tryz.prog 52 #[.pointer (some ⟨p, 0, none⟩), sv n a] w fun e w' => e = .returned (.tuple #[cv ⟨k, o, r, b, gg, t⟩, .int .i64 0]) ∧ w.grownBy w' none := by
  have hpw : Hid (p < w.heap.size) := hideIt (World.block_lt_of_cell? w _ hc)
  have hgw : Hid (g < w.heap.size) := hideIt (World.block_lt_of_cell? w _ hl)
  have hhw : Hid (h < w.heap.size) := hideIt (World.block_lt_of_cell? w _ Z.at0)
  go_enter Tryz.func52, Tryz.ntmps52
  go_upto_region 1 with fail
  obtain ⟨W, hW, X, Y, g0⟩ := slotZero w n a
  rw [hW]
  clear hW
  have x0 := X.at0
  have x1 := X.at1
  go_wp2_with fail
  refine (HI _ g0).mono ?_
  rintro _ w1 ⟨rfl, g1⟩
  clear x0 x1
  have G1 := gbTrans g0 g1
  have R0 := hideIt (Rd.mk' hc hl Z G1 (X.kept g1))
  have R1 := R0.out.tup
  simp only at R1
  have HY := hideIt (Y.kept g1)
  have R2 := hideIt (R0.out.kept (gbDrewN w1 1 none))
  clear Y X Z hc hl
  go_wp2
  go_region_held3 (fun w' => w'.cell? ⟨p, 0, none⟩ = some (.slice (some ⟨g, 0, none⟩) m cap) ∧ w'.cell? ⟨g, j * 3 + 2, none⟩ = some (.slice (some ⟨h, 0, none⟩) q q) ∧ w'.cell? ⟨w.heap.size, 0, none⟩ = some (.int .i64 n) ∧ w'.cell? ⟨w.heap.size, 1, none⟩ = some (.int .i64 a) ∧ w'.cell? ⟨h, a * 6, none⟩ = some (.int .i64 k) ∧ w'.cell? ⟨h, a * 6 + 1, none⟩ = some (.int .i64 o) ∧ w'.cell? ⟨h, a * 6 + 2, none⟩ = some (.int .i64 r) ∧ w'.cell? ⟨h, a * 6 + 3, none⟩ = some (.int .u64 b) ∧ w'.cell? ⟨h, a * 6 + 4, none⟩ = some (.int .u64 gg) ∧ w'.cell? ⟨h, a * 6 + 5, none⟩ = some (.int .i64 t))
    (first | with_reducible exact K3 | exact R1 | with_reducible exact R3 | fail)
    ((go_at_call 57; refine (HA _ (gbTrans G1 (gbDrewN w1 1 none))).mono ?_; rintro _ w2 ⟨rfl, g2⟩; have HY2 := hideIt ((HY.out.kept (gbDrewN w1 1 none)).kept g2); have R4 := R2.out.kept g2; have R3 := R4.tup; simp only at R3; obtain ⟨y0, y1, y2, y3, y4, y5, yl, yf⟩ := HY2.out; have f0 := yf 0; have f1 := yf 1; have f2 := yf 2; have f3 := yf 3; have f4 := yf 4; have f5 := yf 5; obtain ⟨W3, hW3, Y3, g3⟩ := HY2.out.put ⟨k, o, r, b, gg, t⟩; have K3 := (R4.keep g3 (by have := hpw.out; simp; omega) (by have := hgw.out; simp; omega) (by simp) (by have := hhw.out; simp; omega)).tup; rw [← hW3] at K3; simp only at K3; have HW3 := hideIt hW3; have HY3 := hideIt Y3; have HG3 := hideIt g3; clear R4 yf hW3 Y3 g3))
  rename_i hold
  have hW3 := HW3.out
  go_wp2
  rw [hW3]
  clear hold y0 y1 y2 y3 y4 y5 f0 f1 f2 f3 f4 f5 hW3 K3 R3
  obtain ⟨y0, y1, y2, y3, y4, y5, _, _⟩ := HY3.out
  exact bodyPost_ret (v := .tuple #[cv ⟨k, o, r, b, gg, t⟩, .int .i64 0]) (by simp [results, Tryz.results52, go_sem, y0, y1, y2, y3, y4, y5]) rfl ⟨rfl, gbNew (gbTrans (gbAny (gbTrans G1 (gbTrans (gbDrewN w1 1 none) g2)) _) HG3.out) (Nat.le_succ _)⟩

/-! ### Put -/
set_option maxHeartbeats 400000 in
theorem rput_no (w : World) (p : Nat) (n a k o r b gg t : Int) (HI : gIs w p n a false) :
    Calls Tryz.prog 78 #[.pointer (some ⟨p, 0, none⟩), sv n a, cv ⟨k, o, r, b, gg, t⟩] w fun e w' => e = .returned (.int .i64 6) ∧ w.grownBy w' none := by
  go_enter Tryz.func78, Tryz.ntmps78
  go_upto_region 1 with fail
  obtain ⟨W, hW, X, Y, g0⟩ := twoNew w n a ⟨k, o, r, b, gg, t⟩
  simp only at hW
  rw [hW]
  clear hW
  have x0 := X.at0
  have x1 := X.at1
  go_wp2_with fail
  refine (HI _ g0).mono ?_
  rintro _ w1 ⟨rfl, g1⟩
  go_wp2
  go_ret
  exact ⟨rfl, gbTrans g0 g1⟩

set_option maxHeartbeats 400000 in
theorem rput_chk (w : World) (p : Nat) (n a k o r b gg t v j : Int) (hv : (v != 0) = true) (HI : gIs w p n a true) (HC : ∀ w, Calls Tryz.prog 110 #[cv ⟨k, o, r, b, gg, t⟩] w fun e w' => e = .returned (.int .i64 v) ∧ w.grownBy w' none) (HA : gAt w p n j) :
    Calls Tryz.prog 78 #[.pointer (some ⟨p, 0, none⟩), sv n a, cv ⟨k, o, r, b, gg, t⟩] w fun e w' => e = .returned (.int .i64 v) ∧ w.grownBy w' none := by
  go_enter Tryz.func78, Tryz.ntmps78
  go_upto_region 1 with fail
  obtain ⟨W, hW, X, Y, g0⟩ := twoNew w n a ⟨k, o, r, b, gg, t⟩
  simp only at hW
  rw [hW]
  clear hW
  have x0 := X.at0
  have x1 := X.at1
  go_wp2_with fail
  refine (HI _ g0).mono ?_
  rintro _ w1 ⟨rfl, g1⟩
  obtain ⟨y0, y1, y2, y3, y4, y5, _, _⟩ := Y.kept g1
  clear x0 x1
  go_wp2_with fail
  refine (HC _).mono ?_
  rintro _ w2 ⟨rfl, g2⟩
  clear y0 y1 y2 y3 y4 y5
  have G2 := gbTrans g0 (gbTrans g1 g2)
  have x0 := (X.kept (gbTrans g1 g2)).at0
  go_wp2_with fail
  refine (HA _ G2).mono ?_
  rintro _ w3 ⟨rfl, g3⟩
  have G3 := gbTrans G2 g3
  have X3 := X.kept (gbTrans g1 (gbTrans g2 g3))
  have Y3 := Y.kept (gbTrans g1 (gbTrans g2 g3))
  clear x0
  go_wp2
  go_ret
  exact ⟨rfl, G3⟩

set_option maxHeartbeats 400000 in
theorem rput_null (w : World) (p : Nat) (n a k o r b gg t j : Int) (hk : (k == 0) = true) (HI : gIs w p n a true) (HC : ∀ w, Calls Tryz.prog 110 #[cv ⟨k, o, r, b, gg, t⟩] w fun e w' => e = .returned (.int .i64 0) ∧ w.grownBy w' none) (HA : gAt w p n j) :
    Calls Tryz.prog 78 #[.pointer (some ⟨p, 0, none⟩), sv n a, cv ⟨k, o, r, b, gg, t⟩] w fun e w' => e = .returned (.int .i64 3) ∧ w.grownBy w' none := by
  go_enter Tryz.func78, Tryz.ntmps78
  go_upto_region 1 with fail
  obtain ⟨W, hW, X, Y, g0⟩ := twoNew w n a ⟨k, o, r, b, gg, t⟩
  simp only at hW
  rw [hW]
  clear hW
  have x0 := X.at0
  have x1 := X.at1
  go_wp2_with fail
  refine (HI _ g0).mono ?_
  rintro _ w1 ⟨rfl, g1⟩
  obtain ⟨y0, y1, y2, y3, y4, y5, _, _⟩ := Y.kept g1
  clear x0 x1
  go_wp2_with fail
  refine (HC _).mono ?_
  rintro _ w2 ⟨rfl, g2⟩
  clear y0 y1 y2 y3 y4 y5
  have G2 := gbTrans g0 (gbTrans g1 g2)
  have x0 := (X.kept (gbTrans g1 g2)).at0
  go_wp2_with fail
  refine (HA _ G2).mono ?_
  rintro _ w3 ⟨rfl, g3⟩
  have G3 := gbTrans G2 g3
  have X3 := X.kept (gbTrans g1 (gbTrans g2 g3))
  have Y3 := Y.kept (gbTrans g1 (gbTrans g2 g3))
  clear x0
  have y0 := Y3.at0
  go_wp2
  go_ret
  exact ⟨rfl, G3⟩

set_option maxHeartbeats 1000000 in
theorem rput_twice (w : World) (p g m cap j h q a : Nat) (n k o r b gg t k' o' r' b' gg' t' : Int) (hk : (k == 0) = false) (hk' : (k' != 0) = true) (hj : (j : Int) < (m : Int)) (hq : (a : Int) < (q : Int)) (hc : w.cell? ⟨p, 0, none⟩ = some (.slice (some ⟨g, 0, none⟩) m cap)) (hl : w.cell? ⟨g, j * 3 + 2, none⟩ = some (.slice (some ⟨h, 0, none⟩) q q)) (Z : Cell6 w h (a * 6) ⟨k', o', r', b', gg', t'⟩) (HI : gIs w p n a true) (HC : ∀ w, Calls Tryz.prog 110 #[cv ⟨k, o, r, b, gg, t⟩] w fun e w' => e = .returned (.int .i64 0) ∧ w.grownBy w' none) (HA : gAt w p n j) :
    Calls Tryz.prog 78 #[.pointer (some ⟨p, 0, none⟩), sv n a, cv ⟨k, o, r, b, gg, t⟩] w fun e w' => e = .returned (.int .i64 4) ∧ w.grownBy w' none := by
  go_enter Tryz.func78, Tryz.ntmps78
  go_upto_region 1 with fail
  obtain ⟨W, hW, X, Y, g0⟩ := twoNew w n a ⟨k, o, r, b, gg, t⟩
  simp only at hW
  rw [hW]
  clear hW
  have x0 := X.at0
  have x1 := X.at1
  go_wp2_with fail
  refine (HI _ g0).mono ?_
  rintro _ w1 ⟨rfl, g1⟩
  obtain ⟨y0, y1, y2, y3, y4, y5, _, _⟩ := Y.kept g1
  clear x0 x1
  go_wp2_with fail
  refine (HC _).mono ?_
  rintro _ w2 ⟨rfl, g2⟩
  clear y0 y1 y2 y3 y4 y5
  have G2 := gbTrans g0 (gbTrans g1 g2)
  have x0 := (X.kept (gbTrans g1 g2)).at0
  go_wp2_with fail
  refine (HA _ G2).mono ?_
  rintro _ w3 ⟨rfl, g3⟩
  have G3 := gbTrans G2 g3
  have X3 := X.kept (gbTrans g1 (gbTrans g2 g3))
  have Y3 := Y.kept (gbTrans g1 (gbTrans g2 g3))
  clear x0
  have y0 := Y3.at0
  go_wp2
  have R3 := Rd.mk' hc hl Z G3 X3
  have c0 : ∀ y : Gr w3, y.w.cell? ⟨p, 0, none⟩ = some (.slice (some ⟨g, 0, none⟩) m cap) := fun y => (R3.kept y.g).hc
  have c1 : ∀ y : Gr w3, y.w.cell? ⟨g, j * 3 + 2, none⟩ = some (.slice (some ⟨h, 0, none⟩) q q) := fun y => (R3.kept y.g).hl
  have c2 : ∀ y : Gr w3, y.w.cell? ⟨w.heap.size, 1, none⟩ = some (.int .i64 a) := fun y => (R3.kept y.g).x1
  have c3 : ∀ y : Gr w3, y.w.cell? ⟨h, a * 6, none⟩ = some (.int .i64 k') := fun y => (R3.kept y.g).z0
  refine wp_region_grown (by kernel_rfl) (by kernel_rfl) fun _ => ?_
  repeat (go_big_quiet_step (fail))
  refine wpQuiet_nil ?_
  rintro w4 ⟨⟨_, g4⟩, rfl⟩
  clear c0 c1 c2 c3 y0
  go_wp2
  go_ret
  exact ⟨rfl, gbTrans G3 g4⟩

/-- Six cells were written, and new blocks at most behind that. -/
def Wrote (w w' : World) (h a : Nat) (c : C) : Prop := ∃ W W', w.grownBy W none ∧ Put6 W W' h a c ∧ ∃ y, W'.grownBy w' y ∧ ∀ k, y = some k → w.heap.size ≤ k

set_option maxHeartbeats 1000000 in
theorem rput_yes (w : World) (p g m cap j h q a : Nat) (n k o r b gg t k' o' r' b' gg' t' : Int) (hk : (k == 0) = false) (hk' : (k' != 0) = false) (hph : p ≠ h) (hgh : g ≠ h) (hj : (j : Int) < (m : Int)) (hq : (a : Int) < (q : Int)) (hc : w.cell? ⟨p, 0, none⟩ = some (.slice (some ⟨g, 0, none⟩) m cap)) (hl : w.cell? ⟨g, j * 3 + 2, none⟩ = some (.slice (some ⟨h, 0, none⟩) q q)) (Z : Cell6 w h (a * 6) ⟨k', o', r', b', gg', t'⟩) (HI : gIs w p n a true) (HC : ∀ w, Calls Tryz.prog 110 #[cv ⟨k, o, r, b, gg, t⟩] w fun e w' => e = .returned (.int .i64 0) ∧ w.grownBy w' none) (HA : gAt w p n j) :
    Calls Tryz.prog 78 #[.pointer (some ⟨p, 0, none⟩), sv n a, cv ⟨k, o, r, b, gg, t⟩] w fun e w' => e = .returned (.int .i64 0) ∧ Wrote w w' h (a * 6) ⟨k, o, r, b, gg, t⟩ := by
  have hhw : Hid (h < w.heap.size) := hideIt (World.block_lt_of_cell? w _ Z.at0)
  have hph := hideIt hph
  have hgh := hideIt hgh
  go_enter Tryz.func78, Tryz.ntmps78
  go_upto_region 1 with fail
  obtain ⟨W, hW, X, Y, g0⟩ := twoNew w n a ⟨k, o, r, b, gg, t⟩
  simp only at hW
  rw [hW]
  clear hW
  have x0 := X.at0
  have x1 := X.at1
  go_wp2_with fail
  refine (HI _ g0).mono ?_
  rintro _ w1 ⟨rfl, g1⟩
  obtain ⟨y0, y1, y2, y3, y4, y5, _, _⟩ := Y.kept g1
  clear x0 x1
  go_wp2_with fail
  refine (HC _).mono ?_
  rintro _ w2 ⟨rfl, g2⟩
  clear y0 y1 y2 y3 y4 y5
  have G2 := gbTrans g0 (gbTrans g1 g2)
  have x0 := (X.kept (gbTrans g1 g2)).at0
  go_wp2_with fail
  refine (HA _ G2).mono ?_
  rintro _ w3 ⟨rfl, g3⟩
  have G3 := gbTrans G2 g3
  have X3 := X.kept (gbTrans g1 (gbTrans g2 g3))
  have Y3 := Y.kept (gbTrans g1 (gbTrans g2 g3))
  clear x0
  have y0 := Y3.at0
  go_wp2
  have R3 := Rd.mk' hc hl Z G3 X3
  have c0 : ∀ y : Gr w3, y.w.cell? ⟨p, 0, none⟩ = some (.slice (some ⟨g, 0, none⟩) m cap) := fun y => (R3.kept y.g).hc
  have c1 : ∀ y : Gr w3, y.w.cell? ⟨g, j * 3 + 2, none⟩ = some (.slice (some ⟨h, 0, none⟩) q q) := fun y => (R3.kept y.g).hl
  have c2 : ∀ y : Gr w3, y.w.cell? ⟨w.heap.size, 1, none⟩ = some (.int .i64 a) := fun y => (R3.kept y.g).x1
  have c3 : ∀ y : Gr w3, y.w.cell? ⟨h, a * 6, none⟩ = some (.int .i64 k') := fun y => (R3.kept y.g).z0
  refine wp_region_grown (by kernel_rfl) (by kernel_rfl) fun _ => ?_
  repeat (go_big_quiet_step (fail))
  refine wpQuiet_nil ?_
  rintro w4 ⟨⟨_, g4⟩, rfl⟩
  clear c0 c1 c2 c3 y0
  have G4 := gbTrans G3 g4
  have R4 := R3.kept g4
  have Y4 := Y3.kept g4
  have S4 := R4.tup
  simp only at S4
  obtain ⟨y0, y1, y2, y3, y4, y5, _, _⟩ := Y4
  simp only at y0 y1 y2 y3 y4 y5
  have zf := (Z.kept G4).fr
  have f0 := zf (a * 6)
  have f1 := zf (a * 6 + 1)
  have f2 := zf (a * 6 + 2)
  have f3 := zf (a * 6 + 3)
  have f4 := zf (a * 6 + 4)
  have f5 := zf (a * 6 + 5)
  obtain ⟨s0, s1, s2, s3, s4, s5, s6, s7, s8, s9⟩ := id S4
  obtain ⟨W5, hP5, g5⟩ := Put6.mk w4 h (a * 6) ⟨k, o, r, b, gg, t⟩
  have K5 : W5.drew.cell? ⟨p, 0, none⟩ = some (.slice (some ⟨g, 0, none⟩) m cap) ∧ W5.drew.cell? ⟨g, j * 3 + 2, none⟩ = some (.slice (some ⟨h, 0, none⟩) q q) ∧ W5.drew.cell? ⟨w.heap.size, 1, none⟩ = some (.int .i64 a) ∧ W5.drew.cell? ⟨w.heap.size + 1, 0, none⟩ = some (.int .i64 k) ∧ W5.drew.cell? ⟨w.heap.size + 1, 1, none⟩ = some (.int .i64 o) ∧ W5.drew.cell? ⟨w.heap.size + 1, 2, none⟩ = some (.int .i64 r) ∧ W5.drew.cell? ⟨w.heap.size + 1, 3, none⟩ = some (.int .u64 b) ∧ W5.drew.cell? ⟨w.heap.size + 1, 4, none⟩ = some (.int .u64 gg) ∧ W5.drew.cell? ⟨w.heap.size + 1, 5, none⟩ = some (.int .i64 t) := by
    have e1 := hhw.out
    have e2 := hph.out
    have e3 := hgh.out
    exact ⟨g5.cell s0 (by simp; omega), g5.cell s1 (by simp; omega), g5.cell s3 (by simp; omega), g5.cell y0 (by simp; omega), g5.cell y1 (by simp; omega), g5.cell y2 (by simp; omega), g5.cell y3 (by simp; omega), g5.cell y4 (by simp; omega), g5.cell y5 (by simp; omega)⟩
  have hW5 := hP5
  unfold Put6 at hW5
  rw [← hW5] at K5
  simp only at K5
  have HP5 := hideIt hP5
  have HW5 := hideIt hW5
  have D4 : w4.drew.cell? ⟨p, 0, none⟩ = some (.slice (some ⟨g, 0, none⟩) m cap) ∧ w4.drew.cell? ⟨g, j * 3 + 2, none⟩ = some (.slice (some ⟨h, 0, none⟩) q q) ∧ w4.drew.cell? ⟨w.heap.size, 1, none⟩ = some (.int .i64 a) ∧ w4.drew.cell? ⟨w.heap.size + 1, 0, none⟩ = some (.int .i64 k) ∧ w4.drew.cell? ⟨w.heap.size + 1, 1, none⟩ = some (.int .i64 o) ∧ w4.drew.cell? ⟨w.heap.size + 1, 2, none⟩ = some (.int .i64 r) ∧ w4.drew.cell? ⟨w.heap.size + 1, 3, none⟩ = some (.int .u64 b) ∧ w4.drew.cell? ⟨w.heap.size + 1, 4, none⟩ = some (.int .u64 gg) ∧ w4.drew.cell? ⟨w.heap.size + 1, 5, none⟩ = some (.int .i64 t) := ⟨s0, s1, s3, y0, y1, y2, y3, y4, y5⟩
  have HK5 := hideIt K5
  have HD4 := hideIt D4
  clear zf R3 X3 Y3 R4 hP5 hW5 K5 D4 S4
  go_wp2
  go_region_held3 (fun w' => w'.cell? ⟨p, 0, none⟩ = some (.slice (some ⟨g, 0, none⟩) m cap) ∧ w'.cell? ⟨g, j * 3 + 2, none⟩ = some (.slice (some ⟨h, 0, none⟩) q q) ∧ w'.cell? ⟨w.heap.size, 1, none⟩ = some (.int .i64 a) ∧ w'.cell? ⟨w.heap.size + 1, 0, none⟩ = some (.int .i64 k) ∧ w'.cell? ⟨w.heap.size + 1, 1, none⟩ = some (.int .i64 o) ∧ w'.cell? ⟨w.heap.size + 1, 2, none⟩ = some (.int .i64 r) ∧ w'.cell? ⟨w.heap.size + 1, 3, none⟩ = some (.int .u64 b) ∧ w'.cell? ⟨w.heap.size + 1, 4, none⟩ = some (.int .u64 gg) ∧ w'.cell? ⟨w.heap.size + 1, 5, none⟩ = some (.int .i64 t))
    (first | with_reducible exact HK5.out | with_reducible exact HD4.out | with_reducible exact ⟨s0, s1, s3, y0, y1, y2, y3, y4, y5⟩ | fail)
    (fail)
  rename_i hold
  clear hold
  have hW5 := HW5.out
  rw [hW5]
  clear hW5
  go_wp2
  go_ret
  exact ⟨rfl, w4, W5, G4, HP5.out, none, gbDrewN W5 1 none, by simp⟩

end Go.Proofs.YtdnoidnpiaadaaaGreat

/-
  THE DOCUMENT'S SIDE (donjonref07): Take; Get, Put and Take in the chapter's words.
-/
namespace Go.Proofs.YtdnoidnpiaadaaaGreat
open Go.RowKit
set_option linter.unusedVariables false
set_option maxRecDepth 10000
variable {u : Value}

abbrev rsGet (w : World) (p : Nat) (n i : Int) (c : C) (e : Int) : Prop := ∀ W, w.grownBy W none → Calls Tryz.prog 52 #[.pointer (some ⟨p, 0, none⟩), sv n i] W fun x w' => x = .returned (.tuple #[cv c, .int .i64 e]) ∧ W.grownBy w' none

set_option maxHeartbeats 1000000 in
theorem rtake_no (w : World) (p : Nat) (n a k o r b gg t e : Int) (he : (e != 0) = true) (HG : rsGet w p n a ⟨k, o, r, b, gg, t⟩ e) :
    Calls Tryz.prog 93 #[.pointer (some ⟨p, 0, none⟩), sv n a] w fun x w' => x = .returned (.tuple #[cv ⟨k, o, r, b, gg, t⟩, .int .i64 e]) ∧ w.grownBy w' none := by
  go_enter Tryz.func93, Tryz.ntmps93
  go_upto_region 1 with fail
  obtain ⟨W, hW, X, Y, g0⟩ := slotZero w n a
  rw [hW]
  clear hW
  have x0 := X.at0
  have x1 := X.at1
  go_wp2_with fail
  refine (HG _ g0).mono ?_
  rintro _ w1 ⟨rfl, g1⟩
  clear x0 x1
  go_upto_region 2 with fail
  obtain ⟨W1, hW1, V, g2⟩ := boxNew w1 ⟨k, o, r, b, gg, t⟩
  simp only at hW1
  rw [hW1]
  clear hW1
  have G2 := gbTrans g0 (gbTrans g1 g2)
  have Y2 := Y.kept (gbTrans g1 g2)
  obtain ⟨v0, v1, v2, v3, v4, v5, _, _⟩ := id V
  simp only at v0 v1 v2 v3 v4 v5
  obtain ⟨y0, y1, y2, y3, y4, y5, yl, yf⟩ := id Y2
  have f0 := yf 0
  have f1 := yf 1
  have f2 := yf 2
  have f3 := yf 3
  have f4 := yf 4
  have f5 := yf 5
  go_wp2
  obtain ⟨W3, hW3, Y3, g3⟩ := Y2.put ⟨k, o, r, b, gg, t⟩
  simp only at hW3
  rw [hW3]
  clear hW3 y0 y1 y2 y3 y4 y5 f0 f1 f2 f3 f4 f5
  obtain ⟨y0, y1, y2, y3, y4, y5, _, _⟩ := Y3
  exact bodyPost_ret (v := .tuple #[cv ⟨k, o, r, b, gg, t⟩, .int .i64 e]) (by simp [results, Tryz.results93, go_sem, y0, y1, y2, y3, y4, y5]) rfl ⟨rfl, gbNew (gbTrans (gbAny G2 _) g3) (Nat.le_succ _)⟩

set_option maxHeartbeats 1000000 in
theorem rtake_null (w : World) (p : Nat) (n a k o r b gg t : Int) (hk : (k == 0) = true) (HG : rsGet w p n a ⟨k, o, r, b, gg, t⟩ 0) :
    Calls Tryz.prog 93 #[.pointer (some ⟨p, 0, none⟩), sv n a] w fun x w' => x = .returned (.tuple #[cv ⟨k, o, r, b, gg, t⟩, .int .i64 3]) ∧ w.grownBy w' none := by
  go_enter Tryz.func93, Tryz.ntmps93
  go_upto_region 1 with fail
  obtain ⟨W, hW, X, Y, g0⟩ := slotZero w n a
  rw [hW]
  clear hW
  have x0 := X.at0
  have x1 := X.at1
  go_wp2_with fail
  refine (HG _ g0).mono ?_
  rintro _ w1 ⟨rfl, g1⟩
  clear x0 x1
  go_upto_region 2 with fail
  obtain ⟨W1, hW1, V, g2⟩ := boxNew w1 ⟨k, o, r, b, gg, t⟩
  simp only at hW1
  rw [hW1]
  clear hW1
  have G2 := gbTrans g0 (gbTrans g1 g2)
  have Y2 := Y.kept (gbTrans g1 g2)
  obtain ⟨v0, v1, v2, v3, v4, v5, _, _⟩ := id V
  simp only at v0 v1 v2 v3 v4 v5
  obtain ⟨y0, y1, y2, y3, y4, y5, yl, yf⟩ := id Y2
  have f0 := yf 0
  have f1 := yf 1
  have f2 := yf 2
  have f3 := yf 3
  have f4 := yf 4
  have f5 := yf 5
  go_wp2
  obtain ⟨W3, hW3, Y3, g3⟩ := Y2.put ⟨k, o, r, b, gg, t⟩
  simp only at hW3
  rw [hW3]
  clear hW3 y0 y1 y2 y3 y4 y5 f0 f1 f2 f3 f4 f5
  obtain ⟨y0, y1, y2, y3, y4, y5, _, _⟩ := Y3
  exact bodyPost_ret (v := .tuple #[cv ⟨k, o, r, b, gg, t⟩, .int .i64 3]) (by simp [results, Tryz.results93, go_sem, y0, y1, y2, y3, y4, y5]) rfl ⟨rfl, gbNew (gbTrans (gbAny G2 _) g3) (Nat.le_succ _)⟩

set_option maxHeartbeats 1000000 in
theorem rtake_yes (w : World) (p g m cap j h q a : Nat) (n k o r b gg t : Int) (hk : (k == 0) = false) (hph : p ≠ h) (hgh : g ≠ h) (hj : (j : Int) < (m : Int)) (hq : (a : Int) < (q : Int)) (hc : w.cell? ⟨p, 0, none⟩ = some (.slice (some ⟨g, 0, none⟩) m cap)) (hl : w.cell? ⟨g, j * 3 + 2, none⟩ = some (.slice (some ⟨h, 0, none⟩) q q)) (Z : Cell6 w h (a * 6) ⟨k, o, r, b, gg, t⟩)
    (HG : rsGet w p n a ⟨k, o, r, b, gg, t⟩ 0) (HA : gAt w p n j) :
    Calls Tryz.prog 93 #[.pointer (some ⟨p, 0, none⟩), sv n a] w fun x w' => x = .returned (.tuple #[cv ⟨k, o, r, b, gg, t⟩, .int .i64 0]) ∧ Wrote w w' h (a * 6) C.zero := by
  have hhw : Hid (h < w.heap.size) := hideIt (World.block_lt_of_cell? w _ Z.at0)
  have hph := hideIt hph
  have hgh := hideIt hgh
  go_enter Tryz.func93, Tryz.ntmps93
  go_upto_region 1 with fail
  obtain ⟨W, hW, X, Y, g0⟩ := slotZero w n a
  rw [hW]
  clear hW
  have x0 := X.at0
  have x1 := X.at1
  go_wp2_with fail
  refine (HG _ g0).mono ?_
  rintro _ w1 ⟨rfl, g1⟩
  clear x0 x1
  go_upto_region 2 with fail
  obtain ⟨W1, hW1, V, g2⟩ := boxNew w1 ⟨k, o, r, b, gg, t⟩
  simp only at hW1
  rw [hW1]
  clear hW1
  have G2 := gbTrans g0 (gbTrans g1 g2)
  have R1 := Rd.mk' hc hl Z G2 (X.kept (gbTrans g1 g2))
  have HR := hideIt (R1.kept (gbDrewN W1 1 none))
  obtain ⟨s0, s1, s2, s3, _, _, _, _, _, _⟩ := R1.tup
  have D1 : W1.drew.cell? ⟨p, 0, none⟩ = some (.slice (some ⟨g, 0, none⟩) m cap) ∧ W1.drew.cell? ⟨g, j * 3 + 2, none⟩ = some (.slice (some ⟨h, 0, none⟩) q q) ∧ W1.drew.cell? ⟨w.heap.size, 0, none⟩ = some (.int .i64 n) ∧ W1.drew.cell? ⟨w.heap.size, 1, none⟩ = some (.int .i64 a) := ⟨s0, s1, s2, s3⟩
  have HD1 := hideIt D1
  have HZ := hideIt ((Z.kept G2).kept (gbDrewN W1 1 none))
  have v0 := V.at0
  simp only at v0
  clear D1 R1
  go_wp2
  go_region_held3 (fun w' => w'.cell? ⟨p, 0, none⟩ = some (.slice (some ⟨g, 0, none⟩) m cap) ∧ w'.cell? ⟨g, j * 3 + 2, none⟩ = some (.slice (some ⟨h, 0, none⟩) q q) ∧ w'.cell? ⟨w.heap.size, 0, none⟩ = some (.int .i64 n) ∧ w'.cell? ⟨w.heap.size, 1, none⟩ = some (.int .i64 a))
    (first | with_reducible exact ⟨s0, s1, s2, s3⟩ | with_reducible exact HD1.out | with_reducible exact K4 | with_reducible exact K5 | fail)
    ((go_at_call 57; refine (HA _ (gbTrans G2 (gbDrewN W1 1 none))).mono ?_; rintro _ w4 ⟨rfl, g4⟩; have R4 := HR.out.kept g4; have K4 : w4.cell? ⟨p, 0, none⟩ = some (.slice (some ⟨g, 0, none⟩) m cap) ∧ w4.cell? ⟨g, j * 3 + 2, none⟩ = some (.slice (some ⟨h, 0, none⟩) q q) ∧ w4.cell? ⟨w.heap.size, 0, none⟩ = some (.int .i64 n) ∧ w4.cell? ⟨w.heap.size, 1, none⟩ = some (.int .i64 a) := ⟨R4.hc, R4.hl, R4.x0, R4.x1⟩; obtain ⟨z0, z1, z2, z3, z4, z5, zf⟩ := HZ.out.kept g4; have f0 := zf (a * 6); have f1 := zf (a * 6 + 1); have f2 := zf (a * 6 + 2); have f3 := zf (a * 6 + 3); have f4 := zf (a * 6 + 4); have f5 := zf (a * 6 + 5); obtain ⟨W5, hP5, g5⟩ := Put6.mk w4 h (a * 6) C.zero; have K5 : W5.cell? ⟨p, 0, none⟩ = some (.slice (some ⟨g, 0, none⟩) m cap) ∧ W5.cell? ⟨g, j * 3 + 2, none⟩ = some (.slice (some ⟨h, 0, none⟩) q q) ∧ W5.cell? ⟨w.heap.size, 0, none⟩ = some (.int .i64 n) ∧ W5.cell? ⟨w.heap.size, 1, none⟩ = some (.int .i64 a) := ⟨g5.cell R4.hc (by have := hph.out; simp; omega), g5.cell R4.hl (by have := hgh.out; simp; omega), g5.cell R4.x0 (by have := hhw.out; simp; omega), g5.cell R4.x1 (by have := hhw.out; simp; omega)⟩; have hW5 := hP5; unfold Put6 at hW5; rw [← hW5] at K5; simp only at K5; have HW5 := hideIt hW5; have HP5 := hideIt hP5; have HG5 := hideIt g5; clear R4 zf hW5 hP5 g5))
  rename_i hold
  clear hold z0 z1 z2 z3 z4 z5 f0 f1 f2 f3 f4 f5 K4 K5 s0 s1 s2 s3 v0
  have hW5 := HW5.out
  rw [hW5]
  clear hW5
  have G4 := gbTrans G2 (gbTrans (gbDrewN W1 1 none) g4)
  have hhW : some w.heap.size ≠ some h := by have := hhw.out; simp; omega
  have V5 := (V.kept (gbTrans (gbDrewN W1 1 none) g4)).keep HG5.out (by have := hhw.out; have := gbTrans g0 g1; have := this.size; simp; omega)
  have Y5 := (Y.kept (gbTrans g1 (gbTrans g2 (gbTrans (gbDrewN W1 1 none) g4)))).keep HG5.out (by have := hhw.out; simp; omega)
  obtain ⟨v0, v1, v2, v3, v4, v5, _, _⟩ := id V5
  simp only at v0 v1 v2 v3 v4 v5
  obtain ⟨y0, y1, y2, y3, y4, y5, yl, yf⟩ := id Y5
  have f0 := yf 0
  have f1 := yf 1
  have f2 := yf 2
  have f3 := yf 3
  have f4 := yf 4
  have f5 := yf 5
  go_wp2
  obtain ⟨W6, hW6, Y6, g6⟩ := Y5.put ⟨k, o, r, b, gg, t⟩
  simp only at hW6
  rw [hW6]
  clear hW6 y0 y1 y2 y3 y4 y5 f0 f1 f2 f3 f4 f5
  obtain ⟨y0, y1, y2, y3, y4, y5, _, _⟩ := Y6
  exact bodyPost_ret (v := .tuple #[cv ⟨k, o, r, b, gg, t⟩, .int .i64 0]) (by simp [results, Tryz.results93, go_sem, y0, y1, y2, y3, y4, y5]) rfl ⟨rfl, w4, W5, G4, HP5.out, some (w.heap.size + 1), g6, by rintro k ⟨⟩; omega⟩

/-! ### In the chapter's words -/
theorem gAt_of {w : World} {p : Nat} {v : Value} {l : List RE} {S : St} (h : RA u w p v l S) (G : Good S) {j : Nat} {e : RE} (hj : l[j]? = some e) : gAt w p e.id j :=
  fun W g => (at_some (h.kept g) G hj).mono fun _ _ k => ⟨k.1, by rw [k.2]; exact gbRefl _ _⟩

theorem rget_ra {w : World} {p : Nat} {v : Value} {l : List RE} {S : St} (h : RA u w p v l S) (G : Good S) (n i k o r b g t e : Int) (hc : M.getC S n i = ⟨k, o, r, b, g, t⟩) (he : M.getE S n i = e) :
    Calls Tryz.prog 52 #[.pointer (some ⟨p, 0, none⟩), sv n i] w fun x w' => x = .returned (.tuple #[cv ⟨k, o, r, b, g, t⟩, .int .i64 e]) ∧ w.grownBy w' none := by
  subst he
  cases ht : M.there S n i
  · rw [M.getC_no ht] at hc
    have : M.getE S n i = 6 := by unfold M.getE; rw [ht]; rfl
    rw [this, ← hc]
    exact rget_no w p n i (fun W g => is_is (h.kept g) G n i false ht)
  · obtain ⟨d, a, hs, rfl, ha⟩ := M.there_yes ht
    obtain ⟨j, x, hj, rfl, hr, N⟩ := h.has hs
    have : M.getE S x.id a = 0 := by unfold M.getE; rw [ht]; rfl
    rw [this]
    rw [M.getC_at hs ha] at hc
    have Z := N.six a ha
    rw [hc] at Z
    obtain ⟨gg, m, cap, rfl, rfl, A⟩ := h.at hj
    have h2 := A.l
    unfold rev at h2
    exact rget_yes w p gg _ cap j x.h (2 ^ x.r) a x.id k o r b g t (by have := A.lt; omega) (by rw [← hr]; omega) A.cell h2 Z (fun W g => is_is (h.kept g) G x.id a true ht) (gAt_of h G hj)
theorem rget_is {w : World} {p : Nat} {O : Nat → Prop} {S : St} (h : RAt u w p O S) (G : Good S) (n i k o r b g t e : Int) (hc : M.getC S n i = ⟨k, o, r, b, g, t⟩) (he : M.getE S n i = e) :
    Calls Tryz.prog 52 #[.pointer (some ⟨p, 0, none⟩), sv n i] w fun x w' => x = .returned (.tuple #[cv ⟨k, o, r, b, g, t⟩, .int .i64 e]) ∧ w.grownBy w' none := by
  obtain ⟨v, l, h, _⟩ := h
  exact rget_ra h G n i k o r b g t e hc he

/-- What was written is a slot of the store. -/
theorem RAt.wrote {w w' : World} {p : Nat} {O : Nat → Prop} {v : Value} {l : List RE} {S : St} (h : RA u w p v l S) (op : O p) (og : ∀ k, v.ownBlock = some k → O k) (oh : ∀ e ∈ l, O e.h) {j a : Nat} {e : RE} {d : Nd} {c : C} (hj : l[j]? = some e) (hs : S e.id = some d) (hW : Wrote w w' e.h (a * 6) c) :
    RAt u w' p O (M.upd S e.id a c) ∧ Fr O w w' := by
  obtain ⟨W, W', gW, hP, y, gy, hy⟩ := hW
  obtain ⟨h2, g2⟩ := (h.kept gW).upd hj hs hP
  have he : O e.h := oh e (List.mem_of_getElem? hj)
  have F2 : Fr O w W' := (Fr.grown gW).trans (Fr.at g2 he)
  have F3 : Fr (fun z => y = some z) W' w' := ⟨gy.os, gy.tape, gy.output, gy.size, fun i hi ho => gy.block i hi (fun e => ho e.symm)⟩
  have hlt : ∀ z, z < w.heap.size → ¬ (y = some z) := fun z hz e => by have := hy z e; omega
  refine ⟨⟨v, l, h2.fr F3 (hlt _ h.plt) (fun b hb => hlt _ (World.ownsRow.lt h.ls b hb).2) (fun e he => by obtain ⟨d, _, _, N⟩ := h.node e he; exact hlt _ N.lt), op, og, oh⟩, F2.join F3 (fun z hz e => absurd e (hlt z hz))⟩

theorem rput_is {w : World} {p : Nat} {O : Nat → Prop} {S : St} (h : RAt u w p O S) (G : Good S) (n i k o r b g t e : Int) (he : M.putE S n i ⟨k, o, r, b, g, t⟩ = e) :
    Calls Tryz.prog 78 #[.pointer (some ⟨p, 0, none⟩), sv n i, cv ⟨k, o, r, b, g, t⟩] w fun x w' => x = .returned (.int .i64 e) ∧ RAt u w' p O (M.putS S n i ⟨k, o, r, b, g, t⟩) ∧ Fr O w w' := by
  have H := h
  obtain ⟨v, l, h, op, og, oh⟩ := h
  have HC := fun w => rchk_is k o r b g t _ rfl w
  have still : M.putE S n i ⟨k, o, r, b, g, t⟩ ≠ 0 → ∀ w', w.grownBy w' none → RAt u w' p O (M.putS S n i ⟨k, o, r, b, g, t⟩) ∧ Fr O w w' := by
    intro hne w' gw
    rw [show M.putS S n i ⟨k, o, r, b, g, t⟩ = S by unfold M.putS; rw [if_neg hne]]
    exact ⟨H.kept gw, Fr.grown gw⟩
  subst he
  cases ht : M.there S n i
  · have e : M.putE S n i ⟨k, o, r, b, g, t⟩ = 6 := by unfold M.putE; rw [ht]; rfl
    refine (rput_no w p n i k o r b g t (fun W g => is_is (h.kept g) G n i false ht)).mono fun x w' q => ⟨by rw [q.1, e], still (by rw [e]; decide) w' q.2⟩
  · obtain ⟨d, a, hs, rfl, ha⟩ := M.there_yes ht
    obtain ⟨j, x, hj, rfl, hr, N⟩ := h.has hs
    have HA := gAt_of h G hj
    have HI : gIs w p x.id a true := fun W g => is_is (h.kept g) G x.id a true ht
    have Z := N.six a ha
    obtain ⟨gg, m, cap, rfl, rfl, A⟩ := h.at hj
    have h2 := A.l
    unfold rev at h2
    have hx := List.mem_of_getElem? hj
    by_cases h0 : M.chk ⟨k, o, r, b, g, t⟩ = 0
    · rw [h0] at HC
      by_cases hk0 : k = 0
      · have e : M.putE S x.id a ⟨k, o, r, b, g, t⟩ = 3 := by unfold M.putE; rw [ht, if_pos rfl, if_pos h0, if_pos hk0]
        refine (rput_null w p x.id a k o r b g t j (by simpa using hk0) HI HC HA).mono fun x w' q => ⟨by rw [q.1, e], still (by rw [e]; decide) w' q.2⟩
      · by_cases hk1 : (d.f a).k = 0
        · have e : M.putE S x.id a ⟨k, o, r, b, g, t⟩ = 0 := by unfold M.putE; rw [ht, if_pos rfl, if_pos h0, if_neg hk0, M.getC_at hs ha, if_pos hk1]
          refine (rput_yes w p gg _ cap j x.h (2 ^ x.r) a x.id k o r b g t _ _ _ _ _ _ (by simpa using hk0) (by simpa using hk1) (h.hp hx).symm (h.hg rfl hx).symm (by have := A.lt; omega) (by rw [← hr]; omega) A.cell h2 Z HI HC HA).mono ?_
          rintro y w' ⟨rfl, hW⟩
          have : M.putS S x.id a ⟨k, o, r, b, g, t⟩ = M.upd S x.id a ⟨k, o, r, b, g, t⟩ := by unfold M.putS; rw [if_pos e]
          rw [e, this]
          exact ⟨rfl, RAt.wrote h op og oh hj hs hW⟩
        · have e : M.putE S x.id a ⟨k, o, r, b, g, t⟩ = 4 := by unfold M.putE; rw [ht, if_pos rfl, if_pos h0, if_neg hk0, M.getC_at hs ha, if_neg hk1]
          refine (rput_twice w p gg _ cap j x.h (2 ^ x.r) a x.id k o r b g t _ _ _ _ _ _ (by simpa using hk0) (by simpa using hk1) (by have := A.lt; omega) (by rw [← hr]; omega) A.cell h2 Z HI HC HA).mono fun x w' q => ⟨by rw [q.1, e], still (by rw [e]; decide) w' q.2⟩
    · have e : M.putE S x.id a ⟨k, o, r, b, g, t⟩ = M.chk ⟨k, o, r, b, g, t⟩ := by unfold M.putE; rw [ht, if_pos rfl, if_neg h0]
      refine (rput_chk w p x.id a k o r b g t _ j (by simpa using h0) HI HC HA).mono fun x w' q => ⟨by rw [q.1, e], still (by rw [e]; exact h0) w' q.2⟩

theorem rtake_is {w : World} {p : Nat} {O : Nat → Prop} {S : St} (h : RAt u w p O S) (G : Good S) (n i k o r b g t e : Int) (hc : M.takeC S n i = ⟨k, o, r, b, g, t⟩) (he : M.takeE S n i = e) :
    Calls Tryz.prog 93 #[.pointer (some ⟨p, 0, none⟩), sv n i] w fun x w' => x = .returned (.tuple #[cv ⟨k, o, r, b, g, t⟩, .int .i64 e]) ∧ RAt u w' p O (M.takeS S n i) ∧ Fr O w w' := by
  have H := h
  obtain ⟨v, l, h, op, og, oh⟩ := h
  have still : M.takeE S n i ≠ 0 → C.zero = (⟨k, o, r, b, g, t⟩ : C) ∧ ∀ w', w.grownBy w' none → RAt u w' p O (M.takeS S n i) ∧ Fr O w w' := by
    intro hne
    unfold M.takeS
    unfold M.takeC at hc
    rw [if_neg hne] at hc ⊢
    exact ⟨hc, fun w' gw => ⟨H.kept gw, Fr.grown gw⟩⟩
  subst he
  cases ht : M.there S n i
  · have e : M.takeE S n i = 6 := by unfold M.takeE; rw [ht]; rfl
    obtain ⟨h1, h2⟩ := still (by rw [e]; decide)
    have HG : rsGet w p n i ⟨k, o, r, b, g, t⟩ 6 := fun W gW => rget_ra (h.kept gW) G n i k o r b g t 6 (by rw [M.getC_no ht]; exact h1) (by unfold M.getE; rw [ht]; rfl)
    refine (rtake_no w p n i k o r b g t 6 (by decide) HG).mono fun x w' q => ⟨by rw [q.1, e], h2 w' q.2⟩
  · obtain ⟨d, a, hs, rfl, ha⟩ := M.there_yes ht
    obtain ⟨j, x, hj, rfl, hr, N⟩ := h.has hs
    have hE : M.getE S x.id a = 0 := by unfold M.getE; rw [ht]; rfl
    by_cases hk1 : (d.f a).k = 0
    · have e : M.takeE S x.id a = 3 := by unfold M.takeE; rw [ht, if_pos rfl, M.getC_at hs ha, if_pos hk1]
      obtain ⟨h1, h2⟩ := still (by rw [e]; decide)
      have hz := G.nul _ d a hs hk1
      have HG : rsGet w p x.id a ⟨k, o, r, b, g, t⟩ 0 := fun W gW => rget_ra (h.kept gW) G x.id a k o r b g t 0 (by rw [M.getC_at hs ha, hz]; exact h1) hE
      refine (rtake_null w p x.id a k o r b g t (by have := congrArg C.k h1; simp at this; simp [← this]) HG).mono fun y w' q => ⟨by rw [q.1, e], h2 w' q.2⟩
    · have e : M.takeE S x.id a = 0 := by unfold M.takeE; rw [ht, if_pos rfl, M.getC_at hs ha, if_neg hk1]
      have ec : M.takeC S x.id a = d.f a := by unfold M.takeC; rw [if_pos e, M.getC_at hs ha]
      have es : M.takeS S x.id a = M.upd S x.id a C.zero := by unfold M.takeS; rw [if_pos e]
      rw [ec] at hc
      have Z := N.six a ha
      rw [hc] at Z hk1
      have HG : rsGet w p x.id a ⟨k, o, r, b, g, t⟩ 0 := fun W gW => rget_ra (h.kept gW) G x.id a k o r b g t 0 (by rw [M.getC_at hs ha]; exact hc) hE
      have HA := gAt_of h G hj
      obtain ⟨gg, m, cap, rfl, rfl, A⟩ := h.at hj
      have h2 := A.l
      unfold rev at h2
      have hx := List.mem_of_getElem? hj
      refine (rtake_yes w p gg _ cap j x.h (2 ^ x.r) a x.id k o r b g t (by simpa using hk1) (h.hp hx).symm (h.hg rfl hx).symm (by have := A.lt; omega) (by rw [← hr]; omega) A.cell h2 Z HG HA).mono ?_
      rintro y w' ⟨rfl, hW⟩
      rw [e, es]
      exact ⟨rfl, RAt.wrote h op og oh hj hs hW⟩

end Go.Proofs.YtdnoidnpiaadaaaGreat
