/-
  THE DOCUMENT's SIDE: the contract of donjonref14's To. (Written by mkrto.py.)
-/
import Derived.Test.YtmmjmloaefcmmaaRtf
namespace Go.Proofs.Ytmmjmloaefcmmaa
set_option maxRecDepth 10000
open Go.RowKit
set_option linter.unusedVariables false

set_option maxHeartbeats 1000000 in
theorem rtto_range (w : World) (t m : Nat) (s dir a : Int) (wr : Bool) (h : (M.nr s && M.isA a) = false) :
    Calls Try.prog 11 #[.pointer (some ⟨t, 0, none⟩), .pointer (some ⟨m, 0, none⟩), .int .i64 s, .int .i64 dir, .int .i64 a, .bool wr] w fun e w' => e = .returned (.tuple #[.int .i64 0, .int .i64 1]) ∧ w.grownBy w' none := by
  by_cases c1 : M.nr s = true
  · have c : ¬ M.isA a = true := by rw [c1] at h; simpa using h
    have HS := fun w => rsplit_is a 0 0 0 1 (by unfold M.sp; rw [if_neg c]) w
    go_enter Try.func11, Try.ntmps11
    go_wp2_with fail
    refine (HS _).mono ?_
    rintro e w1 ⟨rfl, g1⟩
    go_wp2_with fail
    refine (number_is s true c1 _).mono ?_
    rintro e w2 ⟨rfl, rfl⟩
    go_wp2
    exact bodyPost_ret (v := .tuple #[.int .i64 0, .int .i64 1]) (by simp [results, Try.results11, go_sem]) rfl ⟨rfl, g1⟩
  · have c1 : M.nr s = false := by simpa using c1
    obtain ⟨⟨x, y, z, f⟩, hsp⟩ : ∃ q, M.sp a = q := ⟨_, rfl⟩
    have HS := fun w => rsplit_is a x y z f hsp w
    go_enter Try.func11, Try.ntmps11
    go_wp2_with fail
    refine (HS _).mono ?_
    rintro e w1 ⟨rfl, g1⟩
    go_wp2_with fail
    refine (number_is s false c1 _).mono ?_
    rintro e w2 ⟨rfl, rfl⟩
    go_wp2
    exact bodyPost_ret (v := .tuple #[.int .i64 0, .int .i64 1]) (by simp [results, Try.results11, go_sem]) rfl ⟨rfl, g1⟩

set_option maxHeartbeats 2000000 in
theorem rtto_kr (w : World) (t m A P : Nat) (s dir : Int) (v : Bool) (x y1 y2 z : Int) (hA : A < 4096) (hP : (A : Int).tdiv 16 = (P : Int)) (hP1 : P < 256) (hs : M.nr s = true)
    (HS : ∀ w, Calls Try.prog 36 #[.int .i64 A] w fun e w' => e = .returned (.tuple #[.int .i64 y1, .int .i64 y2, .int .i64 z, .int .i64 0]) ∧ w.grownBy w' none)
    (HG : ∀ w', w.grownBy w' none → Calls Try.prog 22 #[.pointer (some ⟨t, 0, none⟩), .int .i64 s, .int .i64 P] w' fun e w'' => e = .returned (.tuple #[ev ⟨v, false, x⟩, .bool true]) ∧ w'.grownBy w'' none) :
    Calls Try.prog 11 #[.pointer (some ⟨t, 0, none⟩), .pointer (some ⟨m, 0, none⟩), .int .i64 s, .int .i64 dir, .int .i64 A, .bool true] w fun e w' => e = .returned (.tuple #[.int .i64 0, .int .i64 5]) ∧ w.grownBy w' none := by
  go_enter Try.func11, Try.ntmps11
  go_wp2_with fail
  refine (HS _).mono ?_
  rintro e w1 ⟨rfl, g1⟩
  go_wp2_with fail
  refine (number_is s true hs _).mono ?_
  rintro e w2 ⟨rfl, rfl⟩
  go_wp2_with fail
  refine (HG _ g1).mono ?_
  rintro e w2 ⟨rfl, g2⟩
  go_upto_region 5 with fail
  obtain ⟨W3, hW3, Y, h3⟩ := boxNew w2 ⟨v, false, x⟩ 35
  simp only at hW3
  rw [hW3]
  clear hW3
  have G3 := gbTrans (gbTrans g1 g2) h3
  have hbx : w.heap.size ≤ w2.heap.size := Nat.le_trans g1.size g2.size
  clear g1 g2 h3 HG HS
  obtain ⟨z0, z1, z2⟩ := Y.at'
  simp only at z0 z1 z2
  clear Y
  go_wp2
  exact bodyPost_ret (v := .tuple #[.int .i64 0, .int .i64 5]) (by simp [results, Try.results11, go_sem]) rfl ⟨rfl, G3⟩

set_option maxHeartbeats 2000000 in
theorem rtto_kn (w : World) (t m A P : Nat) (s dir : Int) (v o : Bool) (x y1 y2 z X : Int) (hA : A < 4096) (hP : (A : Int).tdiv 16 = (P : Int)) (hP1 : P < 256) (hs : M.nr s = true)
    (HS : ∀ w, Calls Try.prog 36 #[.int .i64 A] w fun e w' => e = .returned (.tuple #[.int .i64 y1, .int .i64 y2, .int .i64 z, .int .i64 0]) ∧ w.grownBy w' none)
    (HG : ∀ w', w.grownBy w' none → Calls Try.prog 22 #[.pointer (some ⟨t, 0, none⟩), .int .i64 s, .int .i64 P] w' fun e w'' => e = .returned (.tuple #[ev ⟨v, o, x⟩, .bool true]) ∧ w'.grownBy w'' none) (hX : x + z = X) (b0 : 0 ≤ X) (b1 : X ≤ 70000) :
    Calls Try.prog 11 #[.pointer (some ⟨t, 0, none⟩), .pointer (some ⟨m, 0, none⟩), .int .i64 s, .int .i64 dir, .int .i64 A, .bool false] w fun e w' => e = .returned (.tuple #[.int .i64 X, .int .i64 0]) ∧ w.grownBy w' none := by
  go_enter Try.func11, Try.ntmps11
  go_wp2_with fail
  refine (HS _).mono ?_
  rintro e w1 ⟨rfl, g1⟩
  go_wp2_with fail
  refine (number_is s true hs _).mono ?_
  rintro e w2 ⟨rfl, rfl⟩
  go_wp2_with fail
  refine (HG _ g1).mono ?_
  rintro e w2 ⟨rfl, g2⟩
  go_upto_region 5 with fail
  obtain ⟨W3, hW3, Y, h3⟩ := boxNew w2 ⟨v, o, x⟩ 35
  simp only at hW3
  rw [hW3]
  clear hW3
  have G3 := gbTrans (gbTrans g1 g2) h3
  have hbx : w.heap.size ≤ w2.heap.size := Nat.le_trans g1.size g2.size
  clear g1 g2 h3 HG HS
  obtain ⟨z0, z1, z2⟩ := Y.at'
  simp only at z0 z1 z2
  clear Y
  go_wp2
  exact bodyPost_ret (v := .tuple #[.int .i64 X, .int .i64 0]) (by simp [results, Try.results11, go_sem]) rfl ⟨rfl, G3⟩

set_option maxHeartbeats 2000000 in
theorem rtto_kw (w : World) (t m A P : Nat) (s dir : Int) (v : Bool) (x y1 y2 z X : Int) (hA : A < 4096) (hP : (A : Int).tdiv 16 = (P : Int)) (hP1 : P < 256) (hs : M.nr s = true)
    (HS : ∀ w, Calls Try.prog 36 #[.int .i64 A] w fun e w' => e = .returned (.tuple #[.int .i64 y1, .int .i64 y2, .int .i64 z, .int .i64 0]) ∧ w.grownBy w' none)
    (HG : ∀ w', w.grownBy w' none → Calls Try.prog 22 #[.pointer (some ⟨t, 0, none⟩), .int .i64 s, .int .i64 P] w' fun e w'' => e = .returned (.tuple #[ev ⟨v, true, x⟩, .bool true]) ∧ w'.grownBy w'' none) (hX : x + z = X) (b0 : 0 ≤ X) (b1 : X ≤ 70000) :
    Calls Try.prog 11 #[.pointer (some ⟨t, 0, none⟩), .pointer (some ⟨m, 0, none⟩), .int .i64 s, .int .i64 dir, .int .i64 A, .bool true] w fun e w' => e = .returned (.tuple #[.int .i64 X, .int .i64 0]) ∧ w.grownBy w' none := by
  go_enter Try.func11, Try.ntmps11
  go_wp2_with fail
  refine (HS _).mono ?_
  rintro e w1 ⟨rfl, g1⟩
  go_wp2_with fail
  refine (number_is s true hs _).mono ?_
  rintro e w2 ⟨rfl, rfl⟩
  go_wp2_with fail
  refine (HG _ g1).mono ?_
  rintro e w2 ⟨rfl, g2⟩
  go_upto_region 5 with fail
  obtain ⟨W3, hW3, Y, h3⟩ := boxNew w2 ⟨v, true, x⟩ 35
  simp only at hW3
  rw [hW3]
  clear hW3
  have G3 := gbTrans (gbTrans g1 g2) h3
  have hbx : w.heap.size ≤ w2.heap.size := Nat.le_trans g1.size g2.size
  clear g1 g2 h3 HG HS
  obtain ⟨z0, z1, z2⟩ := Y.at'
  simp only at z0 z1 z2
  clear Y
  go_wp2
  exact bodyPost_ret (v := .tuple #[.int .i64 X, .int .i64 0]) (by simp [results, Try.results11, go_sem]) rfl ⟨rfl, G3⟩

set_option maxHeartbeats 2000000 in
theorem rtto_err (w : World) (t m A P : Nat) (s dir : Int) (wr v o : Bool) (x y1 y2 z f : Int) (hA : A < 4096) (hP : (A : Int).tdiv 16 = (P : Int)) (hP1 : P < 256) (hs : M.nr s = true)
    (HS : ∀ w, Calls Try.prog 36 #[.int .i64 A] w fun e w' => e = .returned (.tuple #[.int .i64 y1, .int .i64 y2, .int .i64 z, .int .i64 0]) ∧ w.grownBy w' none)
    (HG : ∀ w', w.grownBy w' none → Calls Try.prog 22 #[.pointer (some ⟨t, 0, none⟩), .int .i64 s, .int .i64 P] w' fun e w'' => e = .returned (.tuple #[ev E.zero, .bool false]) ∧ w'.grownBy w'' none)
    (HP : ∀ w', w.grownBy w' none → Calls Try.prog 38 #[.pointer (some ⟨m, 0, none⟩), .int .i64 dir, .int .i64 A] w' fun e w'' => e = .returned (.tuple #[ev ⟨v, o, x⟩, .int .i64 f]) ∧ w'.grownBy w'' none) (hf : (f != 0) = true) :
    Calls Try.prog 11 #[.pointer (some ⟨t, 0, none⟩), .pointer (some ⟨m, 0, none⟩), .int .i64 s, .int .i64 dir, .int .i64 A, .bool wr] w fun e w' => e = .returned (.tuple #[.int .i64 0, .int .i64 f]) ∧ w.grownBy w' none := by
  go_enter Try.func11, Try.ntmps11
  go_wp2_with fail
  refine (HS _).mono ?_
  rintro e w1 ⟨rfl, g1⟩
  go_wp2_with fail
  refine (number_is s true hs _).mono ?_
  rintro e w2 ⟨rfl, rfl⟩
  go_wp2_with fail
  refine (HG _ g1).mono ?_
  rintro e w2 ⟨rfl, g2⟩
  go_upto_region 5 with fail
  obtain ⟨W3, hW3, Y, h3⟩ := boxNew w2 E.zero 35
  simp only at hW3
  rw [hW3]
  clear hW3
  have G3 := gbTrans (gbTrans g1 g2) h3
  have hbx : w.heap.size ≤ w2.heap.size := Nat.le_trans g1.size g2.size
  clear g1 g2 h3 HG HS
  go_wp2_with fail
  refine (HP _ G3).mono ?_
  rintro e w4 ⟨rfl, g4⟩
  go_upto_region 7 with fail
  obtain ⟨W5, hW5, Z, h5⟩ := boxNew w4 ⟨v, o, x⟩ 35
  simp only at hW5
  rw [hW5]
  clear hW5
  have G5 := gbTrans (gbTrans G3 g4) h5
  clear Y Z HP
  go_wp2
  exact bodyPost_ret (v := .tuple #[.int .i64 0, .int .i64 f]) (by simp [results, Try.results11, go_sem]) rfl ⟨rfl, G5⟩

set_option maxHeartbeats 2000000 in
theorem rtto_wr {w0 w : World} {O : Nat → Prop} {t : Nat} {L : List K} (h : Tr w0 w O t L) (m A P : Nat) (s dir : Int) (v : Bool) (x y1 y2 z : Int) (hA : A < 4096) (hP : (A : Int).tdiv 16 = (P : Int)) (hP1 : P < 256) (hs : M.nr s = true)
    (HS : ∀ w, Calls Try.prog 36 #[.int .i64 A] w fun e w' => e = .returned (.tuple #[.int .i64 y1, .int .i64 y2, .int .i64 z, .int .i64 0]) ∧ w.grownBy w' none)
    (HG : ∀ w', w.grownBy w' none → Calls Try.prog 22 #[.pointer (some ⟨t, 0, none⟩), .int .i64 s, .int .i64 P] w' fun e w'' => e = .returned (.tuple #[ev E.zero, .bool false]) ∧ w'.grownBy w'' none)
    (HP : ∀ w', w.grownBy w' none → Calls Try.prog 38 #[.pointer (some ⟨m, 0, none⟩), .int .i64 dir, .int .i64 A] w' fun e w'' => e = .returned (.tuple #[ev ⟨v, false, x⟩, .int .i64 0]) ∧ w'.grownBy w'' none)
    (hf : M.kfe s P ⟨v, false, x⟩ = 0) :
    Calls Try.prog 11 #[.pointer (some ⟨t, 0, none⟩), .pointer (some ⟨m, 0, none⟩), .int .i64 s, .int .i64 dir, .int .i64 A, .bool true] w fun e w' => e = .returned (.tuple #[.int .i64 0, .int .i64 5]) ∧ Tr w0 w' (wide O w w') t (M.kput L s P ⟨v, false, x⟩) ∧ Fr O w w' := by
  have HT := hideIt h
  have hlo : ∀ z, w.heap.size ≤ z → ¬ O z := fun z hz e => by have := (h.lo z e).2; omega
  have hlo := hideIt hlo
  have hf := hideIt hf
  clear h
  go_enter Try.func11, Try.ntmps11
  go_wp2_with fail
  refine (HS _).mono ?_
  rintro e w1 ⟨rfl, g1⟩
  go_wp2_with fail
  refine (number_is s true hs _).mono ?_
  rintro e w2 ⟨rfl, rfl⟩
  go_wp2_with fail
  refine (HG _ g1).mono ?_
  rintro e w2 ⟨rfl, g2⟩
  go_upto_region 5 with fail
  obtain ⟨W3, hW3, Y, h3⟩ := boxNew w2 E.zero 35
  simp only at hW3
  rw [hW3]
  clear hW3
  have G3 := gbTrans (gbTrans g1 g2) h3
  have hbx : w.heap.size ≤ w2.heap.size := Nat.le_trans g1.size g2.size
  clear g1 g2 h3 HG HS
  go_wp2_with fail
  refine (HP _ G3).mono ?_
  rintro e w4 ⟨rfl, g4⟩
  go_upto_region 7 with fail
  obtain ⟨W5, hW5, Z, h5⟩ := boxNew w4 ⟨v, false, x⟩ 35
  simp only at hW5
  rw [hW5]
  clear hW5
  have G5 := gbTrans (gbTrans G3 g4) h5
  have Y5 := (Y.kept g4).kept h5
  have l5 := Y5.lt
  have lz := Z.lt
  have hne : w2.heap.size < w4.heap.size := (Y.kept g4).lt
  obtain ⟨z0, z1, z2⟩ := Z.at'
  simp only at z0 z1 z2
  clear Y g4 h5 HP G3
  go_wp2_with fail
  refine (rfill_yes (HT.out.kept G5) s P v false x hf.out).mono ?_
  rintro e w6 ⟨rfl, T6, F6⟩
  have Y6 := F6.box Y5 (hlo.out _ hbx)
  have Z6 := F6.box Z (hlo.out _ (by omega))
  clear z0 z1 z2 Y5 Z
  obtain ⟨z0, z1, z2⟩ := Z6.at'
  obtain ⟨a0, a1, a2, alt, fr⟩ := Y6
  simp only at z0 z1 z2 a0 a1 a2
  have f0 := fr 0
  have f1 := fr 1
  have f2 := fr 2
  have G6 : w6.grownBy (((w6.setCell ⟨w2.heap.size, 0, none⟩ (.bool v)).setCell ⟨w2.heap.size, 1, none⟩ (.bool false)).setCell ⟨w2.heap.size, 2, none⟩ (.int .i64 x)) (some w2.heap.size) := gbTrans (gbTrans (gbSetCell _ _ _ _) (gbSetCell _ _ _ _)) (gbSetCell _ _ _ _)
  have HE := hideIt (Tb_wider2 HT.out G5 T6 F6 G6 hbx l5)
  clear T6 F6 G6 Z6
  go_wp2
  exact bodyPost_ret (v := .tuple #[.int .i64 0, .int .i64 5]) (by simp [results, Try.results11, go_sem]) rfl ⟨rfl, HE.out⟩

set_option maxHeartbeats 2000000 in
theorem rtto_wn {w0 w : World} {O : Nat → Prop} {t : Nat} {L : List K} (h : Tr w0 w O t L) (m A P : Nat) (s dir : Int) (v o : Bool) (x y1 y2 z X : Int) (hA : A < 4096) (hP : (A : Int).tdiv 16 = (P : Int)) (hP1 : P < 256) (hs : M.nr s = true)
    (HS : ∀ w, Calls Try.prog 36 #[.int .i64 A] w fun e w' => e = .returned (.tuple #[.int .i64 y1, .int .i64 y2, .int .i64 z, .int .i64 0]) ∧ w.grownBy w' none)
    (HG : ∀ w', w.grownBy w' none → Calls Try.prog 22 #[.pointer (some ⟨t, 0, none⟩), .int .i64 s, .int .i64 P] w' fun e w'' => e = .returned (.tuple #[ev E.zero, .bool false]) ∧ w'.grownBy w'' none)
    (HP : ∀ w', w.grownBy w' none → Calls Try.prog 38 #[.pointer (some ⟨m, 0, none⟩), .int .i64 dir, .int .i64 A] w' fun e w'' => e = .returned (.tuple #[ev ⟨v, o, x⟩, .int .i64 0]) ∧ w'.grownBy w'' none)
    (hf : M.kfe s P ⟨v, o, x⟩ = 0) (hX : x + z = X) (b0 : 0 ≤ X) (b1 : X ≤ 70000) :
    Calls Try.prog 11 #[.pointer (some ⟨t, 0, none⟩), .pointer (some ⟨m, 0, none⟩), .int .i64 s, .int .i64 dir, .int .i64 A, .bool false] w fun e w' => e = .returned (.tuple #[.int .i64 X, .int .i64 0]) ∧ Tr w0 w' (wide O w w') t (M.kput L s P ⟨v, o, x⟩) ∧ Fr O w w' := by
  have HT := hideIt h
  have hlo : ∀ z, w.heap.size ≤ z → ¬ O z := fun z hz e => by have := (h.lo z e).2; omega
  have hlo := hideIt hlo
  have hf := hideIt hf
  clear h
  go_enter Try.func11, Try.ntmps11
  go_wp2_with fail
  refine (HS _).mono ?_
  rintro e w1 ⟨rfl, g1⟩
  go_wp2_with fail
  refine (number_is s true hs _).mono ?_
  rintro e w2 ⟨rfl, rfl⟩
  go_wp2_with fail
  refine (HG _ g1).mono ?_
  rintro e w2 ⟨rfl, g2⟩
  go_upto_region 5 with fail
  obtain ⟨W3, hW3, Y, h3⟩ := boxNew w2 E.zero 35
  simp only at hW3
  rw [hW3]
  clear hW3
  have G3 := gbTrans (gbTrans g1 g2) h3
  have hbx : w.heap.size ≤ w2.heap.size := Nat.le_trans g1.size g2.size
  clear g1 g2 h3 HG HS
  go_wp2_with fail
  refine (HP _ G3).mono ?_
  rintro e w4 ⟨rfl, g4⟩
  go_upto_region 7 with fail
  obtain ⟨W5, hW5, Z, h5⟩ := boxNew w4 ⟨v, o, x⟩ 35
  simp only at hW5
  rw [hW5]
  clear hW5
  have G5 := gbTrans (gbTrans G3 g4) h5
  have Y5 := (Y.kept g4).kept h5
  have l5 := Y5.lt
  have lz := Z.lt
  have hne : w2.heap.size < w4.heap.size := (Y.kept g4).lt
  obtain ⟨z0, z1, z2⟩ := Z.at'
  simp only at z0 z1 z2
  clear Y g4 h5 HP G3
  go_wp2_with fail
  refine (rfill_yes (HT.out.kept G5) s P v o x hf.out).mono ?_
  rintro e w6 ⟨rfl, T6, F6⟩
  have Y6 := F6.box Y5 (hlo.out _ hbx)
  have Z6 := F6.box Z (hlo.out _ (by omega))
  clear z0 z1 z2 Y5 Z
  obtain ⟨z0, z1, z2⟩ := Z6.at'
  obtain ⟨a0, a1, a2, alt, fr⟩ := Y6
  simp only at z0 z1 z2 a0 a1 a2
  have f0 := fr 0
  have f1 := fr 1
  have f2 := fr 2
  have G6 : w6.grownBy (((w6.setCell ⟨w2.heap.size, 0, none⟩ (.bool v)).setCell ⟨w2.heap.size, 1, none⟩ (.bool o)).setCell ⟨w2.heap.size, 2, none⟩ (.int .i64 x)) (some w2.heap.size) := gbTrans (gbTrans (gbSetCell _ _ _ _) (gbSetCell _ _ _ _)) (gbSetCell _ _ _ _)
  have HE := hideIt (Tb_wider2 HT.out G5 T6 F6 G6 hbx l5)
  clear T6 F6 G6 Z6
  go_wp2
  exact bodyPost_ret (v := .tuple #[.int .i64 X, .int .i64 0]) (by simp [results, Try.results11, go_sem]) rfl ⟨rfl, HE.out⟩

set_option maxHeartbeats 2000000 in
theorem rtto_ww {w0 w : World} {O : Nat → Prop} {t : Nat} {L : List K} (h : Tr w0 w O t L) (m A P : Nat) (s dir : Int) (v : Bool) (x y1 y2 z X : Int) (hA : A < 4096) (hP : (A : Int).tdiv 16 = (P : Int)) (hP1 : P < 256) (hs : M.nr s = true)
    (HS : ∀ w, Calls Try.prog 36 #[.int .i64 A] w fun e w' => e = .returned (.tuple #[.int .i64 y1, .int .i64 y2, .int .i64 z, .int .i64 0]) ∧ w.grownBy w' none)
    (HG : ∀ w', w.grownBy w' none → Calls Try.prog 22 #[.pointer (some ⟨t, 0, none⟩), .int .i64 s, .int .i64 P] w' fun e w'' => e = .returned (.tuple #[ev E.zero, .bool false]) ∧ w'.grownBy w'' none)
    (HP : ∀ w', w.grownBy w' none → Calls Try.prog 38 #[.pointer (some ⟨m, 0, none⟩), .int .i64 dir, .int .i64 A] w' fun e w'' => e = .returned (.tuple #[ev ⟨v, true, x⟩, .int .i64 0]) ∧ w'.grownBy w'' none)
    (hf : M.kfe s P ⟨v, true, x⟩ = 0) (hX : x + z = X) (b0 : 0 ≤ X) (b1 : X ≤ 70000) :
    Calls Try.prog 11 #[.pointer (some ⟨t, 0, none⟩), .pointer (some ⟨m, 0, none⟩), .int .i64 s, .int .i64 dir, .int .i64 A, .bool true] w fun e w' => e = .returned (.tuple #[.int .i64 X, .int .i64 0]) ∧ Tr w0 w' (wide O w w') t (M.kput L s P ⟨v, true, x⟩) ∧ Fr O w w' := by
  have HT := hideIt h
  have hlo : ∀ z, w.heap.size ≤ z → ¬ O z := fun z hz e => by have := (h.lo z e).2; omega
  have hlo := hideIt hlo
  have hf := hideIt hf
  clear h
  go_enter Try.func11, Try.ntmps11
  go_wp2_with fail
  refine (HS _).mono ?_
  rintro e w1 ⟨rfl, g1⟩
  go_wp2_with fail
  refine (number_is s true hs _).mono ?_
  rintro e w2 ⟨rfl, rfl⟩
  go_wp2_with fail
  refine (HG _ g1).mono ?_
  rintro e w2 ⟨rfl, g2⟩
  go_upto_region 5 with fail
  obtain ⟨W3, hW3, Y, h3⟩ := boxNew w2 E.zero 35
  simp only at hW3
  rw [hW3]
  clear hW3
  have G3 := gbTrans (gbTrans g1 g2) h3
  have hbx : w.heap.size ≤ w2.heap.size := Nat.le_trans g1.size g2.size
  clear g1 g2 h3 HG HS
  go_wp2_with fail
  refine (HP _ G3).mono ?_
  rintro e w4 ⟨rfl, g4⟩
  go_upto_region 7 with fail
  obtain ⟨W5, hW5, Z, h5⟩ := boxNew w4 ⟨v, true, x⟩ 35
  simp only at hW5
  rw [hW5]
  clear hW5
  have G5 := gbTrans (gbTrans G3 g4) h5
  have Y5 := (Y.kept g4).kept h5
  have l5 := Y5.lt
  have lz := Z.lt
  have hne : w2.heap.size < w4.heap.size := (Y.kept g4).lt
  obtain ⟨z0, z1, z2⟩ := Z.at'
  simp only at z0 z1 z2
  clear Y g4 h5 HP G3
  go_wp2_with fail
  refine (rfill_yes (HT.out.kept G5) s P v true x hf.out).mono ?_
  rintro e w6 ⟨rfl, T6, F6⟩
  have Y6 := F6.box Y5 (hlo.out _ hbx)
  have Z6 := F6.box Z (hlo.out _ (by omega))
  clear z0 z1 z2 Y5 Z
  obtain ⟨z0, z1, z2⟩ := Z6.at'
  obtain ⟨a0, a1, a2, alt, fr⟩ := Y6
  simp only at z0 z1 z2 a0 a1 a2
  have f0 := fr 0
  have f1 := fr 1
  have f2 := fr 2
  have G6 : w6.grownBy (((w6.setCell ⟨w2.heap.size, 0, none⟩ (.bool v)).setCell ⟨w2.heap.size, 1, none⟩ (.bool true)).setCell ⟨w2.heap.size, 2, none⟩ (.int .i64 x)) (some w2.heap.size) := gbTrans (gbTrans (gbSetCell _ _ _ _) (gbSetCell _ _ _ _)) (gbSetCell _ _ _ _)
  have HE := hideIt (Tb_wider2 HT.out G5 T6 F6 G6 hbx l5)
  clear T6 F6 G6 Z6
  go_wp2
  exact bodyPost_ret (v := .tuple #[.int .i64 X, .int .i64 0]) (by simp [results, Try.results11, go_sem]) rfl ⟨rfl, HE.out⟩

theorem rtto_is {w0 w : World} {O : Nat → Prop} {t : Nat} {L L' : List K} (h : Tr w0 w O t L) {m b n : Nat} {F : Nat → Nat} (hm : Rm w m b n F) (s dir a : Int) (wr : Bool) (x f : Int) (hk : M.kt n F L s dir a wr = (x, f, L')) :
    Calls Try.prog 11 #[.pointer (some ⟨t, 0, none⟩), .pointer (some ⟨m, 0, none⟩), .int .i64 s, .int .i64 dir, .int .i64 a, .bool wr] w fun e w' => e = .returned (.tuple #[.int .i64 x, .int .i64 f]) ∧ Tr w0 w' (wide O w w') t L' ∧ Fr O w w' := by
  unfold M.kt at hk
  by_cases c1 : (M.nr s && M.isA a) = false
  · rw [if_pos c1] at hk
    simp only [Prod.mk.injEq] at hk
    obtain ⟨rfl, rfl, rfl⟩ := hk
    exact (rtto_range w t m s dir a wr c1).mono fun e w' ⟨q1, q2⟩ => ⟨q1, h.wide q2, Fr.grown q2⟩
  · rw [if_neg c1] at hk
    simp only [Bool.not_eq_false, Bool.and_eq_true] at c1
    obtain ⟨hs, ha⟩ := c1
    obtain ⟨A, rfl, hA⟩ := M.isA_nat ha
    have HS := fun w => rsplit_is (A : Int) ((A : Int) / 256) ((A : Int) / 16 % 16) ((A : Int) % 16) 0 (by unfold M.sp; rw [if_pos ha]) w
    have hn := hm.is.hi
    have hP : (A : Int).tdiv 16 = ((A / 16 : Nat) : Int) := by rw [Int.tdiv_eq_ediv_of_nonneg (by omega)]; omega
    have hP2 : (A : Int) / 16 = ((A / 16 : Nat) : Int) := by omega
    have hP1 : A / 16 < 256 := by omega
    unfold M.kte at hk
    rw [hP2] at hk
    obtain ⟨⟨⟨v, o, y⟩, q⟩, hg⟩ : ∃ q, M.kg L s ((A / 16 : Nat) : Int) = q := ⟨_, rfl⟩
    rw [hg] at hk
    have HG := fun w' (g : w.grownBy w' none) => rget_is (h.kept g) s _ _ _ hg
    cases q with
    | true =>
      simp only [if_true] at hk
      have hy : 0 ≤ y ∧ y < 65536 := by
        obtain ⟨k, k1, k2, k3, k4⟩ := M.kg_mem hg
        have q := h.gd.ent k k1
        rw [k4] at q
        rcases M.ce_ok q.2 with ⟨_, P, rfl, hP⟩ | ⟨r, _⟩
        · omega
        · rw [show v = true from q.1] at r; cases r
      by_cases c3 : (wr && !o) = true
      · rw [if_pos c3] at hk
        simp only [Prod.mk.injEq] at hk
        obtain ⟨rfl, rfl, rfl⟩ := hk
        simp only [Bool.and_eq_true, Bool.not_eq_true'] at c3
        obtain ⟨rfl, rfl⟩ := c3
        exact (rtto_kr w t m A (A / 16) s dir v y _ _ _ hA hP hP1 hs HS HG).mono fun e w' ⟨q1, q2⟩ => ⟨q1, h.wide q2, Fr.grown q2⟩
      · rw [if_neg c3] at hk
        simp only [Prod.mk.injEq] at hk
        obtain ⟨rfl, rfl, rfl⟩ := hk
        cases wr
        · exact (rtto_kn w t m A (A / 16) s dir v o y _ _ _ _ hA hP hP1 hs HS HG rfl (by omega) (by omega)).mono fun e w' ⟨q1, q2⟩ => ⟨q1, h.wide q2, Fr.grown q2⟩
        · obtain rfl : o = true := by simpa using c3
          exact (rtto_kw w t m A (A / 16) s dir v y _ _ _ _ hA hP hP1 hs HS HG rfl (by omega) (by omega)).mono fun e w' ⟨q1, q2⟩ => ⟨q1, h.wide q2, Fr.grown q2⟩
    | false =>
      have hz := (M.kg_none hg).1
      rw [hz] at hg
      have HG : ∀ w', w.grownBy w' none → Calls Try.prog 22 #[.pointer (some ⟨t, 0, none⟩), .int .i64 s, .int .i64 ((A / 16 : Nat) : Int)] w' fun e w'' => e = .returned (.tuple #[ev E.zero, .bool false]) ∧ w'.grownBy w'' none := fun w' g => rget_is (h.kept g) s _ _ _ hg
      simp only [Bool.false_eq_true, if_false] at hk
      obtain ⟨⟨⟨v2, o2, x2⟩, f2⟩, hp⟩ : ∃ q, M.pe n F dir (A : Int) = q := ⟨_, rfl⟩
      rw [hp] at hk
      have HP := fun w' (g : w.grownBy w' none) => rpage_is w' m b n F dir A _ _ (hm.kept g) hp
      by_cases c : f2 = 0
      · subst c
        simp only [if_true] at hk
        obtain ⟨r1, r2, R, r3, r4⟩ := M.pe_right hp hn
        have hf := M.kfe_mk (s := s) (p := ((A / 16 : Nat) : Int)) hs (by rw [← hP2]; exact M.np_of (M.pe_isA hp)) r1 r2
        simp only at r3
        by_cases c3 : (wr && !o2) = true
        · rw [if_pos c3] at hk
          simp only [Prod.mk.injEq] at hk
          obtain ⟨rfl, rfl, rfl⟩ := hk
          simp only [Bool.and_eq_true, Bool.not_eq_true'] at c3
          obtain ⟨rfl, rfl⟩ := c3
          exact rtto_wr h m A (A / 16) s dir v2 x2 _ _ _ hA hP hP1 hs HS HG HP hf
        · rw [if_neg c3] at hk
          simp only [Prod.mk.injEq] at hk
          obtain ⟨rfl, rfl, rfl⟩ := hk
          cases wr
          · exact rtto_wn h m A (A / 16) s dir v2 o2 x2 _ _ _ _ hA hP hP1 hs HS HG HP hf rfl (by omega) (by omega)
          · obtain rfl : o2 = true := by simpa using c3
            exact rtto_ww h m A (A / 16) s dir v2 x2 _ _ _ _ hA hP hP1 hs HS HG HP hf rfl (by omega) (by omega)
      · simp only [if_neg c, Prod.mk.injEq] at hk
        obtain ⟨rfl, rfl, rfl⟩ := hk
        exact (rtto_err w t m A (A / 16) s dir wr v2 o2 x2 _ _ _ f2 hA hP hP1 hs HS HG HP (by simpa using c)).mono fun e w' ⟨q1, q2⟩ => ⟨q1, h.wide q2, Fr.grown q2⟩
end Go.Proofs.Ytmmjmloaefcmmaa
