/-
  THE CONTRACT of walk.Page: directory, table, page; the jump back behind the first level is one pass more of the same text.
-/
import Derived.Test.YtfdnangceomeiaaWlk
namespace Go.Proofs.Ytfdnangceomeiaa
set_option maxRecDepth 10000
open Go.RowKit

set_option maxHeartbeats 2000000 in
theorem page_yes (p D x y z k1 k2 A : Nat) (a B : Int) (v v1 : Bool) (w : World) (hD : (D : Int).tmod 16 = 0) (bD : D ≤ 65536) (bA : A ≤ 65536) (bx : x ≤ 16) (by' : y ≤ 16)
    (e1 : (D : Int) + (x : Int) = (k1 : Int)) (e2 : (A : Int) + (y : Int) = (k2 : Int))
    (HS : ∀ w', Calls Try.prog 43 #[.int .i64 a] w' fun e w'' => e = .returned (.tuple #[.int .i64 x, .int .i64 y, .int .i64 z, .int .i64 0]) ∧ w'.grownBy w'' none)
    (HT : ∀ w', w.grownBy w' none → Calls Try.prog 50 #[.pointer (some ⟨p, 0, none⟩), .int .i64 D] w' fun e w'' => e = .returned (.bool true) ∧ w'' = w')
    (H1 : ∀ w', w.grownBy w' none → Calls Try.prog 51 #[.pointer (some ⟨p, 0, none⟩), .int .i64 k1] w' fun e w'' => e = .returned (.tuple #[ev ⟨v1, false, (A : Int)⟩, .bool true]) ∧ w'.grownBy w'' none)
    (H2 : ∀ w', w.grownBy w' none → Calls Try.prog 51 #[.pointer (some ⟨p, 0, none⟩), .int .i64 k2] w' fun e w'' => e = .returned (.tuple #[ev ⟨true, v, B⟩, .bool true]) ∧ w'.grownBy w'' none) :
    Calls Try.prog 32 #[.pointer (some ⟨p, 0, none⟩), .int .i64 D, .int .i64 a] w fun e w' => e = .returned (.tuple #[ev ⟨true, v, B⟩, .int .i64 0]) ∧ w.grownBy w' none := by
  have X0 : Box (w.alloc (.cells #[.bool false, .bool false, .int .i64 0] 69)) w.heap.size E.zero := Box.made w E.zero _
  have G0 := gbAlloc w (.cells #[.bool false, .bool false, .int .i64 0] 69) none
  go_enter Try.func32, Try.ntmps32
  go_wp2_with fail
  refine wp_scope_once 0 rfl ?_
  go_wp2_with fail
  refine (HS _).mono ?_
  rintro e w1 ⟨rfl, g1⟩
  have G1 := gbTrans G0 g1
  have X1 := X0.kept g1
  clear X0 G0 g1
  go_wp2_with fail
  refine (HT _ G1).mono ?_
  rintro e w2 ⟨rfl, rfl⟩
  go_wp2_with fail
  go_step3
  go_wp2_with fail
  refine (H1 _ G1).mono ?_
  rintro e w3 ⟨rfl, g3⟩
  have X3 := X1.kept g3
  have G3 := gbTrans G1 g3
  clear X1 G1 g3
  go_upto_region 8 with fail
  obtain ⟨W3, hW3, Y, h3⟩ := boxNew w3 ⟨v1, false, (A : Int)⟩ 69
  simp only at hW3
  rw [hW3]
  clear hW3
  replace X3 := X3.kept h3
  replace G3 := gbTrans G3 h3
  clear h3
  obtain ⟨z0, z1, z2, zt, zf⟩ := Y
  simp only at z0 z1 z2
  go_wp2_with fail
  go_step3
  refine ⟨rfl, ?_⟩
  go_wp2_with fail
  clear z0 z1 z2 zt zf
  refine (H2 _ G3).mono ?_
  rintro e w4 ⟨rfl, g4⟩
  have X4 := X3.kept g4
  have G4 := gbTrans G3 g4
  clear X3 G3 g4
  go_upto_region 8 with fail
  obtain ⟨W4, hW4, Y, h4⟩ := boxNew w4 ⟨true, v, B⟩ 69
  simp only at hW4
  rw [hW4]
  clear hW4
  replace X4 := X4.kept h4
  replace G4 := gbTrans G4 h4
  clear h4
  obtain ⟨z0, z1, z2, zt, zf⟩ := Y
  simp only at z0 z1 z2
  obtain ⟨a0, a1, a2, lt, fr⟩ := X4
  simp only at a0 a1 a2
  have f0 := fr 0
  have f1 := fr 1
  have f2 := fr 2
  go_wp2
  simp only [Exit.jump]
  exact bodyPost_ret (v := .tuple #[ev ⟨true, v, B⟩, .int .i64 0]) (by simp [results, Try.results32, go_sem, a0, a1, a2]) rfl ⟨rfl, by repeat (first | with_reducible exact G4 | refine gbSetNew ?_ _ _ _ (by omega))⟩

set_option maxHeartbeats 2000000 in
theorem page_range (p : Nat) (x y z f a dir : Int) (w : World) (h : (f != 0) = true)
    (HS : ∀ w', Calls Try.prog 43 #[.int .i64 a] w' fun e w'' => e = .returned (.tuple #[.int .i64 x, .int .i64 y, .int .i64 z, .int .i64 f]) ∧ w'.grownBy w'' none) :
    Calls Try.prog 32 #[.pointer (some ⟨p, 0, none⟩), .int .i64 dir, .int .i64 a] w fun e w' => e = .returned (.tuple #[ev E.zero, .int .i64 f]) ∧ w.grownBy w' none := by
  have X0 : Box (w.alloc (.cells #[.bool false, .bool false, .int .i64 0] 69)) w.heap.size E.zero := Box.made w E.zero _
  have G0 := gbAlloc w (.cells #[.bool false, .bool false, .int .i64 0] 69) none
  go_enter Try.func32, Try.ntmps32
  go_wp2_with fail
  refine wp_scope_once 0 rfl ?_
  go_wp2_with fail
  refine (HS _).mono ?_
  rintro e w1 ⟨rfl, g1⟩
  have G1 := gbTrans G0 g1
  have X1 := X0.kept g1
  clear X0 G0 g1
  obtain ⟨a0, a1, a2, lt, fr⟩ := X1
  simp only at a0 a1 a2
  have f0 := fr 0
  have f1 := fr 1
  have f2 := fr 2
  go_wp2
  simp only [Exit.jump]
  exact bodyPost_ret (v := .tuple #[ev E.zero, .int .i64 f]) (by simp [results, Try.results32, go_sem, a0, a1, a2]) rfl ⟨rfl, by repeat (first | with_reducible exact G1 | refine gbSetNew ?_ _ _ _ (by omega))⟩

set_option maxHeartbeats 2000000 in
theorem page_odd (p : Nat) (x y z a dir : Int) (w : World) (h : (dir.tmod 16 != 0) = true)
    (HS : ∀ w', Calls Try.prog 43 #[.int .i64 a] w' fun e w'' => e = .returned (.tuple #[.int .i64 x, .int .i64 y, .int .i64 z, .int .i64 0]) ∧ w'.grownBy w'' none) :
    Calls Try.prog 32 #[.pointer (some ⟨p, 0, none⟩), .int .i64 dir, .int .i64 a] w fun e w' => e = .returned (.tuple #[ev E.zero, .int .i64 9]) ∧ w.grownBy w' none := by
  have X0 : Box (w.alloc (.cells #[.bool false, .bool false, .int .i64 0] 69)) w.heap.size E.zero := Box.made w E.zero _
  have G0 := gbAlloc w (.cells #[.bool false, .bool false, .int .i64 0] 69) none
  go_enter Try.func32, Try.ntmps32
  go_wp2_with fail
  refine wp_scope_once 0 rfl ?_
  go_wp2_with fail
  refine (HS _).mono ?_
  rintro e w1 ⟨rfl, g1⟩
  have G1 := gbTrans G0 g1
  have X1 := X0.kept g1
  clear X0 G0 g1
  obtain ⟨a0, a1, a2, lt, fr⟩ := X1
  simp only at a0 a1 a2
  have f0 := fr 0
  have f1 := fr 1
  have f2 := fr 2
  go_wp2
  simp only [Exit.jump]
  exact bodyPost_ret (v := .tuple #[ev E.zero, .int .i64 9]) (by simp [results, Try.results32, go_sem, a0, a1, a2]) rfl ⟨rfl, by repeat (first | with_reducible exact G1 | refine gbSetNew ?_ _ _ _ (by omega))⟩

set_option maxHeartbeats 2000000 in
theorem page_out (p : Nat) (x y z a dir : Int) (w : World) (h : (dir.tmod 16 != 0) = false)
    (HS : ∀ w', Calls Try.prog 43 #[.int .i64 a] w' fun e w'' => e = .returned (.tuple #[.int .i64 x, .int .i64 y, .int .i64 z, .int .i64 0]) ∧ w'.grownBy w'' none)
    (HT : ∀ w', w.grownBy w' none → Calls Try.prog 50 #[.pointer (some ⟨p, 0, none⟩), .int .i64 dir] w' fun e w'' => e = .returned (.bool false) ∧ w'' = w') :
    Calls Try.prog 32 #[.pointer (some ⟨p, 0, none⟩), .int .i64 dir, .int .i64 a] w fun e w' => e = .returned (.tuple #[ev E.zero, .int .i64 9]) ∧ w.grownBy w' none := by
  have X0 : Box (w.alloc (.cells #[.bool false, .bool false, .int .i64 0] 69)) w.heap.size E.zero := Box.made w E.zero _
  have G0 := gbAlloc w (.cells #[.bool false, .bool false, .int .i64 0] 69) none
  go_enter Try.func32, Try.ntmps32
  go_wp2_with fail
  refine wp_scope_once 0 rfl ?_
  go_wp2_with fail
  refine (HS _).mono ?_
  rintro e w1 ⟨rfl, g1⟩
  have G1 := gbTrans G0 g1
  have X1 := X0.kept g1
  clear X0 G0 g1
  go_wp2_with fail
  refine (HT _ G1).mono ?_
  rintro e w2 ⟨rfl, rfl⟩
  obtain ⟨a0, a1, a2, lt, fr⟩ := X1
  simp only at a0 a1 a2
  have f0 := fr 0
  have f1 := fr 1
  have f2 := fr 2
  go_wp2
  simp only [Exit.jump]
  exact bodyPost_ret (v := .tuple #[ev E.zero, .int .i64 9]) (by simp [results, Try.results32, go_sem, a0, a1, a2]) rfl ⟨rfl, by repeat (first | with_reducible exact G1 | refine gbSetNew ?_ _ _ _ (by omega))⟩

set_option maxHeartbeats 2000000 in
theorem page_first (p D x y z k1 : Nat) (a A : Int) (u v o : Bool) (w : World) (hD : (D : Int).tmod 16 = 0) (bD : D ≤ 65536) (bx : x ≤ 16)
    (e1 : (D : Int) + (x : Int) = (k1 : Int))
    (h : o = false ∨ (o = true ∧ v = true))
    (HS : ∀ w', Calls Try.prog 43 #[.int .i64 a] w' fun e w'' => e = .returned (.tuple #[.int .i64 x, .int .i64 y, .int .i64 z, .int .i64 0]) ∧ w'.grownBy w'' none)
    (HT : ∀ w', w.grownBy w' none → Calls Try.prog 50 #[.pointer (some ⟨p, 0, none⟩), .int .i64 D] w' fun e w'' => e = .returned (.bool true) ∧ w'' = w')
    (H1 : ∀ w', w.grownBy w' none → Calls Try.prog 51 #[.pointer (some ⟨p, 0, none⟩), .int .i64 k1] w' fun e w'' => e = .returned (.tuple #[ev ⟨u, v, A⟩, .bool o]) ∧ w'.grownBy w'' none) :
    Calls Try.prog 32 #[.pointer (some ⟨p, 0, none⟩), .int .i64 D, .int .i64 a] w fun e w' => e = .returned (.tuple #[ev E.zero, .int .i64 12]) ∧ w.grownBy w' none := by
  have X0 : Box (w.alloc (.cells #[.bool false, .bool false, .int .i64 0] 69)) w.heap.size E.zero := Box.made w E.zero _
  have G0 := gbAlloc w (.cells #[.bool false, .bool false, .int .i64 0] 69) none
  go_enter Try.func32, Try.ntmps32
  go_wp2_with fail
  refine wp_scope_once 0 rfl ?_
  go_wp2_with fail
  refine (HS _).mono ?_
  rintro e w1 ⟨rfl, g1⟩
  have G1 := gbTrans G0 g1
  have X1 := X0.kept g1
  clear X0 G0 g1
  go_wp2_with fail
  refine (HT _ G1).mono ?_
  rintro e w2 ⟨rfl, rfl⟩
  go_wp2_with fail
  go_step3
  go_wp2_with fail
  refine (H1 _ G1).mono ?_
  rintro e w3 ⟨rfl, g3⟩
  have X3 := X1.kept g3
  have G3 := gbTrans G1 g3
  clear X1 G1 g3
  go_upto_region 8 with fail
  obtain ⟨W3, hW3, Y, h3⟩ := boxNew w3 ⟨u, v, A⟩ 69
  simp only at hW3
  rw [hW3]
  clear hW3
  replace X3 := X3.kept h3
  replace G3 := gbTrans G3 h3
  clear h3
  obtain ⟨z0, z1, z2, zt, zf⟩ := Y
  simp only at z0 z1 z2
  obtain ⟨a0, a1, a2, lt, fr⟩ := X3
  simp only at a0 a1 a2
  have f0 := fr 0
  have f1 := fr 1
  have f2 := fr 2
  rcases h with rfl | ⟨rfl, rfl⟩
  · go_wp2
    simp only [Exit.jump]
    exact bodyPost_ret (v := .tuple #[ev E.zero, .int .i64 12]) (by simp [results, Try.results32, go_sem, a0, a1, a2]) rfl ⟨rfl, by repeat (first | with_reducible exact G3 | refine gbSetNew ?_ _ _ _ (by omega))⟩
  · go_wp2
    simp only [Exit.jump]
    exact bodyPost_ret (v := .tuple #[ev E.zero, .int .i64 12]) (by simp [results, Try.results32, go_sem, a0, a1, a2]) rfl ⟨rfl, by repeat (first | with_reducible exact G3 | refine gbSetNew ?_ _ _ _ (by omega))⟩

set_option maxHeartbeats 2000000 in
theorem page_second (p D x y z k1 k2 A : Nat) (a B : Int) (u v v1 : Bool) (w : World) (hD : (D : Int).tmod 16 = 0) (bD : D ≤ 65536) (bA : A ≤ 65536) (bx : x ≤ 16) (by' : y ≤ 16)
    (e1 : (D : Int) + (x : Int) = (k1 : Int)) (e2 : (A : Int) + (y : Int) = (k2 : Int))
    (HS : ∀ w', Calls Try.prog 43 #[.int .i64 a] w' fun e w'' => e = .returned (.tuple #[.int .i64 x, .int .i64 y, .int .i64 z, .int .i64 0]) ∧ w'.grownBy w'' none)
    (HT : ∀ w', w.grownBy w' none → Calls Try.prog 50 #[.pointer (some ⟨p, 0, none⟩), .int .i64 D] w' fun e w'' => e = .returned (.bool true) ∧ w'' = w')
    (H1 : ∀ w', w.grownBy w' none → Calls Try.prog 51 #[.pointer (some ⟨p, 0, none⟩), .int .i64 k1] w' fun e w'' => e = .returned (.tuple #[ev ⟨v1, false, (A : Int)⟩, .bool true]) ∧ w'.grownBy w'' none)
    (H2 : ∀ w', w.grownBy w' none → Calls Try.prog 51 #[.pointer (some ⟨p, 0, none⟩), .int .i64 k2] w' fun e w'' => e = .returned (.tuple #[ev ⟨u, v, B⟩, .bool false]) ∧ w'.grownBy w'' none) :
    Calls Try.prog 32 #[.pointer (some ⟨p, 0, none⟩), .int .i64 D, .int .i64 a] w fun e w' => e = .returned (.tuple #[ev E.zero, .int .i64 12]) ∧ w.grownBy w' none := by
  have X0 : Box (w.alloc (.cells #[.bool false, .bool false, .int .i64 0] 69)) w.heap.size E.zero := Box.made w E.zero _
  have G0 := gbAlloc w (.cells #[.bool false, .bool false, .int .i64 0] 69) none
  go_enter Try.func32, Try.ntmps32
  go_wp2_with fail
  refine wp_scope_once 0 rfl ?_
  go_wp2_with fail
  refine (HS _).mono ?_
  rintro e w1 ⟨rfl, g1⟩
  have G1 := gbTrans G0 g1
  have X1 := X0.kept g1
  clear X0 G0 g1
  go_wp2_with fail
  refine (HT _ G1).mono ?_
  rintro e w2 ⟨rfl, rfl⟩
  go_wp2_with fail
  go_step3
  go_wp2_with fail
  refine (H1 _ G1).mono ?_
  rintro e w3 ⟨rfl, g3⟩
  have X3 := X1.kept g3
  have G3 := gbTrans G1 g3
  clear X1 G1 g3
  go_upto_region 8 with fail
  obtain ⟨W3, hW3, Y, h3⟩ := boxNew w3 ⟨v1, false, (A : Int)⟩ 69
  simp only at hW3
  rw [hW3]
  clear hW3
  replace X3 := X3.kept h3
  replace G3 := gbTrans G3 h3
  clear h3
  obtain ⟨z0, z1, z2, zt, zf⟩ := Y
  simp only at z0 z1 z2
  go_wp2_with fail
  go_step3
  refine ⟨rfl, ?_⟩
  go_wp2_with fail
  clear z0 z1 z2 zt zf
  refine (H2 _ G3).mono ?_
  rintro e w4 ⟨rfl, g4⟩
  have X4 := X3.kept g4
  have G4 := gbTrans G3 g4
  clear X3 G3 g4
  go_upto_region 8 with fail
  obtain ⟨W4, hW4, Y, h4⟩ := boxNew w4 ⟨u, v, B⟩ 69
  simp only at hW4
  rw [hW4]
  clear hW4
  replace X4 := X4.kept h4
  replace G4 := gbTrans G4 h4
  clear h4
  obtain ⟨z0, z1, z2, zt, zf⟩ := Y
  simp only at z0 z1 z2
  obtain ⟨a0, a1, a2, lt, fr⟩ := X4
  simp only at a0 a1 a2
  have f0 := fr 0
  have f1 := fr 1
  have f2 := fr 2
  go_wp2
  simp only [Exit.jump]
  exact bodyPost_ret (v := .tuple #[ev E.zero, .int .i64 12]) (by simp [results, Try.results32, go_sem, a0, a1, a2]) rfl ⟨rfl, by repeat (first | with_reducible exact G4 | refine gbSetNew ?_ _ _ _ (by omega))⟩

/-- Page's answer, whatever comes in. -/
theorem page_is (w : World) (p b n : Nat) (F : Nat → Nat) (dir a : Int) (c : E) (f : Int) (hm : Mm w p b n F) (h : M.pe n F dir a = (c, f)) :
    Calls Try.prog 32 #[.pointer (some ⟨p, 0, none⟩), .int .i64 dir, .int .i64 a] w fun e w' => e = .returned (.tuple #[ev c, .int .i64 f]) ∧ w.grownBy w' none := by
  unfold M.pe at h
  by_cases c1 : M.isA a = false
  · rw [if_pos c1] at h
    simp only [Prod.mk.injEq] at h
    obtain ⟨rfl, rfl⟩ := h
    exact page_range p 0 0 0 1 a dir w rfl (fun w' => split_is a 0 0 0 1 (by rw [M.sp, if_neg (by simp [c1])]) w')
  rw [if_neg c1] at h
  have c1' : M.isA a = true := by simpa using c1
  obtain ⟨A, rfl, hA⟩ := M.isA_nat c1'
  have HS := fun w' => split_is (A : Int) _ _ _ _ (by rw [M.sp, if_pos c1']) w'
  by_cases c2 : (dir % 16 == 0 && M.th n dir) = false
  · rw [if_pos c2] at h
    simp only [Prod.mk.injEq] at h
    obtain ⟨rfl, rfl⟩ := h
    by_cases c3 : dir.tmod 16 = 0
    · refine page_out p _ _ _ _ dir w (by simp [c3]) HS (fun w' g => hm.there g dir false ?_)
      have c4 : dir % 16 = 0 := by
        have := Int.dvd_of_tmod_eq_zero c3
        omega
      simpa [c4] using c2
    · exact page_odd p _ _ _ _ dir w (by simp [c3]) HS
  rw [if_neg c2] at h
  simp only [Bool.not_eq_false, Bool.and_eq_true, beq_iff_eq] at c2
  obtain ⟨c2, c3⟩ := c2
  obtain ⟨D, rfl, hD⟩ := M.th_nat c3
  have hn := hm.is.hi
  have HT := fun w' (g : w.grownBy w' none) => hm.there g (D : Int) true c3
  have hD16 : (D : Int).tmod 16 = 0 := by
    rw [Int.tmod_eq_emod_of_nonneg (by omega)]
    exact c2
  have x1 : (A : Int) / 256 = ((A / 256 : Nat) : Int) := by omega
  have x2 : (A : Int) / 16 % 16 = ((A / 16 % 16 : Nat) : Int) := by omega
  have x3 : (A : Int) % 16 = ((A % 16 : Nat) : Int) := by omega
  have k1 : ((D : Int) + (A : Int) / 256).toNat = D + A / 256 := by omega
  rw [x1, x2, x3] at HS
  rw [k1] at h
  obtain ⟨⟨⟨u, v, B⟩, o⟩, h1⟩ : ∃ q, M.lv n F (D + A / 256) = q := ⟨_, rfl⟩
  have H1 := fun w' (g : w.grownBy w' none) => entry_is w' p b n (D + A / 256) F _ _ (hm.kept g) (by omega) h1
  rw [h1] at h
  simp only at h
  by_cases c4 : (o && !v) = false
  · rw [if_pos c4] at h
    simp only [Prod.mk.injEq] at h
    obtain ⟨rfl, rfl⟩ := h
    exact page_first p D (A / 256) (A / 16 % 16) (A % 16) (D + A / 256) A B u v o w hD16 (by omega) (by omega) (by omega) (by revert c4; cases o <;> cases v <;> simp) HS HT H1
  rw [if_neg c4] at h
  obtain ⟨rfl, rfl⟩ : o = true ∧ v = false := by revert c4; cases o <;> cases v <;> simp
  have hB : M.th n B = true := by
    unfold M.lv at h1
    simp only [Prod.mk.injEq, Bool.and_eq_true] at h1
    have e := h1.1
    have := h1.2.2
    rw [e] at this
    exact this
  obtain ⟨B, rfl, hB⟩ := M.th_nat hB
  have k2 : ((B : Int) + (A : Int) / 16 % 16).toNat = B + A / 16 % 16 := by omega
  rw [k2] at h
  obtain ⟨⟨⟨u2, v2, B2⟩, o2⟩, h2⟩ : ∃ q, M.lv n F (B + A / 16 % 16) = q := ⟨_, rfl⟩
  have H2 := fun w' (g : w.grownBy w' none) => entry_is w' p b n (B + A / 16 % 16) F _ _ (hm.kept g) (by omega) h2
  rw [h2] at h
  simp only at h
  by_cases c5 : o2 = false
  · subst c5
    rw [if_pos rfl] at h
    simp only [Prod.mk.injEq] at h
    obtain ⟨rfl, rfl⟩ := h
    exact page_second p D (A / 256) (A / 16 % 16) (A % 16) (D + A / 256) (B + A / 16 % 16) B A B2 u2 v2 u w hD16 (by omega) (by omega) (by omega) (by omega) (by omega) (by omega) HS HT H1 H2
  · rw [if_neg c5] at h
    simp only [Prod.mk.injEq] at h
    obtain ⟨rfl, rfl⟩ := h
    obtain rfl : o2 = true := by simpa using c5
    have hu : u2 = true := by
      unfold M.lv at h2
      simp only [Prod.mk.injEq, Bool.and_eq_true] at h2
      have e := h2.1
      have := h2.2.1.2
      rw [e] at this
      exact this
    subst hu
    exact page_yes p D (A / 256) (A / 16 % 16) (A % 16) (D + A / 256) (B + A / 16 % 16) B A B2 v2 u w hD16 (by omega) (by omega) (by omega) (by omega) (by omega) (by omega) HS HT H1 H2

end Go.Proofs.Ytfdnangceomeiaa
