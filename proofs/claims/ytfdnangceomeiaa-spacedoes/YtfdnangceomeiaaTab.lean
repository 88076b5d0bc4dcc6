/-
  THE CONTRACT of package space's inTable.
-/
import Derived.Test.YtfdnangceomeiaaSpc
namespace Go.Proofs.Ytfdnangceomeiaa
set_option maxRecDepth 10000
open Go.RowKit
set_option linter.unusedVariables false

set_option maxHeartbeats 1000000 in
theorem intab_yes (p : Nat) (dir a x y z : Int) (k : Nat) (W B X : Int) (v : Value) (w : World) (e1 : B + y = X) (b0 : 0 ≤ X) (b1 : X ≤ 65536)
    (HD : ∀ w', w.grownBy w' none → Calls Try.prog 38 #[.pointer (some ⟨p, 0, none⟩), .int .i64 dir, .int .i64 a, v] w' fun e w'' => e = .returned (.tuple #[.int .i64 k, .int .i64 0]) ∧ w'.grownBy w'' none)
    (HG : ∀ w', w.grownBy w' none → Calls Try.prog 37 #[.pointer (some ⟨p, 0, none⟩), .int .i64 k] w' fun e w'' => e = .returned (.tuple #[.int .u64 W, .int .i64 0]) ∧ w'.grownBy w'' none)
    (HU : ∀ w', Calls Try.prog 58 #[.int .u64 W] w' fun e w'' => e = .returned (.tuple #[ev ⟨true, false, B⟩, .int .i64 0]) ∧ w'.grownBy w'' none)
    (HT : ∀ w', w.grownBy w' none → Calls Try.prog 31 #[.pointer (some ⟨p, 0, none⟩), .int .i64 B] w' fun e w'' => e = .returned (.bool true) ∧ w'' = w')
    (HS : ∀ w', Calls Try.prog 43 #[.int .i64 a] w' fun e w'' => e = .returned (.tuple #[.int .i64 x, .int .i64 y, .int .i64 z, .int .i64 0]) ∧ w'.grownBy w'' none) :
    Calls Try.prog 41 #[.pointer (some ⟨p, 0, none⟩), .int .i64 dir, .int .i64 a, v] w fun e w' => e = .returned (.tuple #[.int .i64 X, .int .i64 0]) ∧ w.grownBy w' none := by
  go_enter Try.func41, Try.ntmps41
  go_wp2_with fail
  refine (HD _ (gbRefl _ _)).mono ?_
  rintro e w1 ⟨rfl, g1⟩
  go_wp2_with fail
  refine (HG _ g1).mono ?_
  rintro e w2 ⟨rfl, g2⟩
  have G2 := gbTrans g1 g2
  clear g1 g2
  go_wp2_with fail
  refine (HU _).mono ?_
  rintro e w3 ⟨rfl, g3⟩
  go_upto_region 6 with fail
  obtain ⟨W3, hW3, Y, h3⟩ := boxNew w3 ⟨true, false, B⟩ 69
  simp only at hW3
  rw [hW3]
  clear hW3
  have G3 := gbTrans (gbTrans G2 g3) h3
  clear G2 g3 h3
  obtain ⟨z0, z1, z2, zt, zf⟩ := id Y
  simp only at z0 z1 z2
  go_wp2_with fail
  refine (HT _ G3).mono ?_
  rintro e w4 ⟨rfl, rfl⟩
  go_wp2_with fail
  refine (HS _).mono ?_
  rintro e w5 ⟨rfl, g5⟩
  have G5 := gbTrans G3 g5
  replace Y := Y.kept g5
  clear z0 z1 z2 zt zf
  obtain ⟨z0, z1, z2, zt, zf⟩ := Y
  simp only at z0 z1 z2
  go_wp2
  go_ret2
  exact ⟨rfl, G5⟩

set_option maxHeartbeats 1000000 in
theorem intab_err (p : Nat) (dir a x f : Int) (v : Value) (w : World) (hf : (f != 0) = true)
    (HD : ∀ w', w.grownBy w' none → Calls Try.prog 38 #[.pointer (some ⟨p, 0, none⟩), .int .i64 dir, .int .i64 a, v] w' fun e w'' => e = .returned (.tuple #[.int .i64 x, .int .i64 f]) ∧ w'.grownBy w'' none) :
    Calls Try.prog 41 #[.pointer (some ⟨p, 0, none⟩), .int .i64 dir, .int .i64 a, v] w fun e w' => e = .returned (.tuple #[.int .i64 0, .int .i64 f]) ∧ w.grownBy w' none := by
  go_enter Try.func41, Try.ntmps41
  go_wp2_with fail
  refine (HD _ (gbRefl _ _)).mono ?_
  rintro e w1 ⟨rfl, g1⟩
  go_wp2
  go_ret2
  exact ⟨rfl, g1⟩

set_option maxHeartbeats 1000000 in
theorem intab_fault (p : Nat) (dir a : Int) (k : Nat) (W B f : Int) (u o : Bool) (v : Value) (w : World) (hf : (f != 0) = true ∨ ((f != 0) = false ∧ u = false) ∨ ((f != 0) = false ∧ u = true ∧ o = true))
    (HD : ∀ w', w.grownBy w' none → Calls Try.prog 38 #[.pointer (some ⟨p, 0, none⟩), .int .i64 dir, .int .i64 a, v] w' fun e w'' => e = .returned (.tuple #[.int .i64 k, .int .i64 0]) ∧ w'.grownBy w'' none)
    (HG : ∀ w', w.grownBy w' none → Calls Try.prog 37 #[.pointer (some ⟨p, 0, none⟩), .int .i64 k] w' fun e w'' => e = .returned (.tuple #[.int .u64 W, .int .i64 0]) ∧ w'.grownBy w'' none)
    (HU : ∀ w', Calls Try.prog 58 #[.int .u64 W] w' fun e w'' => e = .returned (.tuple #[ev ⟨u, o, B⟩, .int .i64 f]) ∧ w'.grownBy w'' none) :
    Calls Try.prog 41 #[.pointer (some ⟨p, 0, none⟩), .int .i64 dir, .int .i64 a, v] w fun e w' => e = .returned (.tuple #[.int .i64 0, .int .i64 12]) ∧ w.grownBy w' none := by
  go_enter Try.func41, Try.ntmps41
  go_wp2_with fail
  refine (HD _ (gbRefl _ _)).mono ?_
  rintro e w1 ⟨rfl, g1⟩
  go_wp2_with fail
  refine (HG _ g1).mono ?_
  rintro e w2 ⟨rfl, g2⟩
  have G2 := gbTrans g1 g2
  clear g1 g2
  go_wp2_with fail
  refine (HU _).mono ?_
  rintro e w3 ⟨rfl, g3⟩
  go_upto_region 6 with fail
  obtain ⟨W3, hW3, Y, h3⟩ := boxNew w3 ⟨u, o, B⟩ 69
  simp only at hW3
  rw [hW3]
  clear hW3
  have G3 := gbTrans (gbTrans G2 g3) h3
  clear G2 g3 h3
  obtain ⟨z0, z1, z2, zt, zf⟩ := Y
  simp only at z0 z1 z2
  rcases hf with hf | ⟨hf, rfl⟩ | ⟨hf, rfl, rfl⟩
  · go_wp2
    go_ret2
    exact ⟨rfl, G3⟩
  · go_wp2
    go_ret2
    exact ⟨rfl, G3⟩
  · go_wp2
    go_ret2
    exact ⟨rfl, G3⟩

set_option maxHeartbeats 1000000 in
theorem intab_out (p : Nat) (dir a : Int) (k : Nat) (W B : Int) (v : Value) (w : World)
    (HD : ∀ w', w.grownBy w' none → Calls Try.prog 38 #[.pointer (some ⟨p, 0, none⟩), .int .i64 dir, .int .i64 a, v] w' fun e w'' => e = .returned (.tuple #[.int .i64 k, .int .i64 0]) ∧ w'.grownBy w'' none)
    (HG : ∀ w', w.grownBy w' none → Calls Try.prog 37 #[.pointer (some ⟨p, 0, none⟩), .int .i64 k] w' fun e w'' => e = .returned (.tuple #[.int .u64 W, .int .i64 0]) ∧ w'.grownBy w'' none)
    (HU : ∀ w', Calls Try.prog 58 #[.int .u64 W] w' fun e w'' => e = .returned (.tuple #[ev ⟨true, false, B⟩, .int .i64 0]) ∧ w'.grownBy w'' none)
    (HT : ∀ w', w.grownBy w' none → Calls Try.prog 31 #[.pointer (some ⟨p, 0, none⟩), .int .i64 B] w' fun e w'' => e = .returned (.bool false) ∧ w'' = w') :
    Calls Try.prog 41 #[.pointer (some ⟨p, 0, none⟩), .int .i64 dir, .int .i64 a, v] w fun e w' => e = .returned (.tuple #[.int .i64 0, .int .i64 12]) ∧ w.grownBy w' none := by
  go_enter Try.func41, Try.ntmps41
  go_wp2_with fail
  refine (HD _ (gbRefl _ _)).mono ?_
  rintro e w1 ⟨rfl, g1⟩
  go_wp2_with fail
  refine (HG _ g1).mono ?_
  rintro e w2 ⟨rfl, g2⟩
  have G2 := gbTrans g1 g2
  clear g1 g2
  go_wp2_with fail
  refine (HU _).mono ?_
  rintro e w3 ⟨rfl, g3⟩
  go_upto_region 6 with fail
  obtain ⟨W3, hW3, Y, h3⟩ := boxNew w3 ⟨true, false, B⟩ 69
  simp only at hW3
  rw [hW3]
  clear hW3
  have G3 := gbTrans (gbTrans G2 g3) h3
  clear G2 g3 h3
  obtain ⟨z0, z1, z2, zt, zf⟩ := id Y
  simp only at z0 z1 z2
  go_wp2_with fail
  refine (HT _ G3).mono ?_
  rintro e w4 ⟨rfl, rfl⟩
  go_wp2
  go_ret2
  exact ⟨rfl, G3⟩

theorem intab_is (w : World) (p b n : Nat) (F : Nat → Nat) (dir a x f : Int) (v : Value) (l : Bool) (hm : Mm w p b n F) (hl : Laid w v n l) (h : M.tp n F dir a l = (x, f)) :
    Calls Try.prog 41 #[.pointer (some ⟨p, 0, none⟩), .int .i64 dir, .int .i64 a, v] w fun e w' => e = .returned (.tuple #[.int .i64 x, .int .i64 f]) ∧ w.grownBy w' none := by
  have hn := hm.is.hi
  have h0 := h
  unfold M.tp at h
  obtain ⟨⟨y, g⟩, hd⟩ : ∃ q, M.dp n dir a l = q := ⟨_, rfl⟩
  have HD := fun w' (k : w.grownBy w' none) => indir_is w' p b n F dir a y g v l (hm.kept k) (hl.kept k) hd
  rw [hd] at h
  simp only at h
  by_cases c1 : g = 0
  · subst c1
    rw [if_pos rfl] at h
    obtain ⟨D, A, rfl, hD, rfl, hA, hl', rfl⟩ := M.dp_ok hd
    rw [Int.toNat_natCast] at h
    have HG := fun w' (k : w.grownBy w' none) => hm.get k (16 * D + A / 256) (by omega)
    obtain ⟨⟨⟨u, o, B⟩, f'⟩, hu⟩ : ∃ q, M.up (F (16 * D + A / 256)) = q := ⟨_, rfl⟩
    have HU := fun w => unpack_is (F (16 * D + A / 256)) _ f' (hm.lt _) hu w
    have hv : M.lv n F (16 * D + A / 256) = (⟨u, o, B⟩, f' == 0 && u && M.th n B) := by unfold M.lv; rw [hu]
    rw [hv] at h
    simp only at h
    by_cases d1 : f' = 0
    · subst d1
      cases u
      · rw [if_pos (by simp)] at h
        simp only [Prod.mk.injEq] at h
        obtain ⟨rfl, rfl⟩ := h
        exact intab_fault p _ _ _ _ B 0 false o v w (.inr (.inl ⟨rfl, rfl⟩)) HD HG HU
      · cases o
        · have ht := M.up_al (n := n) hu
          simp only at ht
          by_cases d2 : M.th n B = false
          · rw [if_pos (by simp [d2])] at h
            simp only [Prod.mk.injEq] at h
            obtain ⟨rfl, rfl⟩ := h
            exact intab_out p _ _ _ _ B v w HD HG HU (fun w' k => hm.isthere k B false (ht.trans d2))
          · have d2 : M.th n B = true := by simpa using d2
            rw [if_neg (by simp [d2])] at h
            simp only [Prod.mk.injEq] at h
            obtain ⟨h, rfl⟩ := h
            obtain ⟨B', rfl, hB⟩ := M.th_nat d2
            have HS := fun w' => split_is (A : Int) _ _ _ _ (by rw [M.sp, if_pos (by simp [M.isA]; omega)]) w'
            exact intab_yes p _ _ _ _ _ _ _ _ x v w h (by omega) (by omega) HD HG HU (fun w' k => hm.isthere k _ true (ht.trans d2)) HS
        · rw [if_pos (by simp)] at h
          simp only [Prod.mk.injEq] at h
          obtain ⟨rfl, rfl⟩ := h
          exact intab_fault p _ _ _ _ B 0 true true v w (.inr (.inr ⟨rfl, rfl, rfl⟩)) HD HG HU
    · rw [if_pos (by simp [d1])] at h
      simp only [Prod.mk.injEq] at h
      obtain ⟨rfl, rfl⟩ := h
      exact intab_fault p _ _ _ _ B f' u o v w (.inl (by simp [d1])) HD HG HU
  · rw [if_neg c1] at h
    simp only [Prod.mk.injEq] at h
    obtain ⟨rfl, rfl⟩ := h
    exact intab_err p _ _ y g v w (by simp [c1]) HD
end Go.Proofs.Ytfdnangceomeiaa
