/-
  THE CONTRACTS of the document's own inner functions (package donjonref15): the same answers.
-/
import Derived.Test.YtfdnangceomeiaaCal
import Derived.Test.YtfdnangceomeiaaRpg
namespace Go.Proofs.Ytfdnangceomeiaa
set_option maxRecDepth 10000
open Go.RowKit
set_option linter.unusedVariables false

set_option maxHeartbeats 400000 in
theorem rsthere_is (w : World) (p b n : Nat) (a : Int) (t : Bool) (hc : w.cell? ⟨p, 0, none⟩ = some (.slice (some ⟨b, 0, none⟩) n n)) (hn : n ≤ 65536) (h : M.al n a = t) :
    Calls Try.prog 33 #[.pointer (some ⟨p, 0, none⟩), .int .i64 a] w fun e w' => e = .returned (.bool t) ∧ w' = w := by
  subst h
  by_cases c0 : 0 ≤ a
  · obtain ⟨A, rfl⟩ : ∃ A : Nat, a = (A : Int) := ⟨a.toNat, by omega⟩
    by_cases c : (A : Int) % 16 = 0
    · have cb : ((A : Int) % 16 == 0) = true := by simp [c]
      have e : M.al n (A : Int) = M.th n (A : Int) := by unfold M.al; rw [cb, Bool.true_and]
      rw [e]
      have HT := rathere_is w p b n (A : Int) _ hc hn rfl
      clear e c c0
      obtain ⟨t, ht⟩ : ∃ t, M.th n (A : Int) = t := ⟨_, rfl⟩
      rw [ht] at HT ⊢
      clear ht
      go_enter Try.func33, Try.ntmps33
      go_wp2_with fail
      refine HT.mono ?_
      rintro e w1 ⟨rfl, rfl⟩
      go_wp2
      go_ret
      exact ⟨rfl, rfl⟩
    · have cb : ((A : Int) % 16 == 0) = false := by simpa using c
      have e : M.al n (A : Int) = false := by unfold M.al; rw [cb, Bool.false_and]
      rw [e]
      clear e c c0
      go_enter Try.func33, Try.ntmps33
      go_wp2
      go_ret
      exact ⟨rfl, rfl⟩
  · rw [show M.al n a = false by simp [M.al, M.th, c0]]
    go_enter Try.func33, Try.ntmps33
    go_wp2
    go_ret
    exact ⟨rfl, rfl⟩
theorem Rm.isthere {w w' : World} {p b n : Nat} {F : Nat → Nat} (h : Rm w p b n F) (g : w.grownBy w' none) (a : Int) (t : Bool) (ht : M.al n a = t) :
    Calls Try.prog 33 #[.pointer (some ⟨p, 0, none⟩), .int .i64 a] w' fun e w'' => e = .returned (.bool t) ∧ w'' = w' :=
  rsthere_is w' p b n a t (h.kept g).is.cell h.is.hi ht

set_option maxHeartbeats 400000 in
theorem rentry_is (a : Int) (o : Bool) (x f : Int) (h : M.pk ⟨true, o, a⟩ = (x, f)) (w : World) :
    Calls Try.prog 47 #[.int .i64 a, .bool o] w fun e w' => e = .returned (.int .u64 x) ∧ w.grownBy w' none := by
  have HP := fun w' => rpack_is true o a x f h w'
  clear h
  go_enter Try.func47, Try.ntmps47
  go_wp2_with fail
  refine (HP _).mono ?_
  rintro e w1 ⟨rfl, g1⟩
  go_wp2
  go_ret
  exact ⟨rfl, g1⟩

set_option maxHeartbeats 1000000 in
theorem rfirst_is (w : World) (p b n : Nat) (F : Nat → Nat) (dir a t x f : Int) (hm : Rm w p b n F) (h : M.dp n dir a (M.al n t) = (x, f)) :
    Calls Try.prog 46 #[.pointer (some ⟨p, 0, none⟩), .int .i64 dir, .int .i64 a, .int .i64 t] w fun e w' => e = .returned (.tuple #[.int .i64 x, .int .i64 f]) ∧ w.grownBy w' none := by
  have hn := hm.is.hi
  unfold M.dp at h
  by_cases c1 : M.isA a = false
  · rw [if_pos c1] at h
    simp only [Prod.mk.injEq] at h
    obtain ⟨rfl, rfl⟩ := h
    have HS := fun w' => rsplit_is a 0 0 0 1 (by rw [M.sp, if_neg (by simp [c1])]) w'
    clear hm hn
    go_enter Try.func46, Try.ntmps46
    go_wp2_with fail
    refine (HS _).mono ?_
    rintro e w1 ⟨rfl, g1⟩
    go_wp2
    go_ret2
    exact ⟨rfl, g1⟩
  rw [if_neg c1] at h
  have c1' : M.isA a = true := by simpa using c1
  obtain ⟨A, rfl, hA⟩ := M.isA_nat c1'
  have HS := fun w' => rsplit_is (A : Int) _ _ _ _ (by rw [M.sp, if_pos c1']) w'
  clear c1 c1'
  by_cases c2 : M.al n dir = false
  · rw [c2, Bool.false_and, if_pos rfl] at h
    simp only [Prod.mk.injEq] at h
    obtain ⟨rfl, rfl⟩ := h
    have HT := fun w' (g : w.grownBy w' none) => hm.isthere g dir false c2
    clear hm hn c2
    go_enter Try.func46, Try.ntmps46
    go_wp2_with fail
    refine (HS _).mono ?_
    rintro e w1 ⟨rfl, g1⟩
    go_wp2_with fail
    refine (HT _ g1).mono ?_
    rintro e w2 ⟨rfl, rfl⟩
    go_wp2
    go_ret2
    exact ⟨rfl, g1⟩
  have c2 : M.al n dir = true := by simpa using c2
  obtain ⟨D, rfl, hD⟩ := M.al_nat c2
  have HT := fun w' (g : w.grownBy w' none) => hm.isthere g _ true c2
  rw [c2, Bool.true_and] at h
  obtain ⟨l, hl⟩ : ∃ l, M.al n t = l := ⟨_, rfl⟩
  have HL := fun w' (g : w.grownBy w' none) => hm.isthere g t l hl
  rw [hl] at h
  obtain ⟨d, hd⟩ : ∃ d : Nat, 16 * D = d := ⟨_, rfl⟩
  rw [hd] at h HT ⊢
  have x1 : (A : Int) / 256 = ((A / 256 : Nat) : Int) := by omega
  obtain ⟨q, hq⟩ : ∃ q : Nat, A / 256 = q := ⟨_, rfl⟩
  rw [hq] at x1
  rw [x1] at HS h
  have ql : q < 16 := by omega
  have dl : d < 65536 := by omega
  have hs : (d : Int) + (q : Int) = ((d + q : Nat) : Int) := by omega
  obtain ⟨y, hy⟩ : ∃ y : Nat, d + q = y := ⟨_, rfl⟩
  rw [hy] at hs
  rw [hs] at h
  clear hm hn c2 hD hA x1 hq hd hy hl
  cases l
  · rw [if_pos rfl] at h
    simp only [Prod.mk.injEq] at h
    obtain ⟨rfl, rfl⟩ := h
    go_enter Try.func46, Try.ntmps46
    go_wp2_with fail
    refine (HS _).mono ?_
    rintro e w1 ⟨rfl, g1⟩
    go_wp2_with fail
    refine (HT _ g1).mono ?_
    rintro e w2 ⟨rfl, rfl⟩
    go_wp2_with fail
    refine (HL _ g1).mono ?_
    rintro e w2 ⟨rfl, rfl⟩
    go_wp2
    go_ret2
    exact ⟨rfl, g1⟩
  · rw [if_neg (by simp)] at h
    simp only [Prod.mk.injEq] at h
    obtain ⟨rfl, rfl⟩ := h
    go_enter Try.func46, Try.ntmps46
    go_wp2_with fail
    refine (HS _).mono ?_
    rintro e w1 ⟨rfl, g1⟩
    go_wp2_with fail
    refine (HT _ g1).mono ?_
    rintro e w2 ⟨rfl, rfl⟩
    go_wp2_with fail
    refine (HL _ g1).mono ?_
    rintro e w2 ⟨rfl, rfl⟩
    go_wp2
    go_ret2
    exact ⟨rfl, g1⟩

theorem M.dp_self (n : Nat) (dir a : Int) : M.dp n dir a (M.al n dir) = M.dp n dir a true := by
  unfold M.dp
  rw [Bool.and_self, Bool.and_true]
theorem M.tp_self (n : Nat) (F : Nat → Nat) (dir a : Int) : M.tp n F dir a (M.al n dir) = M.tp n F dir a true := by
  unfold M.tp
  rw [M.dp_self]

set_option maxHeartbeats 1000000 in
theorem rsecond_yes (p b n k : Nat) (dir a t x y z W B X : Int) (w : World) (e1 : B + y = X) (b0 : 0 ≤ X) (b1 : X ≤ 65536)
    (HD : ∀ w', w.grownBy w' none → Calls Try.prog 46 #[.pointer (some ⟨p, 0, none⟩), .int .i64 dir, .int .i64 a, .int .i64 t] w' fun e w'' => e = .returned (.tuple #[.int .i64 k, .int .i64 0]) ∧ w'.grownBy w'' none)
    (HC : ∀ w', w.grownBy w' none → w'.cell? ⟨p, 0, none⟩ = some (.slice (some ⟨b, 0, none⟩) n n) ∧ w'.cell? ⟨b, k, none⟩ = some (.int .u64 W)) (hk : k < n) (hn : n ≤ 65536)
    (HU : ∀ w', Calls Try.prog 49 #[.int .u64 W] w' fun e w'' => e = .returned (.tuple #[ev ⟨true, false, B⟩, .int .i64 0]) ∧ w'.grownBy w'' none)
    (HT : ∀ w', w.grownBy w' none → Calls Try.prog 52 #[.pointer (some ⟨p, 0, none⟩), .int .i64 B, .int .i64 16] w' fun e w'' => e = .returned (.bool true) ∧ w'' = w')
    (HS : ∀ w', Calls Try.prog 53 #[.int .i64 a] w' fun e w'' => e = .returned (.tuple #[.int .i64 x, .int .i64 y, .int .i64 z, .int .i64 0]) ∧ w'.grownBy w'' none) :
    Calls Try.prog 48 #[.pointer (some ⟨p, 0, none⟩), .int .i64 dir, .int .i64 a, .int .i64 t] w fun e w' => e = .returned (.tuple #[.int .i64 X, .int .i64 0]) ∧ w.grownBy w' none := by
  go_enter Try.func48, Try.ntmps48
  go_wp2_with fail
  refine (HD _ (gbRefl _ _)).mono ?_
  rintro e w1 ⟨rfl, g1⟩
  obtain ⟨h1, h2⟩ := HC _ g1
  go_wp2_with fail
  refine (HU _).mono ?_
  rintro e w3 ⟨rfl, g3⟩
  clear h1 h2
  go_upto_region 5 with fail
  obtain ⟨W3, hW3, Y, h3⟩ := boxNew w3 ⟨true, false, B⟩ 73
  simp only at hW3
  rw [hW3]
  clear hW3
  have G3 := gbTrans (gbTrans g1 g3) h3
  clear g1 g3 h3
  obtain ⟨z0, z1, z2, zt, zf⟩ := id Y
  simp only at z0 z1 z2
  go_wp2_with fail
  refine (HT _ G3).mono ?_
  rintro e w4 ⟨rfl, rfl⟩
  go_wp2_with fail
  refine (HS _).mono ?_
  rintro e w5 ⟨rfl, g5⟩
  have G5 := gbTrans G3 g5
  replace Y := Y.kept g5
  clear z0 z1 z2 zt zf
  obtain ⟨z0, z1, z2, zt, zf⟩ := Y
  simp only at z0 z1 z2
  go_wp2
  go_ret2
  exact ⟨rfl, G5⟩
set_option maxHeartbeats 1000000 in
theorem rsecond_err (p : Nat) (dir a t x f : Int) (w : World) (hf : (f != 0) = true)
    (HD : ∀ w', w.grownBy w' none → Calls Try.prog 46 #[.pointer (some ⟨p, 0, none⟩), .int .i64 dir, .int .i64 a, .int .i64 t] w' fun e w'' => e = .returned (.tuple #[.int .i64 x, .int .i64 f]) ∧ w'.grownBy w'' none) :
    Calls Try.prog 48 #[.pointer (some ⟨p, 0, none⟩), .int .i64 dir, .int .i64 a, .int .i64 t] w fun e w' => e = .returned (.tuple #[.int .i64 0, .int .i64 f]) ∧ w.grownBy w' none := by
  go_enter Try.func48, Try.ntmps48
  go_wp2_with fail
  refine (HD _ (gbRefl _ _)).mono ?_
  rintro e w1 ⟨rfl, g1⟩
  go_wp2
  go_ret2
  exact ⟨rfl, g1⟩
set_option maxHeartbeats 1000000 in
theorem rsecond_fault (p b n k : Nat) (dir a t W B f : Int) (u o : Bool) (w : World) (hf : (f != 0) = true ∨ ((f != 0) = false ∧ u = false) ∨ ((f != 0) = false ∧ u = true ∧ o = true))
    (HD : ∀ w', w.grownBy w' none → Calls Try.prog 46 #[.pointer (some ⟨p, 0, none⟩), .int .i64 dir, .int .i64 a, .int .i64 t] w' fun e w'' => e = .returned (.tuple #[.int .i64 k, .int .i64 0]) ∧ w'.grownBy w'' none)
    (HC : ∀ w', w.grownBy w' none → w'.cell? ⟨p, 0, none⟩ = some (.slice (some ⟨b, 0, none⟩) n n) ∧ w'.cell? ⟨b, k, none⟩ = some (.int .u64 W)) (hk : k < n) (hn : n ≤ 65536)
    (HU : ∀ w', Calls Try.prog 49 #[.int .u64 W] w' fun e w'' => e = .returned (.tuple #[ev ⟨u, o, B⟩, .int .i64 f]) ∧ w'.grownBy w'' none) :
    Calls Try.prog 48 #[.pointer (some ⟨p, 0, none⟩), .int .i64 dir, .int .i64 a, .int .i64 t] w fun e w' => e = .returned (.tuple #[.int .i64 0, .int .i64 12]) ∧ w.grownBy w' none := by
  go_enter Try.func48, Try.ntmps48
  go_wp2_with fail
  refine (HD _ (gbRefl _ _)).mono ?_
  rintro e w1 ⟨rfl, g1⟩
  obtain ⟨h1, h2⟩ := HC _ g1
  go_wp2_with fail
  refine (HU _).mono ?_
  rintro e w3 ⟨rfl, g3⟩
  clear h1 h2
  go_upto_region 5 with fail
  obtain ⟨W3, hW3, Y, h3⟩ := boxNew w3 ⟨u, o, B⟩ 73
  simp only at hW3
  rw [hW3]
  clear hW3
  have G3 := gbTrans (gbTrans g1 g3) h3
  clear g1 g3 h3
  obtain ⟨z0, z1, z2, zt, zf⟩ := id Y
  simp only at z0 z1 z2
  rcases hf with hf | ⟨hf, rfl⟩ | ⟨hf, rfl, rfl⟩
  · go_wp2
    go_ret2
    exact ⟨rfl, G3⟩
  · go_wp2
    go_ret2
    exact ⟨rfl, G3⟩
  · go_wp2
    go_ret2
    exact ⟨rfl, G3⟩
set_option maxHeartbeats 1000000 in
theorem rsecond_out (p b n k : Nat) (dir a t W B : Int) (w : World)
    (HD : ∀ w', w.grownBy w' none → Calls Try.prog 46 #[.pointer (some ⟨p, 0, none⟩), .int .i64 dir, .int .i64 a, .int .i64 t] w' fun e w'' => e = .returned (.tuple #[.int .i64 k, .int .i64 0]) ∧ w'.grownBy w'' none)
    (HC : ∀ w', w.grownBy w' none → w'.cell? ⟨p, 0, none⟩ = some (.slice (some ⟨b, 0, none⟩) n n) ∧ w'.cell? ⟨b, k, none⟩ = some (.int .u64 W)) (hk : k < n) (hn : n ≤ 65536)
    (HU : ∀ w', Calls Try.prog 49 #[.int .u64 W] w' fun e w'' => e = .returned (.tuple #[ev ⟨true, false, B⟩, .int .i64 0]) ∧ w'.grownBy w'' none)
    (HT : ∀ w', w.grownBy w' none → Calls Try.prog 52 #[.pointer (some ⟨p, 0, none⟩), .int .i64 B, .int .i64 16] w' fun e w'' => e = .returned (.bool false) ∧ w'' = w') :
    Calls Try.prog 48 #[.pointer (some ⟨p, 0, none⟩), .int .i64 dir, .int .i64 a, .int .i64 t] w fun e w' => e = .returned (.tuple #[.int .i64 0, .int .i64 12]) ∧ w.grownBy w' none := by
  go_enter Try.func48, Try.ntmps48
  go_wp2_with fail
  refine (HD _ (gbRefl _ _)).mono ?_
  rintro e w1 ⟨rfl, g1⟩
  obtain ⟨h1, h2⟩ := HC _ g1
  go_wp2_with fail
  refine (HU _).mono ?_
  rintro e w3 ⟨rfl, g3⟩
  clear h1 h2
  go_upto_region 5 with fail
  obtain ⟨W3, hW3, Y, h3⟩ := boxNew w3 ⟨true, false, B⟩ 73
  simp only at hW3
  rw [hW3]
  clear hW3
  have G3 := gbTrans (gbTrans g1 g3) h3
  clear g1 g3 h3
  obtain ⟨z0, z1, z2, zt, zf⟩ := id Y
  simp only at z0 z1 z2
  go_wp2_with fail
  refine (HT _ G3).mono ?_
  rintro e w4 ⟨rfl, rfl⟩
  go_wp2
  go_ret2
  exact ⟨rfl, G3⟩

theorem rsecond_is (w : World) (p b n : Nat) (F : Nat → Nat) (dir a t x f : Int) (hm : Rm w p b n F) (h : M.tp n F dir a (M.al n t) = (x, f)) :
    Calls Try.prog 48 #[.pointer (some ⟨p, 0, none⟩), .int .i64 dir, .int .i64 a, .int .i64 t] w fun e w' => e = .returned (.tuple #[.int .i64 x, .int .i64 f]) ∧ w.grownBy w' none := by
  have hn := hm.is.hi
  unfold M.tp at h
  obtain ⟨⟨y, g⟩, hd⟩ : ∃ q, M.dp n dir a (M.al n t) = q := ⟨_, rfl⟩
  have HD := fun w' (k : w.grownBy w' none) => rfirst_is w' p b n F dir a t y g (hm.kept k) hd
  rw [hd] at h
  simp only at h
  by_cases c1 : g = 0
  · subst c1
    rw [if_pos rfl] at h
    obtain ⟨D, A, rfl, hD, rfl, hA, hl', rfl⟩ := M.dp_ok hd
    rw [Int.toNat_natCast] at h
    have hX : 16 * D + A / 256 < n := by omega
    have HC := fun w' (k : w.grownBy w' none) => And.intro (hm.kept k).is.cell ((hm.kept k).is.row.cell hX)
    obtain ⟨⟨⟨u, o, B⟩, f'⟩, hu⟩ : ∃ q, M.up (F (16 * D + A / 256)) = q := ⟨_, rfl⟩
    have HU := fun w => runpack_is (F (16 * D + A / 256)) _ f' (hm.lt _) hu w
    have hv : M.lv n F (16 * D + A / 256) = (⟨u, o, B⟩, f' == 0 && u && M.th n B) := by unfold M.lv; rw [hu]
    rw [hv] at h
    simp only at h
    by_cases d1 : f' = 0
    · subst d1
      cases u
      · rw [if_pos (by simp)] at h
        simp only [Prod.mk.injEq] at h
        obtain ⟨rfl, rfl⟩ := h
        exact rsecond_fault p b n _ _ _ t _ B 0 false o w (.inr (.inl ⟨rfl, rfl⟩)) HD HC hX hn HU
      · cases o
        · by_cases d2 : M.th n B = false
          · rw [if_pos (by simp [d2])] at h
            simp only [Prod.mk.injEq] at h
            obtain ⟨rfl, rfl⟩ := h
            exact rsecond_out p b n _ _ _ t _ B w HD HC hX hn HU (fun w' k => hm.there k B false d2)
          · have d2 : M.th n B = true := by simpa using d2
            rw [if_neg (by simp [d2])] at h
            simp only [Prod.mk.injEq] at h
            obtain ⟨h, rfl⟩ := h
            obtain ⟨B', rfl, hB⟩ := M.th_nat d2
            have HS := fun w' => rsplit_is (A : Int) _ _ _ _ (by rw [M.sp, if_pos (by simp [M.isA]; omega)]) w'
            exact rsecond_yes p b n _ _ _ t _ _ _ _ _ x w h (by omega) (by omega) HD HC hX hn HU (fun w' k => hm.there k _ true d2) HS
        · rw [if_pos (by simp)] at h
          simp only [Prod.mk.injEq] at h
          obtain ⟨rfl, rfl⟩ := h
          exact rsecond_fault p b n _ _ _ t _ B 0 true true w (.inr (.inr ⟨rfl, rfl, rfl⟩)) HD HC hX hn HU
    · rw [if_pos (by simp [d1])] at h
      simp only [Prod.mk.injEq] at h
      obtain ⟨rfl, rfl⟩ := h
      exact rsecond_fault p b n _ _ _ t _ B f' u o w (.inl (by simp [d1])) HD HC hX hn HU
  · rw [if_neg c1] at h
    simp only [Prod.mk.injEq] at h
    obtain ⟨rfl, rfl⟩ := h
    exact rsecond_err p _ _ t y g w (by simp [c1]) HD
end Go.Proofs.Ytfdnangceomeiaa
