/-
  THE CONTRACTS of walk.To, Load and Store; where a walk leads, in numbers.
-/
import Derived.Test.YtfdnangceomeiaaPag
namespace Go.Proofs.Ytfdnangceomeiaa
set_option maxRecDepth 10000
open Go.RowKit

set_option maxHeartbeats 1000000 in
theorem to_err (p : Nat) (dir a f : Int) (u v wr : Bool) (A : Int) (w : World) (h : (f != 0) = true)
    (HP : ∀ w', w.grownBy w' none → Calls Try.prog 32 #[.pointer (some ⟨p, 0, none⟩), .int .i64 dir, .int .i64 a] w' fun e w'' => e = .returned (.tuple #[ev ⟨u, v, A⟩, .int .i64 f]) ∧ w'.grownBy w'' none) :
    Calls Try.prog 22 #[.pointer (some ⟨p, 0, none⟩), .int .i64 dir, .int .i64 a, .bool wr] w fun e w' => e = .returned (.tuple #[.int .i64 0, .int .i64 f]) ∧ w.grownBy w' none := by
  go_enter Try.func22, Try.ntmps22
  go_wp2_with fail
  refine (HP _ (gbRefl w none)).mono ?_
  rintro e w1 ⟨rfl, g1⟩
  go_wp2
  go_ret2
  exact ⟨rfl, gbAllocN g1 _⟩

set_option maxHeartbeats 1000000 in
theorem to_rights (p : Nat) (dir a : Int) (u : Bool) (A : Int) (w : World)
    (HP : ∀ w', w.grownBy w' none → Calls Try.prog 32 #[.pointer (some ⟨p, 0, none⟩), .int .i64 dir, .int .i64 a] w' fun e w'' => e = .returned (.tuple #[ev ⟨u, false, A⟩, .int .i64 0]) ∧ w'.grownBy w'' none) :
    Calls Try.prog 22 #[.pointer (some ⟨p, 0, none⟩), .int .i64 dir, .int .i64 a, .bool true] w fun e w' => e = .returned (.tuple #[.int .i64 0, .int .i64 5]) ∧ w.grownBy w' none := by
  go_enter Try.func22, Try.ntmps22
  go_wp2_with fail
  refine (HP _ (gbRefl w none)).mono ?_
  rintro e w1 ⟨rfl, g1⟩
  go_upto_region 2 with fail
  obtain ⟨W1, hW1, Y, h1⟩ := boxNew w1 ⟨u, false, A⟩ 69
  simp only at hW1
  rw [hW1]
  clear hW1
  have G1 := gbTrans g1 h1
  obtain ⟨z0, z1, z2, zt, zf⟩ := Y
  simp only at z0 z1 z2
  go_wp2
  go_ret2
  exact ⟨rfl, G1⟩

set_option maxHeartbeats 1000000 in
theorem to_yes (p : Nat) (dir a x y z : Int) (u v wr : Bool) (A X : Int) (w : World) (h : wr = false ∨ (wr = true ∧ v = true)) (e1 : A + z = X) (x0 : 0 ≤ X) (x1 : X ≤ 65536)
    (HP : ∀ w', w.grownBy w' none → Calls Try.prog 32 #[.pointer (some ⟨p, 0, none⟩), .int .i64 dir, .int .i64 a] w' fun e w'' => e = .returned (.tuple #[ev ⟨u, v, A⟩, .int .i64 0]) ∧ w'.grownBy w'' none)
    (HS : ∀ w', Calls Try.prog 43 #[.int .i64 a] w' fun e w'' => e = .returned (.tuple #[.int .i64 x, .int .i64 y, .int .i64 z, .int .i64 0]) ∧ w'.grownBy w'' none) :
    Calls Try.prog 22 #[.pointer (some ⟨p, 0, none⟩), .int .i64 dir, .int .i64 a, .bool wr] w fun e w' => e = .returned (.tuple #[.int .i64 X, .int .i64 0]) ∧ w.grownBy w' none := by
  rcases h with rfl | ⟨rfl, rfl⟩
  · go_enter Try.func22, Try.ntmps22
    go_wp2_with fail
    refine (HP _ (gbRefl w none)).mono ?_
    rintro e w1 ⟨rfl, g1⟩
    go_upto_region 2 with fail
    obtain ⟨W1, hW1, Y, h1⟩ := boxNew w1 ⟨u, v, A⟩ 69
    simp only at hW1
    rw [hW1]
    clear hW1
    have G1 := gbTrans g1 h1
    go_wp2_with fail
    refine (HS _).mono ?_
    rintro e w2 ⟨rfl, g2⟩
    have G2 := gbTrans G1 g2
    replace Y := Y.kept g2
    obtain ⟨z0, z1, z2, zt, zf⟩ := Y
    simp only at z0 z1 z2
    go_wp2
    go_ret2
    exact ⟨rfl, G2⟩
  · go_enter Try.func22, Try.ntmps22
    go_wp2_with fail
    refine (HP _ (gbRefl w none)).mono ?_
    rintro e w1 ⟨rfl, g1⟩
    go_upto_region 2 with fail
    obtain ⟨W1, hW1, Y, h1⟩ := boxNew w1 ⟨u, true, A⟩ 69
    simp only at hW1
    rw [hW1]
    clear hW1
    have G1 := gbTrans g1 h1
    obtain ⟨z0, z1, z2, zt, zf⟩ := id Y
    simp only at z0 z1 z2
    go_wp2_with fail
    refine (HS _).mono ?_
    rintro e w2 ⟨rfl, g2⟩
    clear z0 z1 z2 zt zf
    have G2 := gbTrans G1 g2
    replace Y := Y.kept g2
    obtain ⟨z0, z1, z2, zt, zf⟩ := Y
    simp only at z0 z1 z2
    go_wp2
    go_ret2
    exact ⟨rfl, G2⟩

/-! ### Where a walk leads, in numbers -/
theorem M.up_ok {W : Nat} {c : E} (h : M.up W = (c, 0)) : ∃ P : Nat, c.a = ((16 * P : Nat) : Int) ∧ P < 4096 := by
  by_cases h0 : W = 0
  · subst h0
    rw [M.up_zero] at h
    simp only [Prod.mk.injEq, and_true] at h
    exact ⟨0, by rw [← h]; rfl, by omega⟩
  · by_cases hc : W % 2 = 1 ∧ W < 65536 ∧ W / 4 % 4 = 0
    · rw [M.up_odd hc.1 hc.2.1 hc.2.2] at h
      simp only [Prod.mk.injEq, and_true] at h
      refine ⟨W / 16, ?_, by omega⟩
      rw [← h]
      simp only
      omega
    · rw [M.up_no h0 hc] at h
      simp at h

theorem M.lv_ok {n : Nat} {F : Nat → Nat} {x : Nat} {c : E} (h : M.lv n F x = (c, true)) : c.v = true ∧ M.up (F x) = (c, 0) ∧ ∃ P : Nat, c.a = ((16 * P : Nat) : Int) ∧ 16 * P + 16 ≤ n := by
  unfold M.lv at h
  simp only [Prod.mk.injEq, Bool.and_eq_true, beq_iff_eq] at h
  obtain ⟨e, ⟨h1, h2⟩, h3⟩ := h
  rw [e] at h2 h3
  have hu : M.up (F x) = (c, 0) := Prod.ext e h1
  obtain ⟨P, hP, _⟩ := M.up_ok hu
  obtain ⟨A, hA, hA'⟩ := M.th_nat h3
  exact ⟨h2, hu, P, hP, by omega⟩

/-- The ways of Page. -/
theorem M.pe_ok {n : Nat} {F : Nat → Nat} {dir a : Int} {c : E} (h : M.pe n F dir a = (c, 0)) :
    ∃ (A D P Q : Nat) (c1 : E), a = (A : Int) ∧ A < 4096 ∧ dir = (D : Int) ∧ D % 16 = 0 ∧ D + 16 ≤ n ∧ M.lv n F (D + A / 256) = (c1, true) ∧ c1.w = false ∧ c1.a = ((16 * P : Nat) : Int) ∧ 16 * P + 16 ≤ n ∧
      M.lv n F (16 * P + A / 16 % 16) = (c, true) ∧ c.a = ((16 * Q : Nat) : Int) ∧ 16 * Q + 16 ≤ n := by
  unfold M.pe at h
  by_cases c1 : M.isA a = false
  · rw [if_pos c1] at h
    simp at h
  rw [if_neg c1] at h
  obtain ⟨A, rfl, hA⟩ := M.isA_nat (by simpa using c1)
  by_cases c2 : (dir % 16 == 0 && M.th n dir) = false
  · rw [if_pos c2] at h
    simp at h
  rw [if_neg c2] at h
  simp only [Bool.not_eq_false, Bool.and_eq_true, beq_iff_eq] at c2
  obtain ⟨c2, c3⟩ := c2
  obtain ⟨D, rfl, hD⟩ := M.th_nat c3
  have k1 : ((D : Int) + (A : Int) / 256).toNat = D + A / 256 := by omega
  rw [k1] at h
  obtain ⟨⟨e1, o⟩, h1⟩ : ∃ q, M.lv n F (D + A / 256) = q := ⟨_, rfl⟩
  rw [h1] at h
  simp only at h
  by_cases c4 : (o && !e1.w) = false
  · rw [if_pos c4] at h
    simp at h
  rw [if_neg c4] at h
  simp only [Bool.not_eq_false, Bool.and_eq_true, Bool.not_eq_true'] at c4
  obtain ⟨rfl, c4⟩ := c4
  obtain ⟨_, _, P, hP, hP'⟩ := M.lv_ok h1
  have k2 : (e1.a + (A : Int) / 16 % 16).toNat = 16 * P + A / 16 % 16 := by omega
  rw [k2] at h
  obtain ⟨⟨e2, o2⟩, h2⟩ : ∃ q, M.lv n F (16 * P + A / 16 % 16) = q := ⟨_, rfl⟩
  rw [h2] at h
  simp only at h
  by_cases c5 : o2 = false
  · rw [if_pos c5] at h
    simp at h
  rw [if_neg c5] at h
  simp only [Prod.mk.injEq, and_true] at h
  subst h
  obtain rfl : o2 = true := by simpa using c5
  obtain ⟨_, _, Q, hQ, hQ'⟩ := M.lv_ok h2
  exact ⟨A, D, P, Q, e1, rfl, hA, rfl, by omega, hD, h1, c4, hP, hP', h2, hQ, hQ'⟩

theorem M.to_ok {n : Nat} {F : Nat → Nat} {dir a : Int} {wr : Bool} {x : Int} (h : M.to n F dir a wr = (x, 0)) :
    ∃ (c : E) (A Q : Nat), M.pe n F dir a = (c, 0) ∧ (wr && !c.w) = false ∧ a = (A : Int) ∧ c.a = ((16 * Q : Nat) : Int) ∧ 16 * Q + 16 ≤ n ∧ x = ((16 * Q + A % 16 : Nat) : Int) := by
  unfold M.to at h
  obtain ⟨⟨c, f⟩, hp⟩ : ∃ q, M.pe n F dir a = q := ⟨_, rfl⟩
  rw [hp] at h
  simp only at h
  by_cases c1 : f = 0
  · subst c1
    rw [if_pos rfl] at h
    by_cases c2 : (wr && !c.w) = true
    · rw [if_pos c2] at h
      simp at h
    · rw [if_neg c2] at h
      obtain ⟨A, D, P, Q, e1, rfl, hA, rfl, hD, hD', h1, h1w, hP, hP', h2, hQ, hQ'⟩ := M.pe_ok hp
      simp only [Prod.mk.injEq, and_true] at h
      refine ⟨c, A, Q, hp, by simpa using c2, rfl, hQ, hQ', ?_⟩
      omega
  · rw [if_neg c1] at h
    simp only [Prod.mk.injEq] at h
    exact absurd h.2 c1

theorem M.to_no {n : Nat} {F : Nat → Nat} {dir a : Int} {wr : Bool} {x f : Int} (h : M.to n F dir a wr = (x, f)) (hf : f ≠ 0) : x = 0 := by
  unfold M.to at h
  by_cases c1 : (M.pe n F dir a).2 = 0
  · rw [if_pos c1] at h
    by_cases c2 : (wr && !(M.pe n F dir a).1.w) = true
    · rw [if_pos c2] at h
      simp only [Prod.mk.injEq] at h
      exact h.1.symm
    · rw [if_neg c2] at h
      simp only [Prod.mk.injEq] at h
      exact absurd h.2.symm hf
  · rw [if_neg c1] at h
    simp only [Prod.mk.injEq] at h
    exact h.1.symm

theorem M.to_lt {n : Nat} {F : Nat → Nat} {dir a : Int} {wr : Bool} {x : Int} (h : M.to n F dir a wr = (x, 0)) : ∃ X : Nat, x = (X : Int) ∧ X < n := by
  obtain ⟨c, A, Q, _, _, _, _, hQ', hy⟩ := M.to_ok h
  exact ⟨16 * Q + A % 16, hy, by omega⟩

/-- Load: the word, and the error. -/
def M.ld (n : Nat) (F : Nat → Nat) (dir a : Int) : Nat × Int := if (M.to n F dir a false).2 = 0 then (F (M.to n F dir a false).1.toNat, 0) else (0, (M.to n F dir a false).2)
/-- The words behind a Store. -/
def M.sw (n : Nat) (F : Nat → Nat) (dir a : Int) (v : Nat) : Nat → Nat := fun i => if (M.to n F dir a true).2 = 0 ∧ i = (M.to n F dir a true).1.toNat then v else F i

/-- To's answer, whatever comes in. -/
theorem to_is (w : World) (p b n : Nat) (F : Nat → Nat) (dir a : Int) (wr : Bool) (x f : Int) (hm : Mm w p b n F) (h : M.to n F dir a wr = (x, f)) :
    Calls Try.prog 22 #[.pointer (some ⟨p, 0, none⟩), .int .i64 dir, .int .i64 a, .bool wr] w fun e w' => e = .returned (.tuple #[.int .i64 x, .int .i64 f]) ∧ w.grownBy w' none := by
  have hn := hm.is.hi
  obtain ⟨⟨⟨u, v, B⟩, g⟩, hp⟩ : ∃ q, M.pe n F dir a = q := ⟨_, rfl⟩
  have HP := fun w' (k : w.grownBy w' none) => page_is w' p b n F dir a _ _ (hm.kept k) hp
  have h0 := h
  unfold M.to at h
  rw [hp] at h
  simp only at h
  by_cases c1 : g = 0
  · subst c1
    rw [if_pos rfl] at h
    by_cases c2 : (wr && !v) = true
    · rw [if_pos c2] at h
      simp only [Prod.mk.injEq] at h
      obtain ⟨rfl, rfl⟩ := h
      obtain ⟨rfl, rfl⟩ : wr = true ∧ v = false := by revert c2; cases wr <;> cases v <;> simp
      exact to_rights p dir a u B w HP
    · rw [if_neg c2] at h
      simp only [Prod.mk.injEq] at h
      obtain ⟨hx, rfl⟩ := h
      obtain ⟨c, A, Q, hp', _, rfl, hQ, hQ', hx'⟩ := M.to_ok h0
      obtain ⟨A', _, _, _, _, hA', hA, _⟩ := M.pe_ok hp
      have HS := fun w' => split_is (A : Int) _ _ _ _ (by rw [M.sp, if_pos (by simp [M.isA]; omega)]) w'
      exact to_yes p dir _ _ _ _ u v wr B x w (by revert c2; cases wr <;> cases v <;> simp) hx (by omega) (by omega) HP HS
  · rw [if_neg c1] at h
    simp only [Prod.mk.injEq] at h
    obtain ⟨rfl, rfl⟩ := h
    exact to_err p dir a g u v wr B w (by simp [c1]) HP

theorem Mm.says {w : World} {p b n : Nat} {F G : Nat → Nat} (h : Mm w p b n F) (e : ∀ i, F i = G i) : Mm w p b n G := by
  rwa [show G = F from funext fun i => (e i).symm]
theorem Mm.put {w : World} {p b n : Nat} {F : Nat → Nat} (h : Mm w p b n F) (x v : Nat) (hx : x < n) (hv : v < 18446744073709551616) :
    Calls Try.prog 25 #[.pointer (some ⟨p, 0, none⟩), .int .i64 x, .int .u64 v] w fun e w' => e = .returned (.int .i64 0) ∧ Mm w' p b n (fun i => if i = x then v else F i) ∧ w.grownBy w' (some b) :=
  (Y2.put_yes w p b n x v _ h.is hx).mono fun _ _ ⟨e, m, g⟩ => ⟨e, ⟨by
    have : (fun i => if i = x then (v : Int) else (F i : Int)) = (fun i => ((if i = x then v else F i : Nat) : Int)) := by
      funext i
      split <;> rfl
    rw [← this]
    exact m, fun i => by
      show (if i = x then v else F i) < _
      split
      · exact hv
      · exact h.lt i⟩, g⟩

end Go.Proofs.Ytfdnangceomeiaa
