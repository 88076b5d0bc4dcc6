/-
  THE CONTRACTS of the document's own To, Load and Store.
-/
import Derived.Test.YtgneacfiabpfmaaRpg
namespace Go.Proofs.Ytgneacfiabpfmaa
open Go.RowKit
set_option linter.unusedVariables false

set_option maxHeartbeats 1000000 in
theorem rto_err (p : Nat) (dir a f : Int) (u v wr : Bool) (A : Int) (w : World) (h : (f != 0) = true)
    (HP : ∀ w', w.grownBy w' none → Calls Try.prog 9 #[.pointer (some ⟨p, 0, none⟩), .int .i64 dir, .int .i64 a] w' fun e w'' => e = .returned (.tuple #[ev ⟨u, v, A⟩, .int .i64 f]) ∧ w'.grownBy w'' none) :
    Calls Try.prog 11 #[.pointer (some ⟨p, 0, none⟩), .int .i64 dir, .int .i64 a, .bool wr] w fun e w' => e = .returned (.tuple #[.int .i64 0, .int .i64 f]) ∧ w.grownBy w' none := by
  go_enter Try.func11, Try.ntmps11
  go_wp2_with fail
  refine (HP _ (gbRefl w none)).mono ?_
  rintro e w1 ⟨rfl, g1⟩
  go_wp2
  go_ret2
  exact ⟨rfl, gbAllocN g1 _⟩

set_option maxHeartbeats 1000000 in
theorem rto_rights (p : Nat) (dir a : Int) (u : Bool) (A : Int) (w : World)
    (HP : ∀ w', w.grownBy w' none → Calls Try.prog 9 #[.pointer (some ⟨p, 0, none⟩), .int .i64 dir, .int .i64 a] w' fun e w'' => e = .returned (.tuple #[ev ⟨u, false, A⟩, .int .i64 0]) ∧ w'.grownBy w'' none) :
    Calls Try.prog 11 #[.pointer (some ⟨p, 0, none⟩), .int .i64 dir, .int .i64 a, .bool true] w fun e w' => e = .returned (.tuple #[.int .i64 0, .int .i64 5]) ∧ w.grownBy w' none := by
  go_enter Try.func11, Try.ntmps11
  go_wp2_with fail
  refine (HP _ (gbRefl w none)).mono ?_
  rintro e w1 ⟨rfl, g1⟩
  go_upto_region 2 with fail
  obtain ⟨W1, hW1, Y, h1⟩ := boxNew w1 ⟨u, false, A⟩ 33
  simp only at hW1
  rw [hW1]
  clear hW1
  have G1 := gbTrans g1 h1
  obtain ⟨z0, z1, z2, zt, zf⟩ := Y
  simp only at z0 z1 z2
  go_wp2
  go_ret2
  exact ⟨rfl, G1⟩

set_option maxHeartbeats 1000000 in
theorem rto_yes (p : Nat) (dir a x y z : Int) (u v wr : Bool) (A X : Int) (w : World) (h : wr = false ∨ (wr = true ∧ v = true)) (e1 : A + z = X) (x0 : 0 ≤ X) (x1 : X ≤ 65536)
    (HP : ∀ w', w.grownBy w' none → Calls Try.prog 9 #[.pointer (some ⟨p, 0, none⟩), .int .i64 dir, .int .i64 a] w' fun e w'' => e = .returned (.tuple #[ev ⟨u, v, A⟩, .int .i64 0]) ∧ w'.grownBy w'' none)
    (HS : ∀ w', Calls Try.prog 26 #[.int .i64 a] w' fun e w'' => e = .returned (.tuple #[.int .i64 x, .int .i64 y, .int .i64 z, .int .i64 0]) ∧ w'.grownBy w'' none) :
    Calls Try.prog 11 #[.pointer (some ⟨p, 0, none⟩), .int .i64 dir, .int .i64 a, .bool wr] w fun e w' => e = .returned (.tuple #[.int .i64 X, .int .i64 0]) ∧ w.grownBy w' none := by
  rcases h with rfl | ⟨rfl, rfl⟩
  · go_enter Try.func11, Try.ntmps11
    go_wp2_with fail
    refine (HP _ (gbRefl w none)).mono ?_
    rintro e w1 ⟨rfl, g1⟩
    go_upto_region 2 with fail
    obtain ⟨W1, hW1, Y, h1⟩ := boxNew w1 ⟨u, v, A⟩ 33
    simp only at hW1
    rw [hW1]
    clear hW1
    have G1 := gbTrans g1 h1
    go_wp2_with fail
    refine (HS _).mono ?_
    rintro e w2 ⟨rfl, g2⟩
    have G2 := gbTrans G1 g2
    replace Y := Y.kept g2
    obtain ⟨z0, z1, z2, zt, zf⟩ := Y
    simp only at z0 z1 z2
    go_wp2
    go_ret2
    exact ⟨rfl, G2⟩
  · go_enter Try.func11, Try.ntmps11
    go_wp2_with fail
    refine (HP _ (gbRefl w none)).mono ?_
    rintro e w1 ⟨rfl, g1⟩
    go_upto_region 2 with fail
    obtain ⟨W1, hW1, Y, h1⟩ := boxNew w1 ⟨u, true, A⟩ 33
    simp only at hW1
    rw [hW1]
    clear hW1
    have G1 := gbTrans g1 h1
    obtain ⟨z0, z1, z2, zt, zf⟩ := id Y
    simp only at z0 z1 z2
    go_wp2_with fail
    refine (HS _).mono ?_
    rintro e w2 ⟨rfl, g2⟩
    clear z0 z1 z2 zt zf
    have G2 := gbTrans G1 g2
    replace Y := Y.kept g2
    obtain ⟨z0, z1, z2, zt, zf⟩ := Y
    simp only at z0 z1 z2
    go_wp2
    go_ret2
    exact ⟨rfl, G2⟩

/-- To's answer, whatever comes in. -/
theorem rto_is (w : World) (p b n : Nat) (F : Nat → Nat) (dir a : Int) (wr : Bool) (x f : Int) (hm : Rm w p b n F) (h : M.to n F dir a wr = (x, f)) :
    Calls Try.prog 11 #[.pointer (some ⟨p, 0, none⟩), .int .i64 dir, .int .i64 a, .bool wr] w fun e w' => e = .returned (.tuple #[.int .i64 x, .int .i64 f]) ∧ w.grownBy w' none := by
  have hn := hm.is.hi
  obtain ⟨⟨⟨u, v, B⟩, g⟩, hp⟩ : ∃ q, M.pe n F dir a = q := ⟨_, rfl⟩
  have HP := fun w' (k : w.grownBy w' none) => rpage_is w' p b n F dir a _ _ (hm.kept k) hp
  have h0 := h
  unfold M.to at h
  rw [hp] at h
  simp only at h
  by_cases c1 : g = 0
  · subst c1
    rw [if_pos rfl] at h
    by_cases c2 : (wr && !v) = true
    · rw [if_pos c2] at h
      simp only [Prod.mk.injEq] at h
      obtain ⟨rfl, rfl⟩ := h
      obtain ⟨rfl, rfl⟩ : wr = true ∧ v = false := by revert c2; cases wr <;> cases v <;> simp
      exact rto_rights p dir a u B w HP
    · rw [if_neg c2] at h
      simp only [Prod.mk.injEq] at h
      obtain ⟨hx, rfl⟩ := h
      obtain ⟨c, A, Q, hp', _, rfl, hQ, hQ', hx'⟩ := M.to_ok h0
      obtain ⟨A', _, _, _, _, hA', hA, _⟩ := M.pe_ok hp
      have HS := fun w' => rsplit_is (A : Int) _ _ _ _ (by rw [M.sp, if_pos (by simp [M.isA]; omega)]) w'
      exact rto_yes p dir _ _ _ _ u v wr B x w (by revert c2; cases wr <;> cases v <;> simp) hx (by omega) (by omega) HP HS
  · rw [if_neg c1] at h
    simp only [Prod.mk.injEq] at h
    obtain ⟨rfl, rfl⟩ := h
    exact rto_err p dir a g u v wr B w (by simp [c1]) HP

set_option maxHeartbeats 400000 in
theorem rload_is (w : World) (p b n : Nat) (F : Nat → Nat) (dir a : Int) (x : Nat) (f : Int) (hm : Rm w p b n F) (h : M.ld n F dir a = (x, f)) :
    Calls Try.prog 16 #[.pointer (some ⟨p, 0, none⟩), .int .i64 dir, .int .i64 a] w fun e w' => e = .returned (.tuple #[.int .u64 (x : Int), .int .i64 f]) ∧ w.grownBy w' none := by
  obtain ⟨⟨y, g⟩, ht⟩ : ∃ q, M.to n F dir a false = q := ⟨_, rfl⟩
  have HT := fun w' (k : w.grownBy w' none) => rto_is w' p b n F dir a false y g (hm.kept k) ht
  unfold M.ld at h
  rw [ht] at h
  simp only at h
  have hn := hm.is.hi
  by_cases c1 : g = 0
  · subst c1
    rw [if_pos rfl] at h
    simp only [Prod.mk.injEq] at h
    obtain ⟨rfl, rfl⟩ := h
    obtain ⟨X, rfl, hX⟩ := M.to_lt ht
    have HM := hideIt hm
    rw [show ((X : Int)).toNat = X from by simp]
    clear ht hm
    go_enter Try.func16, Try.ntmps16
    go_wp2_with fail
    refine (HT _ (gbRefl w none)).mono ?_
    rintro e w1 ⟨rfl, g1⟩
    have hc := (HM.out.kept g1).is.cell
    have hk := (HM.out.kept g1).is.row.cell hX
    go_wp2
    go_ret2
    exact ⟨rfl, g1⟩
  · rw [if_neg c1] at h
    simp only [Prod.mk.injEq] at h
    obtain ⟨rfl, rfl⟩ := h
    have c2 : (g != 0) = true := by simp [c1]
    clear ht hm c1
    go_enter Try.func16, Try.ntmps16
    go_wp2_with fail
    refine (HT _ (gbRefl w none)).mono ?_
    rintro e w1 ⟨rfl, g1⟩
    go_wp2
    go_ret2
    exact ⟨rfl, g1⟩

set_option maxHeartbeats 400000 in
theorem rstore_is (w : World) (p b n : Nat) (F : Nat → Nat) (dir a : Int) (v : Nat) (x f : Int) (hm : Rm w p b n F) (hv : v < 18446744073709551616) (h : M.to n F dir a true = (x, f)) :
    Calls Try.prog 14 #[.pointer (some ⟨p, 0, none⟩), .int .i64 dir, .int .i64 a, .int .u64 v] w fun e w' => e = .returned (.int .i64 f) ∧ Rm w' p b n (M.sw n F dir a v) ∧ w.grownBy w' (some b) := by
  have HT := fun w' (k : w.grownBy w' none) => rto_is w' p b n F dir a true x f (hm.kept k) h
  have hn := hm.is.hi
  by_cases c1 : f = 0
  · subst c1
    obtain ⟨X, rfl, hX⟩ := M.to_lt h
    have HF : ∀ i, (if i = X then v else F i) = M.sw n F dir a v i := fun i => by simp [M.sw, h]
    replace HF := hideIt HF
    have HM := hideIt hm
    clear h hm
    go_enter Try.func14, Try.ntmps14
    go_wp2_with fail
    refine (HT _ (gbRefl w none)).mono ?_
    rintro e w1 ⟨rfl, g1⟩
    have hc := (HM.out.kept g1).is.cell
    have hk := (HM.out.kept g1).is.row.cell hX
    have hf := (HM.out.kept g1).is.row.frozen X
    go_wp2
    go_ret
    exact ⟨rfl, ((HM.out.kept g1).put X v hv).says HF.out, gbTrans (gbAny g1 _) (gbSetCell _ _ _ _)⟩
  · have c2 : (f == 0) = false := by simp [c1]
    have hm1 : Rm w p b n (M.sw n F dir a v) := hm.says (fun i => by simp [M.sw, h, c1])
    replace hm1 := hideIt hm1
    clear h hm c1
    go_enter Try.func14, Try.ntmps14
    go_wp2_with fail
    refine (HT _ (gbRefl w none)).mono ?_
    rintro e w1 ⟨rfl, g1⟩
    go_wp2
    go_ret
    exact ⟨rfl, hm1.out.kept g1, gbAny g1 _⟩

set_option maxHeartbeats 400000 in
theorem from_any (v o : Bool) (a : Int) (w : World) : Calls Try.prog 12 #[ev ⟨v, o, a⟩] w fun e w' => e = .returned (ev ⟨v, o, a⟩) ∧ w.grownBy w' none := by
  have G0 := gbAlloc w (.cells #[.bool v, .bool o, .int .i64 a] 29) none
  have G1 := gbAllocN G0 (.cells #[.bool v, .bool o, .int .i64 a] 33)
  go_enter Try.func12, Try.ntmps12
  go_wp2
  exact bodyPost_ret (v := ev ⟨v, o, a⟩) (by simp [results, Try.results12, go_sem]) rfl ⟨rfl, G1⟩
end Go.Proofs.Ytgneacfiabpfmaa
