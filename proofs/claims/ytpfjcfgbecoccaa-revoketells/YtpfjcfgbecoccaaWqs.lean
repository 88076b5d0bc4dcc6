/-
  WHAT HOLDS BEHIND A CALL THAT TAKES AWAY, PLAINLY; the numbers of donjonlaw11's works.
-/
import Derived.Test.YtpfjcfgbecoccaaSamc
namespace Go.Proofs.Ytpfjcfgbecoccaa
set_option maxRecDepth 10000
set_option linter.unusedVariables false

namespace M
/-- What is kept by whatever is taken away. -/
structure Kp (x y : X) : Prop where
  ok : Ok y
  gc : ∀ s, M.gc y.S s = M.gc x.S s ∨ M.gc y.S s = C.zero
  len : y.f.len + x.l = x.f.len + y.l
  le : y.l ≤ x.l
  tl : y.T.length + y.l ≤ x.T.length + x.l
theorem Kp.refl {x : X} (h : Ok x) : Kp x x := ⟨h, fun _ => .inl rfl, rfl, Nat.le_refl _, Nat.le_refl _⟩
theorem Kp.trans {x y z : X} (h : Kp x y) (k : Kp y z) : Kp x z := by
  refine ⟨k.ok, fun s => ?_, ?_, Nat.le_trans k.le h.le, Nat.le_trans k.tl h.tl⟩
  · rcases k.gc s with e | e
    · rw [e]; exact h.gc s
    · exact .inr e
  · have := h.len; have := k.len; omega
theorem away_kp {n : Nat} {x : X} {a : Int × Int} {L : List (Int × Int)} (h : Ok x) (ha : (gc x.S a).k ≠ 0) (hL : a ∉ L) (hn : free x.f L ≤ n) : Kp x (away n x a L).2 := by
  have g := away_ok n x a L h ha hL hn
  exact ⟨g.ok, g.gc, g.len, g.le, away_T n x a L⟩
theorem kin_full {x : X} (h : Ok x) {a b : Int × Int} (hb : (x.f.kin a).getLast? = some b) : (gc x.S b).k ≠ 0 := h.mem.1 (kin_pre (List.mem_of_getLast? hb))
theorem rvk_kp : ∀ (n : Nat) (x : X) (a : Int × Int), Ok x → Kp x (rvk n x a).2
  | 0, x, a, h => Kp.refl h
  | n + 1, x, a, h => by
    cases hk : (x.f.kin a).getLast? with
    | none => rw [rvk_none hk]; exact Kp.refl h
    | some b =>
      rw [rvk_some hk]
      have g := away_kp (n := x.f.len) (L := []) h (kin_full h hk) (by simp) (by rw [free_nil]; exact Nat.le_refl _)
      generalize away x.f.len x b [] = r at g
      obtain ⟨q, y⟩ := r
      cases q with
      | true => exact g
      | false => exact Kp.trans g (rvk_kp n y a g.ok)
theorem delR_kp {S : St} {f : T9.Fo} (I : Inv S f) (G : Good S) (N : T9.Good f) {a : Int × Int} {l : Int} (ha : (gc S a).k ≠ 0) : Kp ⟨S, f, l.toNat, []⟩ (delR S f a l).2 := away_kp ⟨I, G, N⟩ ha (by simp) (by rw [free_nil]; exact Nat.le_refl _)
theorem revR_kp {S : St} {f : T9.Fo} (I : Inv S f) (G : Good S) (N : T9.Good f) (a : Int × Int) (l : Int) : Kp ⟨S, f, l.toNat, []⟩ (revR S f a l).2 := rvk_kp _ _ _ ⟨I, G, N⟩
theorem Kp.len_le {x y : X} (h : Kp x y) : y.f.len ≤ x.f.len := by have := h.len; have := h.le; omega
end M

namespace Wq
def c0 : C := ⟨6, 9, 3, 0, 0, 0⟩
def S2 : St := M.plaS Wk.S1 (0, 0) c0
def f2 : T9.Fo := M.plaF Wk.S1 .nil (0, 0) c0
def S3 : St := M.copS S2 (0, 0) (0, 1) 3
def f3 : T9.Fo := M.copF S2 f2 (0, 0) (0, 1) 3
def S4 : St := M.copS S3 (0, 1) (0, 2) 1
def f4 : T9.Fo := M.copF S3 f3 (0, 1) (0, 2) 1
theorem I2 : M.Inv S2 f2 := Wk.I1.pla (0, 0) (by decide) (by decide)
theorem I3 : M.Inv S3 f3 := I2.cop (0, 0) (0, 1) 3
theorem I4 : M.Inv S4 f4 := I3.cop (0, 1) (0, 2) 1
theorem e2 : M.plaE Wk.S1 (0, 0) ⟨6, 9, 3, 0, 0, 0⟩ = 0 := by decide +kernel
theorem e3 : M.copE S2 (0, 0) (0, 1) 3 = 0 := by decide +kernel
theorem e4 : M.copE S3 (0, 1) (0, 2) 1 = 0 := by decide +kernel
theorem l2 : f2.len ≤ 1000 := by decide +kernel
theorem l3 : f3.len ≤ 1000 := by decide +kernel
theorem l4 : f4.len ≤ 1000 := by decide +kernel
theorem n4 : M.fin S4 (0, 0) = false := by decide +kernel
theorem r5 : M.faceE S4 (0, 0) 1 = 0 := by decide +kernel
def X5 : M.X := (M.revR S4 f4 (0, 0) 1).2
theorem q5 : (M.revR S4 f4 (0, 0) 1).1 = true := by decide +kernel
theorem h5 : M.revR S4 f4 (0, 0) 1 = (true, X5) := Prod.ext q5 rfl
theorem l5 : X5.f.len ≤ 1000 := by decide +kernel
theorem r6 : M.faceE X5.S (0, 0) 1 = 0 := by decide +kernel
def X6 : M.X := (M.revR X5.S X5.f (0, 0) 1).2
theorem q6 : (M.revR X5.S X5.f (0, 0) 1).1 = false := by decide +kernel
theorem h6 : M.revR X5.S X5.f (0, 0) 1 = (false, X6) := Prod.ext q6 rfl
theorem l6 : X6.f.len ≤ 1000 := by decide +kernel
theorem n6 : M.fin X6.S (0, 0) = true := by decide +kernel
theorem r7 : M.faceE X6.S (0, 0) 9 = 0 := by decide +kernel
def X7 : M.X := (M.delR X6.S X6.f (0, 0) 9).2
theorem q7 : (M.delR X6.S X6.f (0, 0) 9).1 = false := by decide +kernel
theorem h7 : M.delR X6.S X6.f (0, 0) 9 = (false, X7) := Prod.ext q7 rfl
theorem t7 : X7.T = [c0] := by kernel_rfl
theorem u7 : M.full X7.S = [] := by decide +kernel
end Wq
end Go.Proofs.Ytpfjcfgbecoccaa
