/-
  WHAT RevokeOthers HAS: the capabilities, their slots as lists, and a map of what they were. Speaks of no function of the program.
-/
import Derived.Test.YtpfjcfgbecoccaaCmap
namespace Go.Proofs.Ytpfjcfgbecoccaa
set_option maxRecDepth 10000
open Go.RowKit
set_option linter.unusedVariables false
namespace M
theorem rev_all {S : St} {f : T9.Fo} (I : Inv S f) (G : Good S) (N : T9.Good f) {a : Int × Int} (ha : (gc S a).k ≠ 0) (s : Sm S f a) (hm : f.len ≤ 1000) {q : Bool} {y : X} (hr : revR S f a 1000 = (q, y)) : q = false ∧ y.T = [] ∧ (∀ z, gc y.S z = if z ∈ f.kin a then C.zero else gc S z) ∧ (∀ z, M.th y.S z = M.th S z) ∧ Ok y := by
  unfold revR at hr
  have hkl := kin_len f a
  have ok : Ok ⟨S, f, 1000, []⟩ := ⟨I, G, N⟩
  have R := rvk_same (f.len + 1) ⟨S, f, 1000, []⟩ a ok ha s (by show (f.kin a).length < f.len + 1; omega)
  have K := rvk_kp (f.len + 1) ⟨S, f, 1000, []⟩ a ok
  have hr' : rvk (f.len + 1) ⟨S, f, 1000, []⟩ a = (q, y) := hr
  rw [hr'] at R K
  have hq := R.q
  have hg := R.gc
  simp only at hq hg
  rw [show (f.kin a).length - 1000 = 0 by omega, List.drop_zero] at hg
  exact ⟨by rw [hq]; simp; omega, R.T, hg, R.th, K.ok⟩
/-- What the map has behind so many. -/
def wasM (S : St) (F : List (Int × Int)) (j : Nat) (n i : Int) : Option C := if (n, i) ∈ F.take j then some (gc S (n, i)) else none
theorem wasM_next {S : St} {F : List (Int × Int)} {j : Nat} {a b : Int} (h : F[j]? = some (a, b)) (n i : Int) : (if n = a ∧ i = b then some (gc S (a, b)) else wasM S F j n i) = wasM S F (j + 1) n i := by
  unfold wasM
  rw [List.take_add_one, h]
  by_cases e : n = a ∧ i = b
  · rw [if_pos e, e.1, e.2]; simp
  · rw [if_neg e]
    have : ¬ (n, i) = (a, b) := fun k => e (by simpa using k)
    simp [this]
end M
structure Ot (w wr : World) (O : Nat → Prop) (p s t m : Nat) (S : St) (f : T9.Fo) (X : Nat) (A B : Int) (vk : Value) (K : List (Int × Int)) (vf : Value) (F : List (Int × Int)) (mb j : Nat) (Fm : Int → Int → Option C) : Prop where
  cs : Cs w wr O p s t m S f
  sb : SB wr O X A B
  lk : LB wr O vk K
  lf : LB wr O vf F
  mp : CMap wr mb j Fm
  no : ¬ O mb
  nx : X ≠ mb
  nk : vk.ownBlock ≠ some mb
  nf : vf.ownBlock ≠ some mb
  lo : w.heap.size ≤ mb
namespace Ot
variable {w wr wd : World} {O Od : Nat → Prop} {p s t m : Nat} {S S' : St} {f f' : T9.Fo} {X : Nat} {A B : Int} {vk : Value} {K : List (Int × Int)} {vf : Value} {F : List (Int × Int)} {mb j j' : Nat} {Fm Fm' : Int → Int → Option C}
theorem kept (h : Ot w wr O p s t m S f X A B vk K vf F mb j Fm) (g : wr.grownBy wd none) : Ot w wd O p s t m S f X A B vk K vf F mb j Fm :=
  ⟨h.cs.kept g, h.sb.kept g, h.lk.kept g, h.lf.kept g, h.mp.fr (Fr.grown (O := fun _ => False) g) (fun e => e), h.no, h.nx, h.nk, h.nf, h.lo⟩
theorem map (h : Ot w wr O p s t m S f X A B vk K vf F mb j Fm) (g : wr.grownBy wd (some mb)) (mp : CMap wd mb j' Fm') : Ot w wd O p s t m S f X A B vk K vf F mb j' Fm' :=
  ⟨h.cs.keep g h.no h.lo, h.sb.keep g h.nx, ⟨h.lk.ls.block (fun k hk => g.block k (h.lk.ls.lt k hk).2 (fun e => h.nk (by cases e; exact hk))), h.lk.no⟩, ⟨h.lf.ls.block (fun k hk => g.block k (h.lf.ls.lt k hk).2 (fun e => h.nf (by cases e; exact hk))), h.lf.no⟩, mp, h.no, h.nx, h.nk, h.nf, h.lo⟩
theorem call (h : Ot w wr O p s t m S f X A B vk K vf F mb j Fm) (C : Cs w wd Od p s t m S' f') (F' : Fr O wr wd) (hs : ∀ i, Od i → O i ∨ wr.heap.size ≤ i) : Ot w wd Od p s t m S' f' X A B vk K vf F mb j Fm :=
  ⟨C, h.sb.call' F' hs, h.lk.call' F' hs, h.lf.call' F' hs, h.mp.fr F' h.no, fun e => by
    rcases hs mb e with e | e
    · exact h.no e
    · have := h.mp.lt; omega, h.nx, h.nk, h.nf, h.lo⟩
end Ot
theorem M.take_dec (K : List (Int × Int)) (c : Nat) (x y : Int × Int) (h : K[c]? = some y) : decide (x ∈ K.take (c + 1)) = (decide (x ∈ K.take c) || decide (y = x)) := by
  rw [List.take_add_one, h]
  by_cases e : x ∈ K.take c
  · simp [e]
  · by_cases e2 : y = x
    · simp [e, e2]
    · have : ¬ x = y := fun k => e2 k.symm
      simp [e, e2, this]
end Go.Proofs.Ytpfjcfgbecoccaa
