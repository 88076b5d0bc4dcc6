/-
  ONE CALL OF DELETE OR REVOKE, PLAINLY: what is left behind it (RevokeEnds, RevokeTells). Speaks of no function of the program.
-/
import Derived.Test.YtpfjcfgbecoccaaMade
namespace Go.Proofs.Ytpfjcfgbecoccaa
set_option maxRecDepth 10000
set_option linter.unusedVariables false
namespace M
theorem full_len_pre {S : St} {f : T9.Fo} (I : Inv S f) (G : Good S) (N : T9.Good f) : (full S).length = f.len := by
  have h1 := subs_len (full S) f.pre (full_nodup S) (fun y hy => (I.inv y).2 ((mem_full G y).1 hy))
  have h2 := subs_len f.pre (full S) N.nd (fun y hy => (mem_full G y).2 ((I.inv y).1 hy))
  unfold T9.Fo.len
  omega
/-- What is left behind a Delete. -/
structure Dl (S : St) (f : T9.Fo) (a : Int × Int) (l : Nat) (q : Bool) (y : X) : Prop where
  ok : Ok y
  le : y.f.len ≤ f.len
  more : q = true → gc y.S a = gc S a ∧ y.f.len + l = f.len
  done : q = false → gc y.S a = C.zero
theorem del_one {S : St} {f : T9.Fo} (I : Inv S f) (G : Good S) (N : T9.Good f) {a : Int × Int} (ha : (gc S a).k ≠ 0) {l : Nat} {q : Bool} {y : X} (hr : delR S f a (l : Int) = (q, y)) : Dl S f a l q y := by
  unfold delR at hr
  rw [Int.toNat_natCast] at hr
  have g := away_ok f.len ⟨S, f, l, []⟩ a [] ⟨I, G, N⟩ ha (by simp) (by rw [free_nil]; exact Nat.le_refl _)
  rw [hr] at g
  have h2 := g.len
  have h3 := g.le
  simp only at h2 h3
  refine ⟨g.ok, by omega, fun e => ⟨(g.more e).2, ?_⟩, g.done⟩
  have h1 := (g.more e).1
  simp only at h1
  omega
/-- What is left behind a Revoke, where all is of one object. -/
structure Rl (S : St) (f : T9.Fo) (a : Int × Int) (l : Nat) (q : Bool) (y : X) : Prop where
  ok : Ok y
  le : y.f.len ≤ f.len
  at_ : gc y.S a = gc S a
  th : ∀ s, M.th y.S s = M.th S s
  sm : Sm y.S y.f a
  T : y.T = []
  more : q = true → y.f.len + l = f.len
  done : q = false → y.f.kin a = []
theorem rev_one {S : St} {f : T9.Fo} (I : Inv S f) (G : Good S) (N : T9.Good f) {a : Int × Int} (ha : (gc S a).k ≠ 0) (s : Sm S f a) {l : Nat} {q : Bool} {y : X} (hr : revR S f a (l : Int) = (q, y)) : Rl S f a l q y := by
  unfold revR at hr
  rw [Int.toNat_natCast] at hr
  have hkl := kin_len f a
  have ok : Ok ⟨S, f, l, []⟩ := ⟨I, G, N⟩
  have R := rvk_same (f.len + 1) ⟨S, f, l, []⟩ a ok ha s (by show (f.kin a).length < f.len + 1; omega)
  have K := rvk_kp (f.len + 1) ⟨S, f, l, []⟩ a ok
  rw [hr] at R K
  have hq := R.q
  have hk := R.kin
  have hl := R.l
  have hlen := K.len
  simp only at hq hk hl hlen
  refine ⟨K.ok, K.len_le, ?_, R.th, R.sm, R.T, fun e => ?_, fun e => ?_⟩
  · have := R.gc a
    rw [if_neg (fun k => kin_self N.nd a (List.mem_of_mem_drop k))] at this
    exact this
  · rw [e] at hq
    have : l < (f.kin a).length := by simpa using hq.symm
    omega
  · rw [e] at hq
    have : ¬ l < (f.kin a).length := by simpa using hq.symm
    rw [hk, show (f.kin a).length - l = 0 by omega, List.take_zero]
theorem face_ok {S : St} {a : Int × Int} (ha : (gc S a).k ≠ 0) {l : Nat} (h1 : 1 ≤ l) (h2 : l ≤ 1000) : faceE S a (l : Int) = 0 := by
  unfold faceE
  rw [if_pos (by omega)]
  exact srcE_yes ha
end M
theorem stepsOf5 (a : Int) : ∃ U st : Nat, IntKind.u64.wrap a = (U : Int) ∧ U < 18446744073709551616 ∧ 1 + (U : Int) % 5 = (st : Int) ∧ 1 ≤ st ∧ st < 6 := by
  obtain ⟨U, i0, h1, h2, h3, h4⟩ := turnIdx a 5 (by omega) (by omega)
  exact ⟨U, i0 + 1, h1, h2, by simp only [Int.natCast_add] at *; omega, by omega, by omega⟩
end Go.Proofs.Ytpfjcfgbecoccaa
