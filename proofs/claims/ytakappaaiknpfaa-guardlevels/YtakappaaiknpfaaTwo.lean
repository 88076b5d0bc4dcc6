/-
  WHERE AN ADDRESS LEADS THROUGH TWO NODES. No Go function in sight.
-/
import Derived.Test.YtakappaaiknpfaaMany
namespace Go.Proofs.Ytakappaaiknpfaa
open Go.RowKit
set_option linter.unusedVariables false
namespace M
/-! ### Two nodes, the second one in a slot of the first one -/
abbrev nxt (h : Int) : C := ⟨2, 2, 0, 0, h, 2⟩
def two (a b i : Nat) (c : C) : St := fun j => if j = 2 then some ⟨b, fun _ => C.zero⟩ else if j = 1 then some ⟨a, fun x => if x = i then c else C.zero⟩ else none
theorem two_add (a b i : Nat) (h1 : 1 ≤ b) (h4 : b ≤ 4) : addE (one 1 a (fun _ => C.zero)) 2 b = 0 ∧ addS (one 1 a (fun _ => C.zero)) 2 b = two a b i C.zero := by
  have e : addE (one 1 a (fun _ => C.zero)) 2 b = 0 := by
    unfold addE one
    rw [if_pos (by unfold inB; simp only [Bool.and_eq_true, decide_eq_true_eq]; omega), if_neg (by decide)]
  refine ⟨e, ?_⟩
  unfold addS
  rw [if_pos e]
  funext j
  unfold one two
  by_cases h : j = 2
  · rw [if_pos h, if_pos h]; rfl
  · rw [if_neg h, if_neg h]
    by_cases h' : j = 1
    · rw [if_pos h', if_pos h']; simp
    · rw [if_neg h', if_neg h']
theorem nxt_chk (h : Nat) (hh : h < 4) : chk (nxt h) = 0 := by
  have : h = 0 ∨ h = 1 ∨ h = 2 ∨ h = 3 := by omega
  rcases this with rfl | rfl | rfl | rfl <;> decide +kernel
theorem two_put (a b i h : Nat) (hi : i < 2 ^ a) (hh : h < 4) : putE (two a b i C.zero) 1 i (nxt h) = 0 ∧ putS (two a b i C.zero) 1 i (nxt h) = two a b i (nxt h) := by
  have hs : two a b i C.zero 1 = some ⟨a, fun x => if x = i then C.zero else C.zero⟩ := rfl
  have e : putE (two a b i C.zero) 1 i (nxt h) = 0 := by
    unfold putE
    rw [there_at hs hi, if_pos rfl, if_pos (nxt_chk h hh), if_neg (by decide : ¬ (2 : Int) = 0), getC_at hs hi]
    simp
  refine ⟨e, ?_⟩
  unfold putS
  rw [if_pos e]
  funext j
  unfold upd
  by_cases hj : j = 1
  · subst hj
    rw [if_pos rfl, hs]
    show some (Nd.set _ _ _) = some _
    unfold Nd.set
    simp only [Option.some.injEq]
    congr 1
    funext x
    simp only [Int.toNat_natCast]
    by_cases hx : x = i
    · rw [if_pos hx, if_pos hx]
    · rw [if_neg hx, if_neg hx, if_neg hx]
  · rw [if_neg hj]
    unfold two
    rw [if_neg hj, if_neg hj]
theorem two_fd (a b g h i k : Nat) (a1 : 1 ≤ a) (a3 : a ≤ 3) (b1 : 1 ≤ b) (b3 : b ≤ 3) (hg : g < 8) (hh : h < 4) (hi : i < 2 ^ a) (hk : k < 2 ^ b) :
    fd (two a b i (nxt h)) ⟨2, 1, 0, 0, g, 3⟩ ((g * 2 ^ a + i) * 2 ^ (2 + b) + (h * 2 ^ b + k)) (3 + a + 2 + b : Nat) = (2, (k : Int), 0) := by
  have hz : h * 2 ^ b + k < 2 ^ (2 + b) := join_lt h k b 2 hh hk
  have hx : g * 2 ^ a + i < 2 ^ (3 + a) := join_lt g i a 3 hg hi
  have hlt : (g * 2 ^ a + i) * 2 ^ (2 + b) + (h * 2 ^ b + k) < 2 ^ (3 + a + 2 + b) := by have := join_lt _ _ _ _ hx hz; rwa [show 3 + a + (2 + b) = 3 + a + 2 + b by omega] at this
  obtain ⟨p, hp⟩ : ∃ p, p = (g * 2 ^ a + i) * 2 ^ (2 + b) + (h * 2 ^ b + k) := ⟨_, rfl⟩
  have e1 : getN p (a + (2 + b)) 3 = g := by
    have : p = g * 2 ^ (a + (2 + b)) + (i * 2 ^ (2 + b) + (h * 2 ^ b + k)) := by rw [hp, Nat.add_mul, Nat.mul_assoc, ← Nat.pow_add, Nat.add_assoc]
    rw [this]
    exact getN_own _ _ _ _ (join_lt i _ (2 + b) a hi hz) hg
  have e2 : getN p (2 + b) a = i := by rw [hp]; exact getN_mid g i _ a (2 + b) hi hz
  have q : p = ((g * 2 ^ a + i) * 2 ^ 2 + h) * 2 ^ b + k := by rw [hp, Nat.add_mul ((g * 2 ^ a + i) * 2 ^ 2), Nat.mul_assoc, ← Nat.pow_add, Nat.add_assoc]
  have e3 : getN p (b + 0) 2 = h := by rw [q]; exact getN_mid _ h k 2 b hh hk
  have e4 : getN p 0 b = k := by rw [q]; exact getN_low _ k b hk
  unfold fd
  rw [← hp] at hlt ⊢
  rw [rs_of (by omega) (by omega) hlt rfl]
  have v1 : lvl (two a b i (nxt h)) p ⟨2, 1, 0, 0, g, 3⟩ (3 + a + 2 + b) = some (getN p (2 + b) a, 2 + b) := lvl_go (N := 3) (R := a) rfl (by omega) (by omega) (by rw [e1])
  rw [e2] at v1
  have c1 : getC (two a b i (nxt h)) 1 i = nxt h := by
    have := getC_at (S := two a b i (nxt h)) (n := 1) (d := ⟨a, fun x => if x = i then nxt h else C.zero⟩) (j := i) rfl hi
    rw [this]
    simp
  have v2 : lvl (two a b i (nxt h)) p (nxt h) (2 + b) = some (getN p 0 b, 0) := lvl_go (N := 2) (R := b) rfl (by omega) (by omega) (by rw [e3])
  rw [e4] at v2
  rw [res_on v1 (by intro e; rcases e with e | e; omega; exact e (by show (getC (two a b i (nxt h)) 1 i).k = 2; rw [c1])), show ((⟨2, 1, 0, 0, g, 3⟩ : C).o) = 1 from rfl, c1, res_end v2 (.inl rfl)]
  rfl
theorem two_rs (a b g h i : Nat) (a1 : 1 ≤ a) (a3 : a ≤ 3) (hg : g < 8) (hi : i < 2 ^ a) : rs (two a b i (nxt h)) ⟨2, 1, 0, 0, g, 3⟩ (g * 2 ^ a + i) (3 + a : Nat) = (1, (i : Int), 0, 0) := by
  have hx : g * 2 ^ a + i < 2 ^ (3 + a) := join_lt g i a 3 hg hi
  rw [rs_of (by omega) (by omega) hx rfl]
  have v1 : lvl (two a b i (nxt h)) (g * 2 ^ a + i) ⟨2, 1, 0, 0, g, 3⟩ (3 + a) = some (getN (g * 2 ^ a + i) 0 a, 0) := lvl_go (N := 3) (R := a) rfl (by omega) (by omega) (by rw [Nat.add_zero, getN_own g i a 3 hi hg])
  rw [getN_low g i a hi] at v1
  rw [res_end v1 (.inl rfl)]
  rfl

end M
end Go.Proofs.Ytakappaaiknpfaa
