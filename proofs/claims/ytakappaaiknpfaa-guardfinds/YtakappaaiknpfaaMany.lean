/-
  ADDRESSES AND WHERE THEY LEAD: facts on numbers and on stores of one node and of two. No Go function in sight.
-/
import Derived.Test.YtakappaaiknpfaaFnd
namespace Go.Proofs.Ytakappaaiknpfaa
open Go.RowKit
set_option linter.unusedVariables false
/-- A number that a word of 64 bits holds. -/
def U64 (a : Int) : Prop := 0 ≤ a ∧ a < 18446744073709551616
theorem u64_wf {a : Int} (h : (Lit.int .u64 a).wf = true) : U64 a := by
  unfold Lit.wf at h
  rw [Bool.and_eq_true, decide_eq_true_eq, decide_eq_true_eq] at h
  have e1 : IntKind.u64.min = 0 := by decide
  have e2 : IntKind.u64.max = 18446744073709551615 := by decide
  rw [e1, e2] at h
  unfold U64
  omega

namespace M

/-! ### Bits -/
theorem getN_hi (x y a N : Nat) (hy : y < 2 ^ a) : getN (x * 2 ^ a + y) a N = x % 2 ^ N := by
  unfold getN
  rw [Nat.add_comm, Nat.add_mul_div_right _ _ (Nat.two_pow_pos a), Nat.div_eq_of_lt hy, Nat.zero_add]
theorem getN_own (x y a N : Nat) (hy : y < 2 ^ a) (hx : x < 2 ^ N) : getN (x * 2 ^ a + y) a N = x := by rw [getN_hi x y a N hy, Nat.mod_eq_of_lt hx]
theorem getN_low (x y R : Nat) (hy : y < 2 ^ R) : getN (x * 2 ^ R + y) 0 R = y := by
  unfold getN
  rw [Nat.pow_zero, Nat.div_one, Nat.add_comm, Nat.add_mul_mod_self_right, Nat.mod_eq_of_lt hy]
theorem getN_mid (x y z R a : Nat) (hy : y < 2 ^ R) (hz : z < 2 ^ a) : getN ((x * 2 ^ R + y) * 2 ^ a + z) a R = y := by
  rw [getN_hi _ _ _ _ hz, Nat.add_comm, Nat.add_mul_mod_self_right, Nat.mod_eq_of_lt hy]
theorem getN_none (p a : Nat) : getN p a 0 = 0 := by
  unfold getN
  rw [Nat.pow_zero, Nat.mod_one]
theorem join_lt (x y a N : Nat) (hx : x < 2 ^ N) (hy : y < 2 ^ a) : x * 2 ^ a + y < 2 ^ (N + a) := by
  rw [Nat.pow_add]
  have h1 : (x + 1) * 2 ^ a ≤ 2 ^ N * 2 ^ a := Nat.mul_le_mul_right _ hx
  rw [Nat.succ_mul] at h1
  omega
theorem pow_small (n : Nat) (h : n ≤ 16) : 2 ^ n ≤ 65536 ∧ 1 ≤ 2 ^ n := ⟨by have : 2 ^ n ≤ 2 ^ 16 := Nat.pow_le_pow_right (by omega) h; simpa using this, Nat.one_le_two_pow⟩

/-! ### One level -/
theorem lvl_go {S : St} {p l N R t : Nat} {k o r b g : Int} (hR : rad S o = (R : Int)) (h0 : R ≠ 0) (hl : N + (R + t) = l) (hg : ((getN p (R + t) N : Nat) : Int) = g) : lvl S p ⟨k, o, r, b, g, N⟩ l = some (getN p t R, t) := by
  unfold lvl
  simp only [Int.toNat_natCast]
  rw [hR, if_neg (by omega), if_neg (by omega), show l - N = R + t by omega, if_pos hg, if_neg (by omega)]
  simp
theorem lvl_bad {S : St} {p l N m : Nat} {k o r b g : Int} (hl : N + m = l) (hg : ((getN p m N : Nat) : Int) ≠ g) : lvl S p ⟨k, o, r, b, g, N⟩ l = none := by
  unfold lvl
  simp only [Int.toNat_natCast]
  by_cases h0 : rad S o = 0
  · rw [if_pos h0]
  · rw [if_neg h0, if_neg (by omega), show l - N = m by omega, if_neg hg]
theorem lvl_few {S : St} {p l N m R : Nat} {k o r b g : Int} (hR : rad S o = (R : Int)) (hl : N + m = l) (hm : m < R) : lvl S p ⟨k, o, r, b, g, N⟩ l = none := by
  unfold lvl
  simp only [Int.toNat_natCast]
  rw [hR]
  by_cases h0 : (R : Int) = 0
  · rw [if_pos h0]
  · rw [if_neg h0, if_neg (by omega), show l - N = m by omega]
    split
    · rw [if_pos (by omega)]
    · rfl
theorem adr_yes {p d : Nat} (h1 : 1 ≤ d) (h2 : d ≤ 16) (hp : p < 2 ^ d) : adr p d = true := by
  unfold adr
  simp only [Int.toNat_natCast, Bool.and_eq_true, decide_eq_true_eq]
  omega
theorem rs_of {S : St} {p d : Nat} {c : C} (h1 : 1 ≤ d) (h2 : d ≤ 16) (hp : p < 2 ^ d) (hk : c.k = 2) : rs S c p d = match res S p 17 c d with | none => (0, 0, 0, 6) | some (n, a, t) => (n, a, t, 0) := by
  unfold rs
  rw [adr_yes h1 h2 hp, if_pos rfl, if_pos hk]
  rfl

/-! ### A store of one node -/
def one (id : Int) (R : Nat) (f : Nat → C) : St := fun j => if j = id then some ⟨R, f⟩ else none
theorem one_add (id : Int) (R : Nat) (h0 : 0 ≤ id) (h63 : id ≤ 63) (h1 : 1 ≤ R) (h4 : R ≤ 4) : addE (fun _ => none) id R = 0 ∧ addS (fun _ => none) id R = one id R (fun _ => C.zero) := by
  have e : addE (fun _ => none) id R = 0 := by
    unfold addE
    rw [if_pos (by unfold inB; simp only [Bool.and_eq_true, decide_eq_true_eq]; omega)]
  refine ⟨e, ?_⟩
  unfold addS
  rw [if_pos e]
  rfl
theorem one_rad (id : Int) (R : Nat) (f : Nat → C) : rad (one id R f) id = (R : Int) := by
  unfold rad one
  rw [if_pos rfl]
theorem one_get (id : Int) (R j : Nat) (f : Nat → C) (hj : j < 2 ^ R) : getC (one id R f) id j = f j := getC_at (d := ⟨R, f⟩) (by unfold one; rw [if_pos rfl]) hj
theorem one_empty (id n i : Int) (R : Nat) : getC (one id R (fun _ => C.zero)) n i = C.zero := by
  unfold getC one
  by_cases h : n = id
  · rw [if_pos h]; simp
  · rw [if_neg h]

/-! ### A node that has itself in each slot -/
abbrev me : C := ⟨2, 1, 0, 0, 0, 0⟩
def lst (R i : Nat) : St := one 1 R (fun j => if j < i then me else C.zero)
theorem lst_zero (R : Nat) : lst R 0 = one 1 R (fun _ => C.zero) := by
  unfold lst
  congr 1
theorem lst_put (R i : Nat) (hi : i < 2 ^ R) : putE (lst R i) 1 i me = 0 ∧ putS (lst R i) 1 i me = lst R (i + 1) := by
  have ht : there (lst R i) 1 i = true := there_at (d := ⟨R, fun j => if j < i then me else C.zero⟩) (by unfold lst one; rw [if_pos rfl]) hi
  have hg : getC (lst R i) 1 i = C.zero := by
    unfold lst
    rw [one_get 1 R i _ hi, if_neg (Nat.lt_irrefl _)]
  have e : putE (lst R i) 1 i me = 0 := by
    unfold putE
    rw [ht, if_pos rfl, if_pos (by decide +kernel), if_neg (by decide), hg, if_pos rfl]
  refine ⟨e, ?_⟩
  unfold putS
  rw [if_pos e]
  funext j
  unfold upd lst one
  by_cases h : j = 1
  · rw [if_pos h, if_pos rfl, if_pos h]
    simp only [Option.map_some, Option.some.injEq]
    unfold Nd.set
    congr 1
    funext x
    simp only [Int.toNat_natCast]
    by_cases h1 : x = i
    · rw [if_pos h1, if_pos (by omega)]
    · rw [if_neg h1]
      by_cases h2 : x < i
      · rw [if_pos h2, if_pos (by omega)]
      · rw [if_neg h2, if_neg (by omega)]
  · rw [if_neg h, if_neg h, if_neg h]
theorem lst_res (R p : Nat) (h1 : 1 ≤ R) : ∀ f l, l < f → 1 ≤ l → res (lst R (2 ^ R)) p f me l = if l % R = 0 then some (1, p % 2 ^ R, 0) else none
  | 0, l, h, _ => absurd h (Nat.not_lt_zero _)
  | f + 1, l, hf, hl => by
    have hR : rad (lst R (2 ^ R)) 1 = (R : Int) := one_rad 1 R _
    by_cases h : l < R
    · have hv : lvl (lst R (2 ^ R)) p me l = none := lvl_few (N := 0) (m := l) hR (by omega) h
      rw [res_no hv, if_neg (by rw [Nat.mod_eq_of_lt h]; omega)]
    · obtain ⟨t, rfl⟩ : ∃ t, l = R + t := ⟨l - R, by omega⟩
      have hv : lvl (lst R (2 ^ R)) p me (R + t) = some (getN p t R, t) := lvl_go (N := 0) hR (by omega) (by omega) (by rw [getN_none]; rfl)
      have hg : getC (lst R (2 ^ R)) 1 (getN p t R : Nat) = me := by
        unfold lst
        rw [one_get 1 R _ _ (getN_lt p t R), if_pos (getN_lt p t R)]
      by_cases h0 : t = 0
      · subst h0
        rw [res_end hv (.inl rfl), if_pos (by simp)]
        unfold getN
        simp
      · rw [res_on hv (by intro e; rcases e with e | e; exact h0 e; exact e (by show (getC (lst R (2 ^ R)) 1 (getN p t R : Nat)).k = 2; rw [hg])), show (me.o : Int) = 1 from rfl, hg, lst_res R p h1 f t (by omega) (by omega)]
        rw [Nat.add_mod_left]
theorem lst_fd (R p d : Nat) (h1 : 1 ≤ R) (h2 : 1 ≤ d) (h3 : d ≤ 16) (hp : p < 2 ^ d) : fd (lst R (2 ^ R)) me p d = if d % R = 0 then (1, ((p % 2 ^ R : Nat) : Int), 0) else (0, 0, 6) := by
  unfold fd
  rw [rs_of h2 h3 hp rfl, lst_res R p h1 17 d (by omega) h2]
  by_cases h : d % R = 0
  · rw [if_pos h, if_pos h]; rfl
  · rw [if_neg h, if_neg h]; rfl

/-! ### One level, with more bits behind -/
theorem left_rs (R N g x more : Nat) (h1 : 1 ≤ R) (h4 : R ≤ 4) (hN : N ≤ 8) (hg : g < 2 ^ N) (hx : x < 2 ^ R) (hm : N + R + more ≤ 16) :
    rs (one 5 R (fun _ => C.zero)) ⟨2, 5, 0, 0, g, N⟩ ((g * 2 ^ R + x) * 2 ^ more) (N + R + more : Nat) = (5, (x : Int), (more : Int), 0) := by
  have hz : 0 < 2 ^ more := Nat.two_pow_pos more
  have hlt : (g * 2 ^ R + x) * 2 ^ more < 2 ^ (N + R + more) := by have := join_lt (g * 2 ^ R + x) 0 more (N + R) (join_lt g x R N hg hx) hz; omega
  rw [rs_of (by omega) hm hlt rfl]
  have e1 : getN ((g * 2 ^ R + x) * 2 ^ more) (R + more) N = g := by
    have : (g * 2 ^ R + x) * 2 ^ more = g * 2 ^ (R + more) + x * 2 ^ more := by rw [Nat.add_mul, Nat.mul_assoc, Nat.pow_add]
    rw [this]
    refine getN_own _ _ _ _ ?_ hg
    have := join_lt x 0 more R hx hz
    omega
  have e2 : getN ((g * 2 ^ R + x) * 2 ^ more) more R = x := by have := getN_mid g x 0 R more hx hz; rwa [Nat.add_zero] at this
  have hv : lvl (one 5 R (fun _ => C.zero)) ((g * 2 ^ R + x) * 2 ^ more) ⟨2, 5, 0, 0, g, N⟩ (N + R + more) = some (getN ((g * 2 ^ R + x) * 2 ^ more) more R, more) := lvl_go (one_rad 5 R _) (by omega) (by omega) (by rw [e1])
  rw [e2] at hv
  rw [res_end hv (.inr (by show (getC (one 5 R (fun _ => C.zero)) 5 x).k ≠ 2; rw [one_empty]; decide))]
theorem left_fd (R N g x : Nat) (h1 : 1 ≤ R) (h4 : R ≤ 4) (hN : N ≤ 8) (hg : g < 2 ^ N) (hx : x < 2 ^ R) :
    fd (one 5 R (fun _ => C.zero)) ⟨2, 5, 0, 0, g, N⟩ (g * 2 ^ R + x) (N + R : Nat) = (5, (x : Int), 0) := by
  have h := left_rs R N g x 0 h1 h4 hN hg hx (by omega)
  rw [Nat.pow_zero, Nat.mul_one, Nat.add_zero] at h
  unfold fd
  rw [h]
  rfl
theorem more_fd (R N g x more : Nat) (h1 : 1 ≤ R) (h4 : R ≤ 4) (hN : N ≤ 8) (hg : g < 2 ^ N) (hx : x < 2 ^ R) (h0 : 1 ≤ more) (hm : N + R + more ≤ 16) :
    fd (one 5 R (fun _ => C.zero)) ⟨2, 5, 0, 0, g, N⟩ ((g * 2 ^ R + x) * 2 ^ more) (N + R + more : Nat) = (0, 0, 6) := by
  unfold fd
  rw [left_rs R N g x more h1 h4 hN hg hx hm]
  unfold fdOf
  rw [if_pos rfl, if_neg (by simp; omega)]
theorem wrong_fd (R N g y x : Nat) (h1 : 1 ≤ R) (h4 : R ≤ 4) (hN : N ≤ 8) (hN0 : 1 ≤ N) (hg : g ≠ y) (hy : y < 2 ^ N) (hx : x < 2 ^ R) :
    fd (one 5 R (fun _ => C.zero)) ⟨2, 5, 0, 0, g, N⟩ (y * 2 ^ R + x) (N + R : Nat) = (0, 0, 6) := by
  have hlt := join_lt y x R N hy hx
  unfold fd
  rw [rs_of (by omega) (by omega) hlt rfl, res_no (lvl_bad (m := R) rfl (by rw [getN_own y x R N hx hy]; omega))]
  rfl

end M
end Go.Proofs.Ytakappaaiknpfaa
