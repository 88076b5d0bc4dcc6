/-
  WHERE OBJECTS COME, AS NUMBERS: how long an object is, what may be used of a span, the places that come next. Speaks of no function of the program.
-/
import Derived.Test.YtadllapdhdjpbaaMath
import Derived.Test.YtadllapdhdjpbaaNums
namespace Go.Proofs.Ytadllapdhdjpbaa.M

/-- How long an object of a kind is, and the error. -/
def bts (k n : Int) : Int × Int :=
  if k = 2 then (if n < 1 ∨ 4 < n then (0, 1) else (n + 1, 0))
  else if k = 1 then (if n < 0 ∨ 16 < n then (0, 1) else (n, 0))
  else if k = 3 ∨ k = 6 ∨ k = 7 ∨ k = 8 then (4, 0)
  else if k = 4 ∨ k = 5 then (1, 0) else (0, 2)
theorem bts_ok {k n b : Int} (h : bts k n = (b, 0)) : ∃ c : Nat, b = (c : Int) ∧ c ≤ 16 := by
  unfold bts at h
  split at h
  · split at h
    · simp at h
    · simp at h; exact ⟨b.toNat, by omega, by omega⟩
  · split at h
    · split at h
      · simp at h
      · simp at h; exact ⟨b.toNat, by omega, by omega⟩
    · split at h
      · simp at h; exact ⟨b.toNat, by omega, by omega⟩
      · split at h
        · simp at h; exact ⟨b.toNat, by omega, by omega⟩
        · simp at h

/-- So much of a right span may be used. -/
def usd (A B u : Int) : Bool := rgt A B && (decide (0 ≤ u) && decide (u ≤ pw B))
/-- What is left. -/
def lft (A B u : Int) : Int := if usd A B u then pw B - u else 0
/-- c spans side by side. -/
def rowL (f m b c : Nat) : List (Int × Int) := (List.range c).map fun i => (((f + i * m : Nat) : Int), (b : Int))
theorem rowL_len (f m b c : Nat) : (rowL f m b c).length = c := by unfold rowL; simp
theorem rowL_get (f m b c i : Nat) (h : i < c) : (rowL f m b c)[i]? = some (((f + i * m : Nat) : Int), (b : Int)) := by
  unfold rowL; simp [h]
theorem rowL_succ (f m b c : Nat) : rowL f m b (c + 1) = rowL f m b c ++ [(((f + c * m : Nat) : Int), (b : Int))] := by
  unfold rowL; rw [List.range_succ]; simp

/-- The answer: spans, what is used then, the error. -/
def pln (A B u k n c : Int) : List (Int × Int) × Int × Int :=
  if (bts k n).2 = 0 then
    (if usd A B u && (decide (1 ≤ c) && decide (c ≤ 16)) then
      (if A + pw B < (upN (A + u).toNat (bts k n).1.toNat : Int) + c * ((2 ^ (bts k n).1.toNat : Nat) : Int) then ([], 0, 7)
       else (rowL (upN (A + u).toNat (bts k n).1.toNat) (2 ^ (bts k n).1.toNat) (bts k n).1.toNat c.toNat, (upN (A + u).toNat (bts k n).1.toNat : Int) + c * ((2 ^ (bts k n).1.toNat : Nat) : Int) - A, 0))
    else ([], 0, 1))
  else ([], 0, (bts k n).2)

/-- Numbers of a span of which so much may be used. -/
theorem usd_nat {A B u : Int} (h : usd A B u = true) : ∃ a b m s : Nat, A = (a : Int) ∧ B = (b : Int) ∧ u = (s : Int) ∧ b ≤ 16 ∧ 2 ^ b = m ∧ pw B = (m : Int) ∧ 1 ≤ m ∧ m ≤ 65536 ∧ a + m ≤ 65536 ∧ (a : Int) % (m : Int) = 0 ∧ s ≤ m := by
  unfold usd at h
  simp only [Bool.and_eq_true, decide_eq_true_eq] at h
  obtain ⟨h1, h2, h3⟩ := h
  obtain ⟨a, b, m, rfl, rfl, k1, k2, k3, k4, k5, k6, k7⟩ := rgt_nat h1
  rw [k3] at h3
  exact ⟨a, b, m, u.toNat, rfl, rfl, by omega, k1, k2, k3, k4, k5, k6, k7, by omega⟩

/-- What the ways of Plan come to. -/
structure Fits (A B u k n c : Int) (a d p s b m x f : Nat) : Prop where
  hA : A = (a : Int)
  hB : B = (d : Int)
  hu : u = (s : Int)
  hc : c = (x : Int)
  hb : bts k n = ((b : Int), 0)
  d16 : d ≤ 16
  hp : 2 ^ d = p
  p1 : 1 ≤ p
  p2 : a + p ≤ 65536
  al : (a : Int) % (p : Int) = 0
  sp : s ≤ p
  b16 : b ≤ 16
  hm : 2 ^ b = m
  m1 : 1 ≤ m
  m2 : m ≤ 65536
  x1 : 1 ≤ x
  x2 : x ≤ 16
  hf : upN (a + s) b = f
  f1 : a + s ≤ f
  f2 : f < a + s + m
  f3 : f % m = 0
  ok : usd A B u = true
theorem ways6 (A B u k n c : Int) :
    (∃ b e, bts k n = (b, e) ∧ e ≠ 0 ∧ pln A B u k n c = ([], 0, e)) ∨
    (∃ b : Nat, bts k n = ((b : Int), 0) ∧ b ≤ 16 ∧ ¬ (usd A B u = true ∧ 1 ≤ c ∧ c ≤ 16) ∧ pln A B u k n c = ([], 0, 1)) ∨
    (∃ a d p s b m x f : Nat, Fits A B u k n c a d p s b m x f ∧
      (a + p < f + x * m ∧ pln A B u k n c = ([], 0, 7) ∨ f + x * m ≤ a + p ∧ pln A B u k n c = (rowL f m b x, ((f + x * m - a : Nat) : Int), 0))) := by
  obtain ⟨⟨b, e⟩, hb⟩ : ∃ q, bts k n = q := ⟨_, rfl⟩
  by_cases he : e = 0
  · right
    subst he
    obtain ⟨b, rfl, b16⟩ := bts_ok hb
    by_cases hk : usd A B u = true ∧ 1 ≤ c ∧ c ≤ 16
    · right
      obtain ⟨h1, h2, h3⟩ := hk
      obtain ⟨a, d, p, s, rfl, rfl, rfl, k1, k2, k3, k4, k5, k6, k7, k8⟩ := usd_nat h1
      obtain ⟨x, rfl⟩ : ∃ x : Nat, c = (x : Int) := ⟨c.toNat, by omega⟩
      obtain ⟨f, hf⟩ : ∃ f, upN (a + s) b = f := ⟨_, rfl⟩
      obtain ⟨m, hm⟩ : ∃ m, 2 ^ b = m := ⟨_, rfl⟩
      have hbd := upN_bd (a + s) b
      have hmod := up_mod (a + s) b
      rw [hf, hm] at hbd hmod
      have hpw := pow_le16 b b16
      rw [hm] at hpw
      refine ⟨a, d, p, s, b, m, x, f, ⟨rfl, rfl, rfl, rfl, hb, k1, k2, k4, k6, k7, k8, b16, hm, hpw.1, hpw.2, by omega, by omega, hf, hbd.1, hbd.2, hmod, h1⟩, ?_⟩
      have e1 : ((a : Int) + (s : Int)).toNat = a + s := by omega
      have e2 : ((f : Int) + (x : Int) * (m : Int)) = ((f + x * m : Nat) : Int) := by simp
      have e3 : (usd a d s && (decide ((1 : Int) ≤ (x : Int)) && decide ((x : Int) ≤ 16))) = true := by rw [h1, decide_eq_true h2, decide_eq_true h3]; rfl
      unfold pln
      rw [hb, k3, e1]
      simp only [Int.toNat_natCast, hf, hm]
      rw [if_pos trivial, if_pos e3, e2]
      generalize x * m = y
      by_cases hy : a + p < f + y
      · left; exact ⟨hy, by rw [if_pos (by omega)]⟩
      · right; refine ⟨by omega, ?_⟩
        rw [if_neg (by omega), show ((f + y : Nat) : Int) - (a : Int) = ((f + y - a : Nat) : Int) by omega]
    · left
      refine ⟨b, hb, b16, hk, ?_⟩
      unfold pln
      rw [hb]
      simp only
      rw [if_pos trivial, if_neg (by simpa [and_assoc] using hk)]
  · left
    refine ⟨b, e, hb, he, ?_⟩
    unfold pln; rw [hb]; simp [he]

theorem lft_yes {A B u : Int} (p s : Nat) (h : usd A B u = true) (hp : pw B = (p : Int)) (hs : u = (s : Int)) : lft A B u = (p : Int) - (s : Int) := by
  unfold lft; rw [h, hp, hs]; rfl
theorem lft_no {A B u : Int} (h : usd A B u = false) : lft A B u = 0 := by unfold lft; rw [h]; rfl
/-- The ways of isUsed. -/
theorem usd_ways (A B u : Int) : (rgt A B = false ∧ usd A B u = false) ∨ (∃ a b m : Nat, A = (a : Int) ∧ B = (b : Int) ∧ b ≤ 16 ∧ 2 ^ b = m ∧ 1 ≤ m ∧ m ≤ 65536 ∧ a + m ≤ 65536 ∧ rgt A B = true ∧ pw B = (m : Int) ∧
    (u < 0 ∧ usd A B u = false ∨ 0 ≤ u ∧ (m : Int) < u ∧ usd A B u = false ∨ 0 ≤ u ∧ u ≤ (m : Int) ∧ usd A B u = true)) := by
  cases h : rgt A B
  · left; exact ⟨rfl, by unfold usd; rw [h]; rfl⟩
  · right
    obtain ⟨a, b, m, rfl, rfl, k1, k2, k3, k4, k5, k6, k7⟩ := rgt_nat h
    refine ⟨a, b, m, rfl, rfl, k1, k2, k4, k5, k6, rfl, k3, ?_⟩
    have e : usd a b u = (decide (0 ≤ u) && decide (u ≤ (m : Int))) := by unfold usd; rw [h, k3]; rfl
    rw [e]
    by_cases c1 : u < 0
    · left; exact ⟨c1, by rw [decide_eq_false (by omega)]; rfl⟩
    · by_cases c2 : (m : Int) < u
      · right; left; exact ⟨by omega, c2, by rw [decide_eq_true (by omega : 0 ≤ u), decide_eq_false (by omega)]; rfl⟩
      · right; right; exact ⟨by omega, by omega, by rw [decide_eq_true (by omega : 0 ≤ u), decide_eq_true (by omega)]; rfl⟩

end Go.Proofs.Ytadllapdhdjpbaa.M
