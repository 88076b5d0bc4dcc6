/-
  THE CHAPTER'S ANSWERS as plain functions: no Go function in sight.
-/
import Derived.Test.YtkpcdfiebjigbaaBase
namespace Go.Proofs.Ytkpcdfiebjigbaa
namespace M

/-! ### Rights -/
/-- Whether a number is rights. -/
def ck (a : Int) : Bool := decide (0 ≤ a) && decide (a ≤ 7)
def msk (a b : Int) : Int := if ck a && ck b then ((a.toNat &&& b.toNat : Nat) : Int) else 0
def wth (a b : Int) : Bool := ck a && ck b && (msk a b == a)

theorem ck_nat {a : Int} (h : ck a = true) : ∃ A : Nat, a = A ∧ A < 8 := by
  unfold ck at h
  simp only [Bool.and_eq_true, decide_eq_true_eq] at h
  exact ⟨a.toNat, by omega, by omega⟩
theorem nat_ck {A : Nat} (h : A < 8) : ck A = true := by
  unfold ck
  simp only [Bool.and_eq_true, decide_eq_true_eq]
  omega
theorem msk_nat {A B : Nat} (ha : A < 8) (hb : B < 8) : msk A B = ((A &&& B : Nat) : Int) := by
  unfold msk
  rw [nat_ck ha, nat_ck hb]
  simp
theorem and_val {A B : Nat} (ha : A < 8) (hb : B < 8) : bits BinOp.and IntKind.i64 (A : Int) (B : Int) = ((A &&& B : Nat) : Int) := by
  have h : ∀ a : Fin 8, ∀ b : Fin 8, bits BinOp.and IntKind.i64 (a.val : Int) (b.val : Int) = ((a.val &&& b.val : Nat) : Int) := by decide
  exact h ⟨A, ha⟩ ⟨B, hb⟩

/-! ### Capabilities -/
/-- Kinds with rights; with badges; without an object. -/
def rgd (k : Int) : Bool := k == 4 || k == 5 || k == 6
def bgd (k : Int) : Bool := k == 4 || k == 5
def nul (k : Int) : Bool := k == 0 || k == 10
def knd (k : Int) : Bool := decide (0 ≤ k) && decide (k ≤ 11)
/-- Whether a number is below a power of two. -/
def blw (v n : Int) : Bool := decide (v < 2 ^ n.toNat)
def grd (g n : Int) : Bool := decide (0 ≤ n) && decide (n ≤ 16) && blw g n
def bnd (c : C) : Bool := decide (0 ≤ c.o) && decide (c.o ≤ 63) && ck c.r && blw c.b 28 && grd c.g c.n
def fit (c : C) : Bool := (!nul c.k || c.o == 0) && (rgd c.k || c.r == 0) && (bgd c.k || c.b == 0) && (c.k == 2 || c.n == 0)
/-- What is wrong with a capability. -/
def chk (c : C) : Int := if knd c.k then (if bnd c && fit c then 0 else 10) else 2
/-- A capability without what its kind does not have. -/
def own (c : C) : C := ⟨c.k, if nul c.k then 0 else c.o, if rgd c.k then c.r else 0, if bgd c.k then c.b else 0, if c.k == 2 then c.g else 0, if c.k == 2 then c.n else 0⟩

theorem own_bnd (c : C) (h : 0 ≤ c.g) : (M.eq c (own c) && bnd c) = (bnd c && fit c) := by
  obtain ⟨k, o, r, b, g, n⟩ := c
  cases hb : bnd ⟨k, o, r, b, g, n⟩
  · simp
  · rw [Bool.and_true, Bool.true_and]
    simp only [bnd, grd, blw, Bool.and_eq_true, decide_eq_true_eq] at hb
    obtain ⟨⟨⟨⟨h1, h2⟩, h3⟩, h4⟩, ⟨h5, h6⟩, h7⟩ := hb
    simp only at h
    unfold M.eq own fit
    simp only [beq_self_eq_true, Bool.true_and]
    have hg : n = 0 → g = 0 := by rintro rfl; simp at h7; omega
    have hgn : (g == 0 && n == 0) = (n == 0) := by
      by_cases hz : n = 0
      · simp [hz, hg hz]
      · simp [hz]
    cases hk : (k == 2) <;> cases hn : nul k <;> cases hr : rgd k <;> cases hd : bgd k <;> simp [Bool.and_assoc, hgn]

/-- Why nothing may be derived of it. -/
def src (c : C) : Int := if chk c = 0 then (if c.k = 0 then 3 else if c.k = 1 ∨ c.k = 10 ∨ c.k = 11 then 2 else 0) else chk c
/-- With the rights that are asked for. -/
def msd (c : C) (a : Int) : C × Int := if ck a then (⟨c.k, c.o, msk c.r a, c.b, c.g, c.n⟩, 0) else (C.zero, 5)
/-- What is laid in. -/
def lay (c : C) (bd gd bt : Int) : C := own ⟨c.k, c.o, c.r, bd, gd, bt⟩
def lat (c d : C) : C := if d.b = 0 then ⟨d.k, d.o, d.r, c.b, d.g, d.n⟩ else d
def mrk (c : C) (bd gd bt : Int) : C × Int :=
  if (lay c bd gd bt).b ≠ 0 ∧ c.b ≠ 0 then (C.zero, 8)
  else if chk (lat c (lay c bd gd bt)) = 0 then (lat c (lay c bd gd bt), 0) else (C.zero, chk (lat c (lay c bd gd bt)))
/-- What is derived, step by step. -/
def drp (c : C) (rt bd gd bt : Int) : C × Int :=
  if src c = 0 then (if (msd c rt).2 = 0 then mrk (msd c rt).1 bd gd bt else (C.zero, (msd c rt).2)) else (C.zero, src c)
/-- What is derived, in the chapter's order. -/
def drv (c : C) (rt bd gd bt : Int) : C × Int :=
  if src c = 0 then
    if ck rt then
      if bgd c.k = true ∧ bd ≠ 0 then
        if c.b ≠ 0 then (C.zero, 8)
        else if blw bd 28 then (⟨c.k, c.o, if rgd c.k then msk c.r rt else c.r, bd, c.g, c.n⟩, 0) else (C.zero, 10)
      else if c.k = 2 then
        if grd gd bt then (⟨c.k, c.o, if rgd c.k then msk c.r rt else c.r, c.b, gd, bt⟩, 0) else (C.zero, 10)
      else (⟨c.k, c.o, if rgd c.k then msk c.r rt else c.r, c.b, c.g, c.n⟩, 0)
    else (C.zero, 5)
  else (C.zero, src c)

/-- Which gives no more than which. -/
def wkr (a b : C) : Bool := chk a == 0 && chk b == 0 && a.k == b.k && a.o == b.o && wth a.r b.r && (b.b == 0 || b.b == a.b)

/-- The words of a right one. -/
def wd1 (c : C) : Int := c.k + c.o * 16 + c.r * 1024 + c.n * 8192
def wd2 (c : C) : Int := c.b + c.g * 4294967296
def wds (c : C) : Int × Int × Int := if chk c = 0 then (wd1 c, wd2 c, 0) else (0, 0, chk c)
/-- What stands in two words. -/
def fds (A B : Nat) : C := ⟨getN A 0 4, getN A 4 6, getN A 10 3, getN B 0 28, getN B 32 16, getN A 13 5⟩
def off (A B : Nat) : C × Int := if wds (fds A B) = ((A : Int), (B : Int), 0) then (fds A B, 0) else (C.zero, 10)
end M
end Go.Proofs.Ytkpcdfiebjigbaa
