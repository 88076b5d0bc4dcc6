/-
  THE CHAPTER'S ANSWERS as plain functions: when an instruction is right, its word, what stands in a word's fields, what comes of it.
-/
import Derived.Test.YteekgfdffofnaaaLeaf
namespace Go.Proofs.Yteekgfdffofnaaa
set_option maxRecDepth 10000
open Go.RowKit
set_option linter.unusedVariables false

/-- From 0 to below the limit. -/
def M.bel (n m : Int) : Bool := decide (0 ≤ n) && decide (n < m)
theorem M.bel_iff {n m : Int} : M.bel n m = true ↔ 0 ≤ n ∧ n < m := by simp [M.bel]
theorem M.bel_no {n m : Int} : M.bel n m = false ↔ ¬ (0 ≤ n ∧ n < m) := by rw [← M.bel_iff]; simp
/-- Whether an instruction is right. -/
def M.rt (i : I) : Bool := M.bel i.o 18 && M.bel i.a 8 && M.bel i.b 8 && M.bel i.m 4096
/-- One that is right has numbers. -/
theorem M.rt_nat {i : I} (h : M.rt i = true) : ∃ o a b m : Nat, i = ⟨o, a, b, m⟩ ∧ o < 18 ∧ a < 8 ∧ b < 8 ∧ m < 4096 := by
  unfold M.rt at h
  simp only [Bool.and_eq_true, M.bel_iff] at h
  obtain ⟨o, a, b, m⟩ := i
  simp only at h
  exact ⟨o.toNat, a.toNat, b.toNat, m.toNat, by simp only [I.mk.injEq]; omega, by omega, by omega, by omega, by omega⟩
theorem M.rt_yes {o a b m : Nat} (ho : o < 18) (ha : a < 8) (hb : b < 8) (hm : m < 4096) : M.rt ⟨o, a, b, m⟩ = true := by
  unfold M.rt
  simp only [Bool.and_eq_true, M.bel_iff]
  omega
/-- Its word. -/
def M.wd (i : I) : Int := i.o + 32 * i.a + 256 * i.b + 2048 * i.m
/-- Pack: the word, and the error. -/
def M.pk (i : I) : Int × Int := if M.rt i then (M.wd i, 0) else (0, 10)
/-- What stands in a word's fields. -/
def M.fe (W : Nat) : I := ⟨((W % 32 : Nat) : Int), ((W / 32 % 8 : Nat) : Int), ((W / 256 % 8 : Nat) : Int), ((W / 2048 % 4096 : Nat) : Int)⟩
/-- Unpack: the instruction, and the error. -/
def M.up (W : Nat) : I × Int := if M.pk (M.fe W) = ((W : Int), 0) then (M.fe W, 0) else (I.zero, 10)
/-- What the register A holds afterwards. -/
def M.re (o m x y : Int) : Int :=
  if o = 1 then m else if o = 2 then y else if o = 3 then IntKind.u64.wrap (x + y) else if o = 4 then IntKind.u64.wrap (x - y) else if o = 5 then IntKind.u64.wrap (x * y)
  else if o = 6 then bits .and .u64 x y else if o = 7 then bits .or .u64 x y else if o = 8 then bits .xor .u64 x y else if o = 9 then IntKind.u64.wrap (x * 2 ^ (y.toNat % 64)) else if o = 10 then x / 2 ^ (y.toNat % 64)
  else if o = 17 then IntKind.u64.wrap (IntKind.u64.wrap (x * 4096) + m) else x
/-- Where it goes on. -/
def M.af (o m x y p : Int) : Int := if o = 0 then p else if o = 13 ∨ (o = 14 ∧ x = 0) ∨ (o = 15 ∧ x < y) then m else (p + 1) % 4096
/-- What it asks for. -/
def M.as (o a m x y : Int) : E :=
  if o = 0 then ⟨nil8, 0, 4, 0, 0, 0⟩ else if o = 11 then ⟨nil8, 0, 1, IntKind.u64.wrap (y + m), a, 0⟩ else if o = 12 then ⟨nil8, 0, 2, IntKind.u64.wrap (y + m), 0, x⟩ else if o = 16 then ⟨nil8, 0, 3, 0, 0, m⟩ else E0
/-- What comes of one that is right, at a place that there is. -/
def M.ex (i : I) (f : Nat → Int) (p : Int) : E :=
  let x := f i.a.toNat
  let y := f i.b.toNat
  { M.as i.o i.a i.m x y with f := upd f i.a.toNat (M.re i.o i.m x y), p := M.af i.o i.m x y p }
/-- Run: the effect, and the error. -/
def M.run (i : I) (f : Nat → Int) (p : Int) : E × Int := if M.rt i then (if M.bel p 4096 then (M.ex i f p, 0) else (E0, 1)) else (E0, 10)

theorem upd_self (f : Nat → Int) (i : Nat) : upd f i (f i) = f := by
  funext j
  unfold upd
  by_cases c : j = i
  · rw [if_pos c, c]
  · rw [if_neg c]
end Go.Proofs.Yteekgfdffofnaaa
