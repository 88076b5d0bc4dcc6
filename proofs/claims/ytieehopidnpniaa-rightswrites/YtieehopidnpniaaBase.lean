/-
  WORLDS THAT ONLY GROW, and the chapter's answers as plain functions: no Go function in sight.
-/
import Derived.WalkKit
import Derived.WalkSpells
import Derived.WalkLawsBesides
import Derived.Deep.OwnRows
import Derived.Deep.Draws
import Derived.Deep.QuietTactic
import Derived.BigQuiet
import Derived.Laws.RangeString
import Derived.Laws.BitsAllLaws
import Derived.Test.YtieehopidnpniaaRows
namespace Go.Proofs.Ytieehopidnpniaa
open Go.RowKit

theorem hideIt {p : Prop} (h : p) : Hid p := h
theorem ret_bool {a b : Bool} (h : a = b) : Ending.returned (.bool a) = .returned (.bool b) := by rw [h]
theorem ret_int {k : IntKind} {a b : Int} (h : a = b) : Ending.returned (.int k a) = .returned (.int k b) := by rw [h]

/-! ### Worlds -/
theorem gbRefl (w : World) (r : Option Nat) : w.grownBy w r := ⟨rfl, rfl, rfl, Nat.le_refl _, fun _ _ _ => rfl⟩
theorem gbTrans {a b c : World} {r : Option Nat} (h : a.grownBy b r) (k : b.grownBy c r) : a.grownBy c r :=
  ⟨k.os.trans h.os, k.tape.trans h.tape, k.output.trans h.output, Nat.le_trans h.size k.size, fun i hi hr => (k.block i (Nat.lt_of_lt_of_le hi h.size) hr).trans (h.block i hi hr)⟩
theorem gbDrewN (w : World) (q : Nat) (r : Option Nat) : w.grownBy (w.drewN q) r := ⟨rfl, rfl, rfl, Nat.le_refl _, fun _ _ _ => rfl⟩
theorem gbAlloc (w : World) (o : Obj) (r : Option Nat) : w.grownBy (w.alloc o) r :=
  ⟨rfl, rfl, rfl, by simp, fun k hk _ => by unfold World.alloc; rw [Array.getElem?_push, if_neg (Nat.ne_of_lt hk)]⟩
theorem gbBelow {B : Nat} {w0 a b : World} {r : Option Nat} (h : Below B w0 a) (g : a.grownBy b r) (hB : B ≤ w0.heap.size) (hr : ∀ k, r = some k → B ≤ k) : Below B w0 b :=
  h.grown g (Nat.le_trans hB h.size) hr
theorem gbEnd {w w' : World} (g : w.grownBy w' none) : Below w.heap.size w w' :=
  gbBelow (Below.refl _ _) g (Nat.le_refl _) (by simp)

/-! ### The answers -/
namespace M
/-- Whether a number is rights. -/
def ck (a : Int) : Bool := decide (0 ≤ a) && decide (a ≤ 7)
def msk (a b : Int) : Int := if ck a && ck b then ((a.toNat &&& b.toNat : Nat) : Int) else 0
def wth (a b : Int) : Bool := ck a && ck b && (msk a b == a)

theorem ck_nat {a : Int} (h : ck a = true) : ∃ A : Nat, a = A ∧ A < 8 := by
  unfold ck at h
  simp only [Bool.and_eq_true, decide_eq_true_eq] at h
  exact ⟨a.toNat, by omega, by omega⟩
theorem nat_ck {A : Nat} (h : A < 8) : ck A = true := by
  unfold ck
  simp only [Bool.and_eq_true, decide_eq_true_eq]
  omega
theorem msk_nat {A B : Nat} (ha : A < 8) (hb : B < 8) : msk A B = ((A &&& B : Nat) : Int) := by
  unfold msk
  rw [nat_ck ha, nat_ck hb]
  simp
theorem and_val {A B : Nat} (ha : A < 8) (hb : B < 8) : bits BinOp.and IntKind.i64 (A : Int) (B : Int) = ((A &&& B : Nat) : Int) := by
  have h : ∀ a : Fin 8, ∀ b : Fin 8, bits BinOp.and IntKind.i64 (a.val : Int) (b.val : Int) = ((a.val &&& b.val : Nat) : Int) := by decide
  exact h ⟨A, ha⟩ ⟨B, hb⟩
theorem lt8 {A : Nat} (h : A < 8) : A = 0 ∨ A = 1 ∨ A = 2 ∨ A = 3 ∨ A = 4 ∨ A = 5 ∨ A = 6 ∨ A = 7 := by omega
/-- Rights in letters. -/
def txt : Nat → ByteArray
  | 0 => ⟨#[45]⟩
  | 1 => ⟨#[114]⟩
  | 2 => ⟨#[119]⟩
  | 3 => ⟨#[114, 119]⟩
  | 4 => ⟨#[103]⟩
  | 5 => ⟨#[114, 103]⟩
  | 6 => ⟨#[119, 103]⟩
  | _ => ⟨#[114, 119, 103]⟩
end M
end Go.Proofs.Ytieehopidnpniaa
