/-
  EACH CALL OF A MEMORY AT WHATEVER ARGUMENTS: its answer and the words behind it, as plain functions: the same for the program and for the document.
-/
import Derived.Test.YtfdnangceomeiaaMRef
namespace Go.Proofs.Ytfdnangceomeiaa
set_option maxRecDepth 10000
namespace Y2
open Go.RowKit

/-- Are k words from a on there? -/
def There (n : Nat) (a k : Int) : Bool := decide (0 ≤ a ∧ 0 ≤ k ∧ a + k ≤ n)
theorem there_iff {n : Nat} {a k : Int} : There n a k = true ↔ (0 ≤ a ∧ 0 ≤ k ∧ a + k ≤ n) := by simp [There]
def errP (n : Nat) (a k : Int) : Int := if There n a k then 0 else 1
def putF (n : Nat) (f : Nat → Int) (a v : Int) : Nat → Int := fun i => if There n a 1 ∧ i = a.toNat then v else f i
def zeroF (n : Nat) (f : Nat → Int) (a k : Int) : Nat → Int := fun i => if There n a k ∧ a.toNat ≤ i ∧ i < a.toNat + k.toNat then 0 else f i
def errC (n : Nat) (a c k : Int) : Int := if There n a k ∧ There n c k then 0 else 1
def copyF (n : Nat) (f : Nat → Int) (a c k : Int) : Nat → Int := fun i => if (There n a k ∧ There n c k) ∧ a.toNat ≤ i ∧ i < a.toNat + k.toNat then f (c.toNat + (i - a.toNat)) else f i
def getV (n : Nat) (f : Nat → Int) (a : Int) : Int := if There n a 1 then f a.toNat else 0
def readN (n : Nat) (a k : Int) : Nat := if There n a k then k.toNat else 0

theorem MemOf.says {t : TypeId} {w : World} {p b n : Nat} {f g : Nat → Int} (h : MemOf t w p b n f) (e : ∀ i, f i = g i) : MemOf t w p b n g := by
  rwa [show g = f from funext fun i => (e i).symm]
theorem there_nat {n : Nat} {a k : Int} (h : There n a k) : ∃ x y : Nat, a = (x : Int) ∧ k = (y : Int) ∧ x + y ≤ n := by
  rw [there_iff] at h
  exact ⟨a.toNat, k.toNat, by omega, by omega, by omega⟩


theorem put_any (w : World) (p b n : Nat) (a v : Int) (f : Nat → Int) (hm : MemAt w p b n f) :
    Calls Try.prog 25 #[.pointer (some ⟨p, 0, none⟩), .int .i64 a, .int .u64 v] w fun e w' => e = .returned (.int .i64 (errP n a 1)) ∧ MemAt w' p b n (putF n f a v) ∧ w.grownBy w' (some b) := by
  by_cases h : There n a 1
  · obtain ⟨x, y, rfl, hy, hxy⟩ := there_nat h
    refine (put_yes w p b n x v f hm (by omega)).mono ?_
    rintro e w' ⟨rfl, h1, h2⟩
    exact ⟨ret_int (by rw [errP, if_pos h]), h1.says (fun i => by simp [putF, h]), h2⟩
  · refine (put_no w p b n a v f hm (by rw [there_iff] at h; omega)).mono ?_
    rintro e w' ⟨rfl, rfl⟩
    exact ⟨ret_int (by rw [errP, if_neg h]), hm.says (fun i => by simp [putF, h]), gbRefl _ _⟩

theorem get_any (w : World) (p b n : Nat) (a : Int) (f : Nat → Int) (hm : MemAt w p b n f) :
    Calls Try.prog 37 #[.pointer (some ⟨p, 0, none⟩), .int .i64 a] w fun e w' => e = .returned (.tuple #[.int .u64 (getV n f a), .int .i64 (errP n a 1)]) ∧ ∃ q, w' = w.drewN q := by
  by_cases h : There n a 1
  · obtain ⟨x, y, rfl, hy, hxy⟩ := there_nat h
    refine (get_yes w p b n x f hm (by omega)).mono ?_
    rintro e w' ⟨rfl, h1⟩
    exact ⟨by simp [errP, getV, h], h1⟩
  · refine (get_no w p b n a f hm (by rw [there_iff] at h; omega)).mono ?_
    rintro e w' ⟨rfl, rfl⟩
    exact ⟨by simp [errP, getV, h], 0, rfl⟩

theorem read_any (w : World) (p b n : Nat) (a k : Int) (f : Nat → Int) (hm : MemAt w p b n f) :
    Calls Try.prog 35 #[.pointer (some ⟨p, 0, none⟩), .int .i64 a, .int .i64 k] w fun e w' => ∃ v, e = .returned (.tuple #[v, .int .i64 (errP n a k)]) ∧ Sl w' v (readN n a k) (fun i => f (a.toNat + i)) ∧ (∃ x y z, v = .slice x y z) ∧ w.grownBy w' none := by
  have hn := hm.hi
  by_cases h : There n a k
  · obtain ⟨x, y, rfl, rfl, hxy⟩ := there_nat h
    refine (read_yes w p b n x y f hm hxy).mono ?_
    rintro e w' ⟨g, rfl, h1, h2, _⟩
    exact ⟨_, by rw [errP, if_pos h], by rw [readN, if_pos h]; exact Sl.ofRow h1 (by omega), ⟨_, _, _, rfl⟩, h2⟩
  · refine (read_no w p b n a k f hm (fun q => h (there_iff.2 q))).mono ?_
    rintro e w' ⟨rfl, rfl⟩
    exact ⟨_, by rw [errP, if_neg h], by rw [readN, if_neg h]; exact .inl ⟨rfl, rfl⟩, ⟨_, _, _, rfl⟩, gbRefl _ _⟩

theorem rget_any (w : World) (p b n : Nat) (a : Int) (f : Nat → Int) (hm : RefAt w p b n f) :
    Calls Try.prog 62 #[.pointer (some ⟨p, 0, none⟩), .int .i64 a] w fun e w' => e = .returned (.tuple #[.int .u64 (getV n f a), .int .i64 (errP n a 1)]) ∧ ∃ q, w' = w.drewN q := by
  by_cases h : There n a 1
  · obtain ⟨x, y, rfl, hy, hxy⟩ := there_nat h
    refine (rget_yes w p b n x f hm (by omega)).mono ?_
    rintro e w' ⟨rfl, h1⟩
    exact ⟨by simp [errP, getV, h], h1⟩
  · refine (rget_no w p b n a f hm (by rw [there_iff] at h; omega)).mono ?_
    rintro e w' ⟨rfl, rfl⟩
    exact ⟨by simp [errP, getV, h], 0, rfl⟩

end Y2
end Go.Proofs.Ytfdnangceomeiaa
