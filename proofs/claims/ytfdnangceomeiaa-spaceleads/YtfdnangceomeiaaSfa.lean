/-
  PLAIN FACTS for the laws: what each call answers where its words are known.
-/
import Derived.Test.YtfdnangceomeiaaWsp
namespace Go.Proofs.Ytfdnangceomeiaa
set_option maxRecDepth 10000
open Go.RowKit
set_option linter.unusedVariables false

/-- The word of a right entry. -/
def M.wd (P : Nat) (o : Bool) : Nat := 16 * P + 1 + (if o then 2 else 0)
theorem M.wd_pos (P : Nat) (o : Bool) : M.wd P o ≠ 0 := by unfold M.wd; omega
theorem M.wd_up {P : Nat} (o : Bool) (h : P < 4096) : M.up (M.wd P o) = (⟨true, o, ((16 * P : Nat) : Int)⟩, 0) := M.up_word P o h
theorem M.wd_pk {P : Nat} (o : Bool) (h : P < 4096) : M.pk ⟨true, o, ((16 * P : Nat) : Int)⟩ = ((M.wd P o : Int), 0) := by
  rw [M.pk_valid (M.pg_of P h)]
  unfold M.wd
  cases o <;> simp
theorem M.st_at (F : Nat → Nat) (x v : Nat) : M.st F x v x = v := by simp [M.st]
theorem M.st_ne {F : Nat → Nat} {x v i : Nat} (h : i ≠ x) : M.st F x v i = F i := by simp [M.st, h]
theorem M.st_st (F : Nat → Nat) (x v u : Nat) : M.st (M.st F x v) x u = M.st F x u := by
  funext i
  unfold M.st
  split <;> rfl
theorem M.st_id {F : Nat → Nat} {x v : Nat} (h : F x = v) : M.st F x v = F := by
  funext i
  unfold M.st
  split
  · rename_i e; rw [e, h]
  · rfl
theorem M.tp_mk {n : Nat} {F : Nat → Nat} {dir : Int} {D A P : Nat} (hd : dir = ((16 * D : Nat) : Int)) (hD : 16 * D + 16 ≤ n) (hA : A < 4096) (h1 : M.up (F (16 * D + A / 256)) = (⟨true, false, ((16 * P : Nat) : Int)⟩, 0)) (hP : 16 * P + 16 ≤ n) :
    M.tp n F dir (A : Int) true = (((16 * P + A / 16 % 16 : Nat) : Int), 0) := by
  subst hd
  unfold M.tp
  rw [M.dp_mk hD hA]
  simp only [if_true, Int.toNat_natCast]
  rw [M.lv_mk h1 hP, if_neg (by simp)]
  simp only [Prod.mk.injEq, and_true]
  omega
/-- Table where nothing is. -/
theorem M.table_mk {n : Nat} {F : Nat → Nat} {dir a t : Int} {D A P : Nat} (hn : n ≤ 65536) (hd : dir = ((16 * D : Nat) : Int)) (ha : a = (A : Int)) (ht : t = ((16 * P : Nat) : Int)) (hD : 16 * D + 16 ≤ n) (hA : A < 4096) (hP : 16 * P + 16 ≤ n) (h0 : F (16 * D + A / 256) = 0) :
    M.chg F (M.dp n dir a (M.al n t)) (M.lay ⟨true, false, t⟩) = (0, M.st F (16 * D + A / 256) (M.wd P false)) := by
  subst hd ha ht
  rw [M.al_of hP, M.dp_mk hD hA, M.chg_yes (v := (M.wd P false : Int)) (k := 0)]
  · simp
  · rw [h0]
    unfold M.lay
    rw [if_pos rfl, M.wd_pk false (by omega)]
theorem M.untable_mk {n : Nat} {F : Nat → Nat} {dir a : Int} {D A : Nat} (hd : dir = ((16 * D : Nat) : Int)) (ha : a = (A : Int)) (hD : 16 * D + 16 ≤ n) (hA : A < 4096) (h0 : F (16 * D + A / 256) ≠ 0) :
    M.chg F (M.dp n dir a true) M.out = (0, M.st F (16 * D + A / 256) 0) := by
  subst hd ha
  rw [M.dp_mk hD hA, M.chg_yes (v := 0) (k := 0)]
  · simp
  · unfold M.out
    rw [if_neg h0]
section
variable {n : Nat} {F : Nat → Nat} {dir a t : Int} {D A P Q : Nat} {o u : Bool}
/-- Map where nothing is. -/
theorem M.map_mk (hn : n ≤ 65536) (hd : dir = ((16 * D : Nat) : Int)) (ha : a = (A : Int)) (ht : t = ((16 * Q : Nat) : Int)) (hD : 16 * D + 16 ≤ n) (hA : A < 4096) (hQ : 16 * Q + 16 ≤ n) (h1 : M.up (F (16 * D + A / 256)) = (⟨true, false, ((16 * P : Nat) : Int)⟩, 0)) (hP : 16 * P + 16 ≤ n) (h0 : F (16 * P + A / 16 % 16) = 0) :
    M.chg F (M.tp n F dir a (M.al n t)) (M.lay ⟨true, o, t⟩) = (0, M.st F (16 * P + A / 16 % 16) (M.wd Q o)) := by
  subst ha ht
  rw [M.al_of hQ, M.tp_mk hd hD hA h1 hP, M.chg_yes (v := (M.wd Q o : Int)) (k := 0)]
  · simp
  · rw [h0]
    unfold M.lay
    rw [if_pos rfl, M.wd_pk o (by omega)]
/-- Map where something is. -/
theorem M.map_twice (hd : dir = ((16 * D : Nat) : Int)) (ha : a = (A : Int)) (ht : t = ((16 * Q : Nat) : Int)) (hD : 16 * D + 16 ≤ n) (hA : A < 4096) (hQ : 16 * Q + 16 ≤ n) (h1 : M.up (F (16 * D + A / 256)) = (⟨true, false, ((16 * P : Nat) : Int)⟩, 0)) (hP : 16 * P + 16 ≤ n) (h0 : F (16 * P + A / 16 % 16) ≠ 0) :
    M.chg F (M.tp n F dir a (M.al n t)) (M.lay ⟨true, o, t⟩) = (4, F) := by
  subst ha ht
  rw [M.al_of hQ, M.tp_mk hd hD hA h1 hP, M.chg_yes (v := 0) (k := 4)]
  · simp
  · unfold M.lay
    rw [if_neg h0]
theorem M.unmap_mk (hd : dir = ((16 * D : Nat) : Int)) (ha : a = (A : Int)) (hD : 16 * D + 16 ≤ n) (hA : A < 4096) (h1 : M.up (F (16 * D + A / 256)) = (⟨true, false, ((16 * P : Nat) : Int)⟩, 0)) (hP : 16 * P + 16 ≤ n) (h0 : F (16 * P + A / 16 % 16) ≠ 0) :
    M.chg F (M.tp n F dir a true) M.out = (0, M.st F (16 * P + A / 16 % 16) 0) := by
  subst ha
  rw [M.tp_mk hd hD hA h1 hP, M.chg_yes (v := 0) (k := 0)]
  · simp
  · unfold M.out
    rw [if_neg h0]
theorem M.remap_mk (hd : dir = ((16 * D : Nat) : Int)) (ha : a = (A : Int)) (hD : 16 * D + 16 ≤ n) (hA : A < 4096) (h1 : M.up (F (16 * D + A / 256)) = (⟨true, false, ((16 * P : Nat) : Int)⟩, 0)) (hP : 16 * P + 16 ≤ n) (hQ : Q < 4096) (h0 : F (16 * P + A / 16 % 16) = M.wd Q u) :
    M.chg F (M.tp n F dir a true) (M.alw o) = (0, M.st F (16 * P + A / 16 % 16) (M.wd Q o)) := by
  subst ha
  rw [M.tp_mk hd hD hA h1 hP, M.chg_yes (v := (M.wd Q o : Int)) (k := 0)]
  · simp
  · unfold M.alw
    rw [h0, if_neg (M.wd_pos Q u), M.wd_up u hQ]
    simp only [if_true]
    exact M.wd_pk o hQ
theorem M.remap_none (hd : dir = ((16 * D : Nat) : Int)) (ha : a = (A : Int)) (hD : 16 * D + 16 ≤ n) (hA : A < 4096) (h1 : M.up (F (16 * D + A / 256)) = (⟨true, false, ((16 * P : Nat) : Int)⟩, 0)) (hP : 16 * P + 16 ≤ n) (h0 : F (16 * P + A / 16 % 16) = 0) :
    M.chg F (M.tp n F dir a true) (M.alw o) = (3, F) := by
  subst ha
  rw [M.tp_mk hd hD hA h1 hP, M.chg_yes (v := 0) (k := 3)]
  · simp
  · unfold M.alw
    rw [h0, if_pos rfl]
end
theorem wI {x : Int} {c : Nat} (h : x = (c : Int)) (hc : c < 9223372036854775808) : IntKind.i64.wrap x = (c : Int) := by rw [h, IntKind.wrap_i64]; omega
/-- A number brought into bounds, and a frame made of it. -/
theorem frameArg (a : Int) : ∃ U k f Q : Nat, IntKind.u64.wrap a = (U : Int) ∧ (U : Int) % 20 = (k : Int) ∧ 64 + 16 * (k : Int) = (f : Int) ∧ f = 16 * Q ∧ 4 ≤ Q ∧ Q < 24 := by
  obtain ⟨U, k, h1, h2, h3⟩ := modArg a 20 (by omega)
  exact ⟨U, k, 64 + 16 * k, 4 + k, h1, h2, by omega, by omega, by omega, by omega⟩
end Go.Proofs.Ytfdnangceomeiaa
