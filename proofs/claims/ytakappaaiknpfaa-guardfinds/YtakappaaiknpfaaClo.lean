/-
  THE CONTRACTS of package guard: isAddress, and the bits that are left (a closure).
-/
import Derived.Test.YtakappaaiknpfaaFull
import Derived.Deep.RegionHeld3
namespace Go.Proofs.Ytakappaaiknpfaa
open Go.RowKit
set_option linter.unusedVariables false

/-- Whether it is an address. -/
def M.adr (p : Nat) (d : Int) : Bool := decide (1 ≤ d) && decide (d ≤ 16) && decide (p < 2 ^ d.toNat)

set_option maxHeartbeats 400000 in
theorem isAddress_yes (p d : Nat) (w : World) (h0 : 1 ≤ d) (h1 : d ≤ 16) (v : Bool) (hv : ((p : Int) / 2 ^ d == 0) = v) :
    Calls Try.prog 24 #[.int .u64 p, .int .i64 d] w fun e w' => e = .returned (.bool v) ∧ w' = w := by
  go_enter Try.func24, Try.ntmps24
  go_wp2
  go_ret
  exact ⟨rfl, rfl⟩

set_option maxHeartbeats 400000 in
theorem isAddress_no (p : Nat) (d : Int) (w : World) (h : ¬ (1 ≤ d ∧ d ≤ 16)) :
    Calls Try.prog 24 #[.int .u64 p, .int .i64 d] w fun e w' => e = .returned (.bool false) ∧ w' = w := by
  by_cases h1 : 1 ≤ d
  · have h2 : ¬ d ≤ 16 := fun e => h ⟨h1, e⟩
    go_enter Try.func24, Try.ntmps24
    go_wp2
    go_ret
    exact ⟨rfl, rfl⟩
  · go_enter Try.func24, Try.ntmps24
    go_wp2
    go_ret
    exact ⟨rfl, rfl⟩

theorem isAddress_is (p : Nat) (d : Int) (v : Bool) (hv : M.adr p d = v) (w : World) :
    Calls Try.prog 24 #[.int .u64 p, .int .i64 d] w fun e w' => e = .returned (.bool v) ∧ w' = w := by
  by_cases h : 1 ≤ d ∧ d ≤ 16
  · obtain ⟨n, rfl⟩ : ∃ n : Nat, d = (n : Int) := ⟨d.toNat, by omega⟩
    refine isAddress_yes p n w (by omega) (by omega) v ?_
    rw [← hv]
    unfold M.adr
    rw [decide_eq_true h.1, decide_eq_true h.2, M.cast_shr]
    simp only [Bool.true_and, Int.toNat_natCast]
    rw [Bool.eq_iff_iff]
    simp only [beq_iff_eq, decide_eq_true_eq, Int.natCast_eq_zero]
    rw [Nat.div_eq_zero_iff]
    constructor
    · rintro (e | e)
      · exact absurd e (Nat.ne_of_gt (Nat.two_pow_pos n))
      · exact e
    · exact .inr
  · have : v = false := by
      rw [← hv]
      unfold M.adr
      by_cases h1 : 1 ≤ d
      · have h2 : ¬ d ≤ 16 := fun e => h ⟨h1, e⟩
        rw [decide_eq_false h2]; simp
      · rw [decide_eq_false h1]; simp
    rw [this]
    exact isAddress_no p d w h

/-- The bits that are left, as a function. -/
abbrev clo (L P : Nat) : Value := .func (.func 37) #[] #[.pointer (some ⟨L, 0, none⟩), .pointer (some ⟨P, 0, none⟩)]

/-- What the closure has: how many bits are left, and the address. -/
structure Left (w : World) (L P l p : Nat) : Prop where
  cl : w.cell? ⟨L, 0, none⟩ = some (.int .i64 l)
  cp : w.cell? ⟨P, 0, none⟩ = some (.int .u64 p)
  fr : w.frozen? ⟨L, 0, none⟩ = false
  ne : P ≠ L
theorem Left.kept {w w' : World} {L P l p : Nat} (h : Left w L P l p) (g : w.grownBy w' none) : Left w' L P l p :=
  ⟨g.cell h.cl (by simp), g.cell h.cp (by simp), (gbFrozen g (World.block_lt_of_cell? w _ h.cl) (by simp)).trans h.fr, h.ne⟩
theorem Left.keep {w w' : World} {L P l p x : Nat} (h : Left w L P l p) (g : w.grownBy w' (some x)) (hL : L ≠ x) (hP : P ≠ x) : Left w' L P l p :=
  ⟨g.cell h.cl (by simpa using hL), g.cell h.cp (by simpa using hP), (gbFrozen g (World.block_lt_of_cell? w _ h.cl) (by simpa using hL)).trans h.fr, h.ne⟩

theorem setKeeps (w : World) (L P : Nat) (m p : Nat) {v : Value} (hL : w.cell? ⟨L, 0, none⟩ = some v) (hP : w.cell? ⟨P, 0, none⟩ = some (.int .u64 p)) (hf : w.frozen? ⟨L, 0, none⟩ = false) (hne : P ≠ L) :
    ∃ W, w.setCell ⟨L, 0, none⟩ (.int .i64 m) = W ∧ Left W L P m p ∧ w.grownBy W (some L) :=
  ⟨_, rfl, ⟨World.cell?_setCell_same _ _ _ hL, (World.cell?_setCell_other _ _ _ _ (by simp)).trans hP, by simpa using hf, hne⟩, gbSetCell _ _ _ _⟩

set_option maxHeartbeats 400000 in
theorem clo_no (w : World) (L P : Nat) (n : Int) (l : Nat) (hL : w.cell? ⟨L, 0, none⟩ = some (.int .i64 l)) (h : n < 0 ∨ (l : Int) < n) :
    Calls Try.prog 37 #[.int .i64 n, .pointer (some ⟨L, 0, none⟩), .pointer (some ⟨P, 0, none⟩)] w fun e w' => e = .returned (.tuple #[.int .u64 0, .int .i64 0, .bool false]) ∧ w' = w := by
  by_cases h1 : n < 0
  · go_enter Try.func37, Try.ntmps37
    go_wp2
    exact bodyPost_ret (v := .tuple #[.int .u64 0, .int .i64 0, .bool false]) (by simp [results, Try.results37, go_sem]) rfl ⟨rfl, rfl⟩
  · have h2 : (l : Int) < n := by omega
    go_enter Try.func37, Try.ntmps37
    go_wp2
    exact bodyPost_ret (v := .tuple #[.int .u64 0, .int .i64 0, .bool false]) (by simp [results, Try.results37, go_sem]) rfl ⟨rfl, rfl⟩

set_option maxHeartbeats 1000000 in
theorem clo_yes (w : World) (L P : Nat) (n l m p : Nat) (H : Left w L P l p) (hl : l ≤ 16) (hm : n + m = l) (hp : p < 18446744073709551616) :
    Calls Try.prog 37 #[.int .i64 n, .pointer (some ⟨L, 0, none⟩), .pointer (some ⟨P, 0, none⟩)] w fun e w' => e = .returned (.tuple #[.int .u64 (M.getN p m n : Nat), .int .i64 m, .bool true]) ∧ Left w' L P m p ∧ w.grownBy w' (some L) := by
  obtain ⟨hL, hP, hf, hne⟩ := H
  have h1 : ¬ (l : Int) < (n : Int) := by omega
  have h2 : (l : Int) - (n : Int) = (m : Int) := by omega
  have h3 : (m : Int) ≤ 16 := by omega
  have h4 : (n : Int) ≤ 16 := by omega
  have HM := hideIt (M.get_val p m n hp (by omega))
  clear hm hl hp
  go_enter Try.func37, Try.ntmps37
  go_wp2
  obtain ⟨W, hW, X, gW⟩ := setKeeps w L P m p hL hP hf hne
  rw [hW]
  obtain ⟨c1, c2, _, _⟩ := id X
  clear hW hL hP hf h1 h2
  go_quiet (fail)
  go_wp2
  rw [M.lowest_val n (by omega), HM.out]
  exact bodyPost_ret (v := .tuple #[.int .u64 (M.getN p m n : Nat), .int .i64 m, .bool true]) (by simp [results, Try.results37, go_sem]) rfl ⟨rfl, X.kept (gbDrewN _ _ _), gbTrans gW (gbDrewN _ _ _)⟩
end Go.Proofs.Ytakappaaiknpfaa
