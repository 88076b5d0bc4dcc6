/-
  PLAIN FACTS on threads: when a thread is right, and what comes of right ones.
-/
import Derived.Test.YtaojiojbpkldkaaWrk
namespace Go.Proofs.Ytaojiojbpkldkaa
open Go.RowKit
set_option linter.unusedVariables false

/-- A thread is right. -/
structure Right (t : T) : Prop where
  s0 : 0 ≤ t.s
  s5 : t.s ≤ 5
  on : t.s = 0 ∨ t.s = 1 ∨ t.s = 4 → t.o = 0
  bg : t.s ≠ 2 → t.b = 0 ∧ t.c = false
  o0 : 0 ≤ t.o
  o1 : t.o < 64
  b1 : t.b < 268435456
  rr : t.r = -1 ∨ (0 ≤ t.r ∧ t.r < 64)
  l0 : 0 ≤ t.l
  l1 : t.l < 8
  d0 : 0 ≤ t.d
  d1 : t.d < 4
  p0 : 0 ≤ t.p
  p1 : t.p < 4096

theorem plain_iff (t : T) : M.plain t = true ↔ (t.s = 0 ∨ t.s = 1 ∨ t.s = 4 → t.o = 0) ∧ (t.s ≠ 2 → t.b = 0 ∧ t.c = false) := by
  by_cases h0 : t.s = 0
  · simp [M.plain, M.own, h0, and_assoc]
  by_cases h1 : t.s = 1
  · simp [M.plain, M.own, h1, and_assoc]
  by_cases h4 : t.s = 4
  · simp [M.plain, M.own, h4, and_assoc]
  by_cases h2 : t.s = 2
  · simp [M.plain, M.own, h2]
  · simp [M.plain, M.own, h0, h1, h2, h4]
theorem bel_iff (n m : Int) : M.bel n m = true ↔ 0 ≤ n ∧ n < m := by simp [M.bel]
theorem clr_iff (n : Int) : M.clr n = true ↔ n = -1 ∨ (0 ≤ n ∧ n < 64) := by simp [M.clr, bel_iff]
theorem ck_iff (t : T) : M.ck t = 0 ↔ Right t := by
  unfold M.ck
  by_cases c : t.s < 0 ∨ 5 < t.s
  · rw [if_pos c]
    exact ⟨fun h => absurd h (by decide), fun h => by have := h.s0; have := h.s5; omega⟩
  · rw [if_neg c]
    have e : (M.plain t && M.inb t) = true ↔ Right t := by
      simp only [Bool.and_eq_true, plain_iff, M.inb, bel_iff, clr_iff, decide_eq_true_eq]
      constructor
      · rintro ⟨⟨h1, h2⟩, ⟨⟨⟨⟨⟨h3, h4⟩, h5⟩, h6⟩, h7⟩, h8⟩⟩
        exact ⟨by omega, by omega, h1, h2, h3.1, h3.2, h4, h5, h6.1, h6.2, h7.1, h7.2, h8.1, h8.2⟩
      · intro h
        exact ⟨⟨h.on, h.bg⟩, ⟨⟨⟨⟨⟨⟨h.o0, h.o1⟩, h.b1⟩, h.rr⟩, ⟨h.l0, h.l1⟩⟩, ⟨h.d0, h.d1⟩⟩, ⟨h.p0, h.p1⟩⟩⟩
    by_cases r : (M.plain t && M.inb t) = true
    · rw [if_pos r]; exact ⟨fun _ => e.1 r, fun _ => rfl⟩
    · rw [if_neg r]; exact ⟨fun h => absurd h (by decide), fun h => absurd (e.2 h) r⟩
theorem Right.ck {t : T} (h : Right t) : M.ck t = 0 := (ck_iff t).2 h
theorem Right.b64 {t : T} (h : Right t) : t.b < 18446744073709551616 := by have := h.b1; omega
theorem Right.no2 {t : T} (h : Right t) (h2 : t.s = 0 ∨ t.s = 1 ∨ t.s = 4) : t.o = 0 ∧ t.b = 0 ∧ t.c = false := ⟨h.on h2, h.bg (by omega)⟩
theorem tn_right (L D : Nat) (hL : L < 8) (hD : D < 4) : Right (tn L D) :=
  ⟨by show (0 : Int) ≤ 0; decide, by show (0 : Int) ≤ 5; decide, fun _ => rfl, fun _ => ⟨rfl, rfl⟩, by show (0 : Int) ≤ 0; decide, by show (0 : Int) < 64; decide, by show 0 < _; decide, .inl rfl, by show (0 : Int) ≤ (L : Int); omega, by show (L : Int) < 8; omega, by show (0 : Int) ≤ (D : Int); omega, by show (D : Int) < 4; omega, by show (0 : Int) ≤ 0; decide, by show (0 : Int) < 4096; decide⟩
theorem nw_right (L D : Nat) (hL : L < 8) (hD : D < 4) : M.nw L D = (tn L D, 0) := by
  unfold M.nw
  rw [if_pos (tn_right L D hL hD).ck]

/-! ### Whoever waits for an answer -/
theorem Right.ask {t : T} (h : Right t) {r : Int} (hr : M.clr r = true) : Right { t with r := r } :=
  ⟨h.s0, h.s5, h.on, h.bg, h.o0, h.o1, h.b1, (clr_iff r).1 hr, h.l0, h.l1, h.d0, h.d1, h.p0, h.p1⟩
theorem ak_yes {t : T} (h : Right t) {r : Int} (hr : M.clr r = true) (hn : r = -1 ∨ t.r = -1) : M.ak t r = ({ t with r := r }, 0) := by
  unfold M.ak
  rw [if_pos h.ck, if_pos hr, if_pos hn]
theorem ak_twice {t : T} (h : Right t) {r : Int} (hr : M.clr r = true) (h1 : r ≠ -1) (h2 : t.r ≠ -1) : M.ak t r = (T0, 4) := by
  unfold M.ak
  rw [if_pos h.ck, if_pos hr, if_neg (by simp [h1, h2])]
theorem clr_nat (n : Nat) (h : n < 64) : M.clr n = true := (clr_iff _).2 (.inr ⟨by omega, by omega⟩)
theorem clr_none : M.clr (-1) = true := by decide

/-! ### Numbers that are brought into bounds -/
theorem mod8 (a : Int) : ∃ U n : Nat, IntKind.u64.wrap a = (U : Int) ∧ (U : Int) % 8 = (n : Int) ∧ n < 8 := by
  refine ⟨(IntKind.u64.wrap a).toNat, (IntKind.u64.wrap a).toNat % 8, ?_, by omega, by omega⟩
  rw [IntKind.wrap_u64]; omega
theorem mod4 (a : Int) : ∃ U n : Nat, IntKind.u64.wrap a = (U : Int) ∧ (U : Int) % 4 = (n : Int) ∧ n < 4 := by
  refine ⟨(IntKind.u64.wrap a).toNat, (IntKind.u64.wrap a).toNat % 4, ?_, by omega, by omega⟩
  rw [IntKind.wrap_u64]; omega
theorem mod64 (a : Int) : ∃ U n : Nat, IntKind.u64.wrap a = (U : Int) ∧ (U : Int) % 64 = (n : Int) ∧ n < 64 := by
  refine ⟨(IntKind.u64.wrap a).toNat, (IntKind.u64.wrap a).toNat % 64, ?_, by omega, by omega⟩
  rw [IntKind.wrap_u64]; omega
theorem mod5 (a : Int) : ∃ U n : Nat, IntKind.u64.wrap a = (U : Int) ∧ (U : Int) % 5 = (n : Int) ∧ n < 5 := by
  refine ⟨(IntKind.u64.wrap a).toNat, (IntKind.u64.wrap a).toNat % 5, ?_, by omega, by omega⟩
  rw [IntKind.wrap_u64]; omega
theorem endWalk {P : Program} {f : FuncId} {args : Array Value} {w : World} (h : Calls P f args w fun e w' => e = .returned (.bool true) ∧ w.grownBy w' none) :
    Calls P f args w fun e w' => e = .returned (.bool true) ∧ Below w.heap.size w w' :=
  h.mono fun _ _ k => ⟨k.1, gbEnd k.2⟩
end Go.Proofs.Ytaojiojbpkldkaa
