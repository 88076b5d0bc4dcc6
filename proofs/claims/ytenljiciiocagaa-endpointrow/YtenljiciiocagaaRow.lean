/-
  Plain: rows of ids one behind the other: they come and wait, and are met.
-/
import Derived.Test.YtenljiciiocagaaWrk
namespace Go.Proofs.Ytenljiciiocagaa
set_option linter.unusedVariables false
namespace M
/-- The ids from a on, below b. -/
def rg (a b : Nat) : List Int := (List.range' a (b - a)).map (fun x : Nat => (x : Int))
theorem rg_mem {a b : Nat} {x : Int} : x ∈ rg a b ↔ ∃ c : Nat, a ≤ c ∧ c < b ∧ x = (c : Int) := by
  unfold rg
  rw [List.mem_map]
  constructor
  · rintro ⟨c, hc, rfl⟩
    rw [List.mem_range'_1] at hc
    exact ⟨c, hc.1, by omega, rfl⟩
  · rintro ⟨c, h1, h2, rfl⟩
    exact ⟨c, by rw [List.mem_range'_1]; omega, rfl⟩
theorem rg_len (a b : Nat) : (rg a b).length = b - a := by unfold rg; simp
theorem rg_nil {a b : Nat} (h : b ≤ a) : rg a b = [] := by
  unfold rg
  rw [Nat.sub_eq_zero_of_le h]
  rfl
theorem rg_cons {a b : Nat} (h : a < b) : rg a b = (a : Int) :: rg (a + 1) b := by
  unfold rg
  rw [show b - a = (b - (a + 1)) + 1 by omega, List.range'_succ]
  rfl
theorem rg_snoc {a b : Nat} (h : a ≤ b) : rg a (b + 1) = rg a b ++ [(b : Int)] := by
  unfold rg
  rw [show b + 1 - a = (b - a) + 1 by omega, List.range'_concat, List.map_append]
  simp
  omega
theorem rg_nodup (a b : Nat) : (rg a b).Nodup := by
  unfold rg
  refine List.Pairwise.map _ ?_ (List.nodup_range' (s := a) (n := b - a) (step := 1))
  intro x y h e
  exact h (by omega)
theorem rg_isnil {a b : Nat} : rg a b = [] ↔ b ≤ a := by
  constructor
  · intro h
    have := rg_len a b
    rw [h] at this
    simp at this
    omega
  · exact rg_nil
/-- What it is at, where a row of ids waits. -/
def rk (s : Int) (c n : Nat) : Int := if c < n then s else 0
/-- One more comes, and waits. -/
theorem row_push {s o : Int} (h1 : ¬ s = o) (h2 : ¬ o = 0) (i : Nat) (hi : i < 30) :
    pe (rg 0 i) (i : Int) = 0 ∧ eb (rk s 0 i) (rg 0 i) o (i : Int) = false ∧ ex (rk s 0 i) (rg 0 i) o (i : Int) = 0 ∧ ek (rk s 0 i) (rg 0 i) s o (i : Int) true = rk s 0 (i + 1) ∧ el (rk s 0 i) (rg 0 i) o (i : Int) true = rg 0 (i + 1) := by
  have p : pe (rg 0 i) (i : Int) = 0 := by
    unfold pe
    rw [if_pos (by omega), if_neg]
    intro e
    obtain ⟨c, _, hc, e⟩ := rg_mem.1 e
    omega
  have hk : ¬ rk s 0 i = o := by
    unfold rk
    split
    · exact h1
    · exact fun e => h2 e.symm
  refine ⟨p, ?_, ?_, ?_, ?_⟩
  · unfold eb
    rw [decide_eq_false_iff_not]
    exact fun e => hk e.2
  · unfold ex
    rw [if_neg (fun e => hk e.2)]
  · unfold ek
    rw [if_pos p, if_neg hk, if_pos rfl]
    unfold rk
    rw [if_pos (by omega)]
  · unfold el
    rw [if_pos p, if_neg hk, if_pos rfl, rg_snoc (by omega)]
/-- One of the other side comes, and doesn't wait. -/
theorem row_far (c n i : Nat) (hn : n < 30) (hi : i < 30) : pe (rg c n) ((32 + i : Nat) : Int) = 0 := by
  unfold pe
  rw [if_pos (by omega), if_neg]
  intro e
  obtain ⟨d, _, hd, e⟩ := rg_mem.1 e
  omega
theorem row_meet {s t : Int} (a : Int) {c n : Nat} (hc : c < n) (p : pe (rg c n) a = 0) :
    eb (rk s c n) (rg c n) s a = true ∧ ex (rk s c n) (rg c n) s a = (c : Int) ∧ ek (rk s c n) (rg c n) t s a false = rk s (c + 1) n ∧ el (rk s c n) (rg c n) s a false = rg (c + 1) n := by
  have hk : rk s c n = s := by unfold rk; rw [if_pos hc]
  refine ⟨?_, ?_, ?_, ?_⟩
  · unfold eb
    rw [decide_eq_true_iff]
    exact ⟨p, hk⟩
  · unfold ex
    rw [if_pos ⟨p, hk⟩, rg_cons hc]
    rfl
  · unfold ek
    rw [if_pos p, if_pos hk, hk, rg_cons hc, List.tail_cons]
    unfold rk
    by_cases e : c + 1 < n
    · rw [if_pos e, if_neg (fun q => by rw [rg_isnil] at q; omega)]
    · rw [if_neg e, if_pos (rg_nil (by omega))]
  · unfold el
    rw [if_pos p, if_pos hk, rg_cons hc, List.tail_cons]
theorem row_none {s t : Int} (a : Int) {c n : Nat} (hc : n ≤ c) (hs : ¬ s = 0) (p : pe (rg c n) a = 0) :
    eb (rk s c n) (rg c n) s a = false ∧ ex (rk s c n) (rg c n) s a = 0 ∧ ek (rk s c n) (rg c n) t s a false = rk s (c + 1) n ∧ el (rk s c n) (rg c n) s a false = rg (c + 1) n := by
  have hk : rk s c n = 0 := by unfold rk; rw [if_neg (by omega)]
  have hk2 : rk s (c + 1) n = 0 := by unfold rk; rw [if_neg (by omega)]
  have hn : ¬ rk s c n = s := by rw [hk]; exact fun e => hs e.symm
  refine ⟨?_, ?_, ?_, ?_⟩
  · unfold eb
    rw [decide_eq_false_iff_not]
    exact fun e => hn e.2
  · unfold ex
    rw [if_neg (fun e => hn e.2)]
  · unfold ek
    rw [if_pos p, if_neg hn, if_neg (by simp), hk, hk2]
  · unfold el
    rw [if_pos p, if_neg hn, if_neg (by simp), rg_nil hc, rg_nil (by omega)]
/-- One of the other side comes: who is met. -/
theorem row_step {s t : Int} (hs : ¬ s = 0) (c n : Nat) (hn : n < 30) (hc : c < 30) :
    pe (rg c n) ((32 + c : Nat) : Int) = 0 ∧ eb (rk s c n) (rg c n) s ((32 + c : Nat) : Int) = decide (c < n) ∧ (c < n → ex (rk s c n) (rg c n) s ((32 + c : Nat) : Int) = (c : Int)) ∧ ek (rk s c n) (rg c n) t s ((32 + c : Nat) : Int) false = rk s (c + 1) n ∧ el (rk s c n) (rg c n) s ((32 + c : Nat) : Int) false = rg (c + 1) n := by
  have p := row_far c n c hn hc
  by_cases h : c < n
  · obtain ⟨q1, q2, q3, q4⟩ := row_meet (s := s) (t := t) _ h p
    exact ⟨p, by rw [q1]; simp [h], fun _ => q2, q3, q4⟩
  · obtain ⟨q1, q2, q3, q4⟩ := row_none (s := s) (t := t) _ (by omega) hs p
    exact ⟨p, by rw [q1]; simp [h], fun e => absurd e h, q3, q4⟩
end M
end Go.Proofs.Ytenljiciiocagaa
