/-
  Plain: rows of ids one behind the other; what is kept of a notice.
-/
import Derived.Test.YtehgfeflbkdjdaaWrk
namespace Go.Proofs.Ytehgfeflbkdjdaa
set_option linter.unusedVariables false
namespace M
/-- The ids from a on, below b. -/
def rg (a b : Nat) : List Int := (List.range' a (b - a)).map (fun x : Nat => (x : Int))
theorem rg_mem {a b : Nat} {x : Int} : x ∈ rg a b ↔ ∃ c : Nat, a ≤ c ∧ c < b ∧ x = (c : Int) := by
  unfold rg
  rw [List.mem_map]
  constructor
  · rintro ⟨c, hc, rfl⟩
    rw [List.mem_range'_1] at hc
    exact ⟨c, hc.1, by omega, rfl⟩
  · rintro ⟨c, h1, h2, rfl⟩
    exact ⟨c, by rw [List.mem_range'_1]; omega, rfl⟩
theorem rg_len (a b : Nat) : (rg a b).length = b - a := by unfold rg; simp
theorem rg_nil {a b : Nat} (h : b ≤ a) : rg a b = [] := by
  unfold rg
  rw [Nat.sub_eq_zero_of_le h]
  rfl
theorem rg_cons {a b : Nat} (h : a < b) : rg a b = (a : Int) :: rg (a + 1) b := by
  unfold rg
  rw [show b - a = (b - (a + 1)) + 1 by omega, List.range'_succ]
  rfl
theorem rg_snoc {a b : Nat} (h : a ≤ b) : rg a (b + 1) = rg a b ++ [(b : Int)] := by
  unfold rg
  rw [show b + 1 - a = (b - a) + 1 by omega, List.range'_concat, List.map_append]
  simp
  omega
theorem rg_nodup (a b : Nat) : (rg a b).Nodup := by
  unfold rg
  refine List.Pairwise.map _ ?_ (List.nodup_range' (s := a) (n := b - a) (step := 1))
  intro x y h e
  exact h (by omega)
theorem rg_isnil {a b : Nat} : rg a b = [] ↔ b ≤ a := by
  constructor
  · intro h
    have := rg_len a b
    rw [h] at this
    simp at this
    omega
  · exact rg_nil
/-- One more comes, and waits. -/
theorem row_push (i : Nat) (hi : i < 30) : pe (rg 0 i) (i : Int) = 0 ∧ wv 0 (rg 0 i) (i : Int) = 0 ∧ wb 0 (rg 0 i) (i : Int) = false ∧ ww 0 (rg 0 i) (i : Int) = 0 ∧ wl 0 (rg 0 i) (i : Int) true = rg 0 (i + 1) := by
  have p : pe (rg 0 i) (i : Int) = 0 := by
    unfold pe
    rw [if_pos (by omega), if_neg]
    intro e
    obtain ⟨c, _, hc, e⟩ := rg_mem.1 e
    omega
  refine ⟨p, ?_, ?_, ?_, ?_⟩
  · unfold wv; rw [if_pos p]
  · unfold wb; simp
  · unfold ww; rw [if_pos p]
  · unfold wl; rw [if_pos ⟨p, rfl, rfl⟩, rg_snoc (Nat.zero_le _)]
/-- The first of them is woken. -/
theorem row_pop (i n : Nat) (hi : i < n) (g : Int) : si none (rg i n) false = (i : Int) ∧ sv 0 none (rg i n) g false = g ∧ so none (rg i n) false = true ∧ sw 0 none (rg i n) g false = 0 ∧ (rg i n).tail = rg (i + 1) n := by
  rw [rg_cons hi]
  exact ⟨rfl, rfl, rfl, rfl, rfl⟩
end M
theorem M.wl_nodup {W a : Int} {L : List Int} {wt : Bool} (h : L.Nodup) : (M.wl W L a wt).Nodup := by
  unfold M.wl
  split
  · rename_i c
    rw [← M.pl_ok c.1]; exact M.pl_nodup a h
  · exact h
theorem M.wl_len (W a : Int) (L : List Int) (wt : Bool) : (M.wl W L a wt).length ≤ L.length + 1 := by
  unfold M.wl
  split <;> simp
theorem M.wo_inv {W a : Int} {L : List Int} (h : L = [] ∨ W = 0) : M.wo L a = [] ∨ W = 0 := by
  rcases h with rfl | h
  · exact .inl rfl
  · exact .inr h
theorem M.wait_yes {W a : Int} {L : List Int} (h : M.pe L a = 0) (o : Bool) (ho : (W != 0) = o) : M.wv W L a = W ∧ M.wb W L a = o ∧ M.ww W L a = 0 := by
  subst ho
  unfold M.wv M.wb M.ww
  rw [if_pos h, if_pos h]
  refine ⟨rfl, ?_, rfl⟩
  by_cases e : W = 0 <;> simp [h, e]
theorem M.wait_no {W a : Int} {L : List Int} {wt : Bool} (h : ¬ M.pe L a = 0) : M.wv W L a = 0 ∧ M.wb W L a = false ∧ M.ww W L a = W ∧ M.wl W L a wt = L := by
  unfold M.wv M.wb M.ww M.wl
  simp [h]
end Go.Proofs.Ytehgfeflbkdjdaa
