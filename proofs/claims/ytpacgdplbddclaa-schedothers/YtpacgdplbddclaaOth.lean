/-
  TWO SCHEDULES WITH ONE DOMAIN ALIKE: what is done to other ids in other domains leaves it alike. Plain.
-/
import Derived.Test.YtpacgdplbddclaaWrk
namespace Go.Proofs.Ytpacgdplbddclaa
set_option linter.unusedVariables false
namespace M
/-- Fa and Fb have the same in d, ids below 32; elsewhere Fa has ids from 32 on, Fb none. -/
structure Oth (Fa Fb : Nat → List (Int × Int)) (d : Nat) : Prop where
  eq : Fa d = Fb d
  lo : ∀ a, a ∈ ids (Fb d) → a < 32
  hi : ∀ e a, e < 4 → e ≠ d → a ∈ ids (Fa e) → 32 ≤ a
  no : ∀ e, e < 4 → e ≠ d → Fb e = []
  ga : GF Fa
  gb : GF Fb
theorem Oth.nil (d : Nat) : Oth (fun _ => []) (fun _ => []) d := ⟨rfl, fun a h => by simp [ids] at h, fun e a _ _ h => by simp [ids] at h, fun _ _ _ => rfl, GF.nil, GF.nil⟩
section
variable {Fa Fb : Nat → List (Int × Int)} {d : Nat}
theorem Oth.innA (h : Oth Fa Fb d) (hd : d < 4) {a : Int} (ha : a < 32) : inn Fa a = (ids (Fb d)).contains a := by
  rw [Bool.eq_iff_iff, inn_iff, List.contains_iff_mem]
  constructor
  · rintro ⟨e, he, hm⟩
    by_cases q : e = d
    · subst q; rw [← h.eq]; exact hm
    · have := h.hi e a he q hm; omega
  · intro hm
    exact ⟨d, hd, by rw [h.eq]; exact hm⟩
theorem Oth.innB (h : Oth Fa Fb d) (hd : d < 4) {a : Int} : inn Fb a = (ids (Fb d)).contains a := by
  rw [Bool.eq_iff_iff, inn_iff, List.contains_iff_mem]
  constructor
  · rintro ⟨e, he, hm⟩
    by_cases q : e = d
    · subst q; exact hm
    · rw [h.no e he q] at hm; simp [ids] at hm
  · intro hm
    exact ⟨d, hd, hm⟩
theorem Oth.same (h : Oth Fa Fb d) (hd : d < 4) {a : Int} (ha : a < 32) : inn Fa a = inn Fb a := by rw [h.innA hd ha, h.innB hd]
theorem Oth.errs (h : Oth Fa Fb d) (hd : d < 4) {a : Int} (ha : a < 32) (l : Int) : se Fa a d l = se Fb a d l := by unfold se; rw [h.same hd ha]
theorem Oth.other (h : Oth Fa Fb d) (hd : d < 4) {a e l : Int} (ha : 32 ≤ a) (he : e ≠ (d : Int)) : Oth (sp Fa a e l) Fb d := by
  refine ⟨?_, h.lo, ?_, h.no, h.ga.put a e l, h.gb⟩
  · unfold sp
    split
    · rename_i c
      rw [upd_ne _ _ (by omega), h.eq]
    · exact h.eq
  · intro f b hf hne hb
    unfold sp at hb
    split at hb
    · rename_i c
      by_cases q : f = e.toNat
      · subst q
        rw [upd_at, ids_app, List.mem_append] at hb
        rcases hb with hb | hb
        · exact h.hi _ b hf hne hb
        · simp at hb; omega
      · rw [upd_ne _ _ q] at hb; exact h.hi f b hf hne hb
    · exact h.hi f b hf hne hb
theorem Oth.put (h : Oth Fa Fb d) (hd : d < 4) {a l : Int} (ha : a < 32) : Oth (sp Fa a d l) (sp Fb a d l) d := by
  have hi := h.same hd ha
  unfold sp
  rw [hi]
  by_cases c : (0 ≤ a ∧ a < 64 ∧ (0 : Int) ≤ d ∧ (d : Int) < 4 ∧ 0 ≤ l ∧ l < 8) ∧ inn Fb a = false
  · have gA := h.ga.put a d l
    have gB := h.gb.put a d l
    unfold sp at gA gB
    rw [hi, if_pos c] at gA
    rw [if_pos c] at gB
    rw [if_pos c, if_pos c]
    rw [Int.toNat_natCast] at gA gB ⊢
    refine ⟨by rw [upd_at, upd_at, h.eq], fun b hb => ?_, fun e b he hne hb => ?_, fun e he hne => ?_, gA, gB⟩
    · rw [upd_at, ids_app, List.mem_append] at hb
      rcases hb with hb | hb
      · exact h.lo b hb
      · simp at hb; omega
    · rw [upd_ne _ _ hne] at hb; exact h.hi e b he hne hb
    · rw [upd_ne _ _ hne]; exact h.no e he hne
  · rw [if_neg c, if_neg c]; exact h
theorem Oth.drop (h : Oth Fa Fb d) (hd : d < 4) (a : Int) : Oth (sd Fa a) (sd Fb a) d := by
  refine ⟨by unfold sd; rw [h.eq], fun b hb => h.lo b (mem_rd.1 hb).1, fun e b he hne hb => h.hi e b he hne (mem_rd.1 hb).1, fun e he hne => ?_, h.ga.drop a, h.gb.drop a⟩
  unfold sd
  rw [h.no e he hne]
  rfl
theorem Oth.dropO (h : Oth Fa Fb d) (hd : d < 4) {a : Int} (ha : 32 ≤ a) : Oth (sd Fa a) Fb d := by
  refine ⟨?_, h.lo, fun e b he hne hb => h.hi e b he hne (mem_rd.1 hb).1, h.no, h.ga.drop a, h.gb⟩
  unfold sd
  rw [rd_not (fun e => ?_), h.eq]
  have := h.lo a (by rw [← h.eq]; exact e)
  omega
theorem Oth.yield (h : Oth Fa Fb d) (hd : d < 4) (a : Int) : Oth (sy Fa a) (sy Fb a) d := by
  have hm : ∀ F e x, x ∈ ids (sy F a e) → x ∈ ids (F e) := fun F e x hx => by
    unfold sy at hx
    split at hx
    · rename_i c
      rw [ids_app, List.mem_append] at hx
      rcases hx with hx | hx
      · exact (mem_rd.1 hx).1
      · simp at hx; subst hx; exact c
    · exact hx
  refine ⟨by unfold sy; rw [h.eq], fun b hb => h.lo b (hm Fb d b hb), fun e b he hne hb => h.hi e b he hne (hm Fa e b hb), fun e he hne => ?_, h.ga.yield a, h.gb.yield a⟩
  unfold sy
  rw [h.no e he hne]
  rw [if_neg (by simp [ids])]
end
end M
end Go.Proofs.Ytpacgdplbddclaa
