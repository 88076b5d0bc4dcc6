/-
  HOW MANY, AND IN WHICH ORDER: facts on the slots that are not empty. No Go function in sight.
-/
import Derived.Test.YtjlkinocpkcghaaArgs
namespace Go.Proofs.Ytjlkinocpkcghaa
/-- Two slots' names, laid. -/
theorem twoSlots (w : World) (a1 a2 b1 b2 : Int) : ∃ W, ((w.alloc (.cells #[.int .i64 a1, .int .i64 a2] 30)).alloc (.cells #[.int .i64 b1, .int .i64 b2] 30)).drew = W ∧ SBox W w.heap.size a1 a2 ∧ SBox W (w.heap.size + 1) b1 b2 ∧ w.grownBy W none :=
  ⟨_, rfl, ((SBox.made w a1 a2).kept (gbAlloc _ _ _)).kept (gbDrewN _ 1 none), (by simpa using SBox.made (w.alloc (.cells #[.int .i64 a1, .int .i64 a2] 30)) b1 b2 : SBox _ _ _ _).kept (gbDrewN _ 1 none), gbTrans (gbTrans (gbAlloc _ _ _) (gbAlloc _ _ _)) (gbDrewN _ 1 none)⟩

namespace M
/-- One behind the other. -/
def lex (a b : Int × Int) : Prop := a.1 < b.1 ∨ a.1 = b.1 ∧ a.2 < b.2
theorem rowTo_rise (id : Int) (d : Nd) : ∀ j, (rowTo id d j).Pairwise lex
  | 0 => List.Pairwise.nil
  | j + 1 => by
    rw [rowTo_succ]
    refine List.pairwise_append.2 ⟨rowTo_rise id d j, by split <;> simp, ?_⟩
    intro a ha b hb
    obtain ⟨i, hi, _, rfl⟩ := rowTo_mem ha
    split at hb
    · simp at hb; subst hb; exact .inr ⟨rfl, by simp; omega⟩
    · simp at hb
theorem fullTo_rise (S : St) : ∀ m, (fullTo S m).Pairwise lex
  | 0 => List.Pairwise.nil
  | m + 1 => by
    cases hs : S m with
    | none => rw [fullTo_none hs]; exact fullTo_rise S m
    | some d =>
      rw [fullTo_some hs]
      refine List.pairwise_append.2 ⟨fullTo_rise S m, rowTo_rise m d 16, ?_⟩
      intro a ha b hb
      obtain ⟨id, _, i, h1, _, _, _, rfl⟩ := full_mem ha
      obtain ⟨j, _, _, rfl⟩ := rowTo_mem hb
      exact .inl (by simp; omega)
theorem full_step (S : St) {i : Nat} {a b : Int × Int} (ha : (full S)[i]? = some a) (hb : (full S)[i + 1]? = some b) : lex a b := by
  obtain ⟨h1, rfl⟩ := List.getElem?_eq_some_iff.1 ha
  obtain ⟨h2, rfl⟩ := List.getElem?_eq_some_iff.1 hb
  exact List.pairwise_iff_getElem.1 (fullTo_rise S 64) i (i + 1) h1 h2 (by omega)
/-- What is not empty is a right capability of a kind. -/
theorem full_kind {S : St} (G : Good S) {p : Int × Int} (h : p ∈ full S) : 1 ≤ (getC S p.1 p.2).k ∧ (getC S p.1 p.2).k ≤ 11 ∧ 0 ≤ (getC S p.1 p.2).o ∧ (getC S p.1 p.2).o ≤ 63 := by
  have hp := h
  obtain ⟨id, d, i, h1, h2, h3, h4, rfl⟩ := full_mem h
  obtain ⟨d', i', _, h6, h7, h8⟩ := full_there G hp
  simp only at h6 h7
  rw [h2] at h6; cases h6
  obtain rfl : i = i' := by omega
  rw [getC_at h2 h8]
  have hc := G.chk id d i h2
  unfold chk at hc
  split at hc
  · rename_i hk
    split at hc
    · rename_i hb
      simp only [knd, Bool.and_eq_true, decide_eq_true_eq] at hk
      simp only [bnd, Bool.and_eq_true, decide_eq_true_eq] at hb
      refine ⟨?_, hk.2, hb.1.1.1.1.1, hb.1.1.1.1.2⟩
      have := hk.1
      omega
    · cases hc
  · cases hc

/-- All objects below m of a kind; all kinds below m. -/
def rs (S : St) (k : Int) (l : List (Int × Int)) : Nat → Nat
  | 0 => 0
  | m + 1 => rs S k l m + cntL S k m l
def ts (S : St) (l : List (Int × Int)) : Nat → Nat
  | 0 => 0
  | m + 1 => ts S l m + rs S m l 64
theorem rs_le (S : St) (k : Int) (l : List (Int × Int)) : ∀ m, rs S k l m ≤ m * l.length
  | 0 => by simp [rs]
  | m + 1 => by
    have := rs_le S k l m
    have := cntL_le S k m l
    rw [rs, Nat.succ_mul]; omega
theorem ts_le (S : St) (l : List (Int × Int)) : ∀ m, ts S l m ≤ m * (64 * l.length)
  | 0 => by simp [ts]
  | m + 1 => by
    have := ts_le S l m
    have := rs_le S m l 64
    rw [ts, Nat.succ_mul]; omega
theorem bound12 {k o l a b t : Nat} (hk : k < 12) (ho : o < 64) (hl : l ≤ 1024) (h1 : a ≤ k * (64 * l)) (h2 : b ≤ o * l) (h3 : t = a + b) : t ≤ 12 * (64 * 1024) + 64 * 1024 := by
  have e1 : k * (64 * l) ≤ 12 * (64 * 1024) := Nat.mul_le_mul (by omega) (Nat.mul_le_mul (Nat.le_refl _) hl)
  have e2 : o * l ≤ 64 * 1024 := Nat.mul_le_mul (by omega) hl
  omega
theorem rs_cons (S : St) (k : Int) (p : Int × Int) (l : List (Int × Int)) : ∀ m, rs S k (p :: l) m = rs S k [p] m + rs S k l m
  | 0 => rfl
  | m + 1 => by
    rw [rs, rs, rs, rs_cons S k p l m]
    have : cntL S k m (p :: l) = cntL S k m [p] + cntL S k m l := cntL_app S k m [p] l
    omega
theorem ts_cons (S : St) (p : Int × Int) (l : List (Int × Int)) : ∀ m, ts S (p :: l) m = ts S [p] m + ts S l m
  | 0 => rfl
  | m + 1 => by
    rw [ts, ts, ts, ts_cons S p l m, rs_cons]
    omega
theorem rs_one (S : St) (k : Int) (p : Int × Int) : ∀ m : Nat, rs S k [p] m = if (getC S p.1 p.2).k = k ∧ 0 ≤ (getC S p.1 p.2).o ∧ (getC S p.1 p.2).o < m then 1 else 0
  | 0 => by rw [rs, if_neg (by omega)]
  | m + 1 => by
    rw [rs, rs_one S k p m, cntL_one]
    unfold hit
    by_cases hk : (getC S p.1 p.2).k = k
    · by_cases ho : (getC S p.1 p.2).o = (m : Int)
      · simp [hk, ho]; omega
      · have h1 : ((getC S p.1 p.2).o == (m : Int)) = false := by simpa using ho
        rw [h1]
        simp only [Bool.and_false, Bool.false_eq_true, if_false, Nat.add_zero]
        by_cases h2 : (getC S p.1 p.2).k = k ∧ 0 ≤ (getC S p.1 p.2).o ∧ (getC S p.1 p.2).o < m
        · rw [if_pos h2, if_pos (by omega)]
        · rw [if_neg h2, if_neg (by omega)]
    · have h1 : ((getC S p.1 p.2).k == k) = false := by simpa using hk
      rw [h1, if_neg (fun e => hk e.1), if_neg (c := (getC S p.1 p.2).k = k ∧ 0 ≤ (getC S p.1 p.2).o ∧ (getC S p.1 p.2).o < ((m + 1 : Nat) : Int)) (fun e => hk e.1)]
      rfl
theorem ts_one (S : St) (p : Int × Int) (ho : 0 ≤ (getC S p.1 p.2).o ∧ (getC S p.1 p.2).o ≤ 63) : ∀ m : Nat, ts S [p] m = if 0 ≤ (getC S p.1 p.2).k ∧ (getC S p.1 p.2).k < m then 1 else 0
  | 0 => by rw [ts, if_neg (by omega)]
  | m + 1 => by
    rw [ts, ts_one S p ho m, rs_one]
    by_cases hk : (getC S p.1 p.2).k = (m : Int)
    · rw [if_neg (by omega), if_pos (by omega), if_pos (by omega)]
    · rw [if_neg (c := (getC S p.1 p.2).k = (m : Int) ∧ _) (by omega), Nat.add_zero]
      by_cases h2 : 0 ≤ (getC S p.1 p.2).k ∧ (getC S p.1 p.2).k < m
      · rw [if_pos h2, if_pos (by omega)]
      · rw [if_neg h2, if_neg (by omega)]
theorem ts_all (S : St) : ∀ l : List (Int × Int), (∀ p ∈ l, 1 ≤ (getC S p.1 p.2).k ∧ (getC S p.1 p.2).k ≤ 11 ∧ 0 ≤ (getC S p.1 p.2).o ∧ (getC S p.1 p.2).o ≤ 63) → ts S l 12 = l.length
  | [], _ => by
    have := ts_le S [] 12
    simpa using this
  | p :: l, h => by
    have hp := h p (by simp)
    rw [ts_cons, ts_one S p hp.2.2 12, ts_all S l (fun q hq => h q (by simp [hq])), if_pos (by omega), List.length_cons]
    omega
theorem ts_full {S : St} (G : Good S) : ts S (full S) 12 = (full S).length := ts_all S _ (fun _ hp => full_kind G hp)
theorem cnt_null {S : St} (G : Good S) : cnt S 0 0 = 0 := by
  unfold cnt cntL
  rw [List.length_eq_zero_iff, List.filter_eq_nil_iff]
  intro p hp h
  have := (full_kind G hp).1
  simp [hit] at h
  omega
end M
end Go.Proofs.Ytjlkinocpkcghaa
