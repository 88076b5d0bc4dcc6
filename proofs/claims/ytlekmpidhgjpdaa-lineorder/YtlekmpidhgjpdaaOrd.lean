/-
  WHO IS NEXT, PLAIN: the first one of the highest level, by its place in the order in which they came.
-/
import Derived.Test.YtlekmpidhgjpdaaRrp
import Derived.Test.YtlekmpidhgjpdaaBes
namespace Go.Proofs.Ytlekmpidhgjpdaa
set_option linter.unusedVariables false

namespace M
/-- Of the first i the k-th one is the first of the highest level. -/
def Mx (D : List (Int × Int)) (i k : Nat) : Prop := k < i ∧ (∀ t o o', t < i → D[t]? = some o → D[k]? = some o' → o.2 ≤ o'.2) ∧ ∀ t o o', t < k → D[t]? = some o → D[k]? = some o' → o.2 < o'.2
theorem Mx.one (D : List (Int × Int)) : Mx D 1 0 := ⟨by omega, fun t o o' ht h h' => by
  obtain rfl : t = 0 := by omega
  rw [h] at h'; cases h'; omega, fun t o o' ht => by omega⟩
theorem Mx.stay {D : List (Int × Int)} {i k : Nat} {o o' : Int × Int} (h : Mx D i k) (hi : D[i]? = some o) (hk : D[k]? = some o') (hl : ¬ o'.2 < o.2) : Mx D (i + 1) k := by
  refine ⟨by have := h.1; omega, fun t p p' ht hp hp' => ?_, h.2.2⟩
  by_cases e : t = i
  · subst e
    rw [hi] at hp; cases hp
    rw [hk] at hp'; cases hp'
    omega
  · exact h.2.1 t p p' (by omega) hp hp'
theorem Mx.turn {D : List (Int × Int)} {i k : Nat} {o o' : Int × Int} (h : Mx D i k) (hi : D[i]? = some o) (hk : D[k]? = some o') (hl : o'.2 < o.2) : Mx D (i + 1) i := by
  refine ⟨by omega, fun t p p' ht hp hp' => ?_, fun t p p' ht hp hp' => ?_⟩
  · rw [hi] at hp'; cases hp'
    by_cases e : t = i
    · subst e; rw [hi] at hp; cases hp; omega
    · have := h.2.1 t p o' (by omega) hp hk; omega
  · rw [hi] at hp'; cases hp'
    have := h.2.1 t p o' ht hp hk; omega
theorem lv_first {D : List (Int × Int)} {l : Int} : ∀ {k : Nat} {a : Int}, D[k]? = some (a, l) → (∀ t o, t < k → D[t]? = some o → o.2 ≠ l) → ∃ L, lv D l = a :: L := by
  induction D with
  | nil => intro k a h; simp at h
  | cons o D ih =>
    intro k a h hn
    cases k with
    | zero =>
      simp at h
      subst h
      exact ⟨lv D l, by unfold lv; simp⟩
    | succ k =>
      have h0 : o.2 ≠ l := hn 0 o (by omega) rfl
      obtain ⟨L, hL⟩ := ih (k := k) (a := a) (by simpa using h) (fun t o' ht ho => hn (t + 1) o' (by omega) (by simpa using ho))
      refine ⟨L, ?_⟩
      unfold lv at hL ⊢
      simp [h0, hL]
theorem bb_of {D : List (Int × Int)} {a : Int} {l : Nat} (h : (a, (l : Int)) ∈ D) : bb D l = true := by
  have := mem_lv.2 h
  unfold bb
  cases e : lv D (l : Int) with
  | nil => rw [e] at this; cases this
  | cons _ _ => rfl
theorem of_bb {D : List (Int × Int)} {l : Nat} (h : bb D l = true) : ∃ a, (a, (l : Int)) ∈ D := by
  unfold bb at h
  cases e : lv D (l : Int) with
  | nil => rw [e] at h; cases h
  | cons a L => exact ⟨a, mem_lv.1 (by rw [e]; exact List.mem_cons_self)⟩
theorem hi_eq {b : Nat → Bool} {h : Nat} : ∀ {n : Nat}, h < n → b h = true → (∀ i, h < i → i < n → b i = false) → hi b n = (h : Int) := by
  intro n
  induction n with
  | zero => intro h1; omega
  | succ n ih =>
    intro h1 h2 h3
    rw [hi]
    by_cases e : h = n
    · subst e; rw [h2]; simp
    · rw [h3 n (by omega) (by omega), ih (by omega) h2 (fun i a b => h3 i a (by omega))]
      simp
theorem wd_top {b : Nat → Bool} {h : Nat} : ∀ {n : Nat}, h < n → b h = true → (∀ i, h < i → i < n → b i = false) → wd b n / 2 ^ h = 1 := by
  intro n
  induction n with
  | zero => intro h1; omega
  | succ n ih =>
    intro h1 h2 h3
    by_cases e : h = n
    · subst e
      rw [wd_yes h2]
      have := wd_lt b h
      have hp : 0 < 2 ^ h := Nat.two_pow_pos h
      rw [Nat.add_div_right _ hp, Nat.div_eq_of_lt this]
    · rw [wd_no (h3 n (by omega) (by omega))]
      exact ih (by omega) h2 (fun i a b => h3 i a (by omega))
/-- All that the law wants of the one that is next. -/
theorem order {D : List (Int × Int)} (hg : Gd D) {k : Nat} {a l : Int} (h : Mx D D.length k) (hk : D[k]? = some (a, l)) : ∃ h : Nat, l = (h : Int) ∧ h < 8 ∧ nx D = a ∧ nb D = true ∧ lw D / 2 ^ h = 1 ∧ (ids D).contains a = true ∧ rd D a = D.eraseIdx k := by
  have hm : (a, l) ∈ D := List.mem_of_getElem? hk
  have hl := hg.le a l hm
  obtain ⟨h', rfl⟩ : ∃ h : Nat, l = (h : Int) := ⟨l.toNat, by omega⟩
  have hb := bb_of hm
  have hno : ∀ i, h' < i → i < 8 → bb D i = false := fun i h1 h2 => by
    cases e : bb D i with
    | false => rfl
    | true =>
      obtain ⟨c, hc⟩ := of_bb e
      obtain ⟨t, ht⟩ := List.getElem?_of_mem hc
      have ht2 := (List.getElem?_eq_some_iff.1 ht).1
      have := h.2.1 t _ _ ht2 ht hk
      simp only at this
      omega
  have hhi := hi_eq (n := 8) (by omega) hb hno
  obtain ⟨L, hL⟩ := lv_first hk (fun t o ht ho e => by have := h.2.2 t o _ ht ho hk; simp only at this; omega)
  refine ⟨h', rfl, by omega, ?_, ?_, wd_top (by omega) hb hno, ?_, ?_⟩
  · unfold nx
    rw [hhi, if_neg (by omega), hL]
    rfl
  · unfold nb
    rw [hhi, if_neg (by omega)]
  · simp
    exact mem_ids.2 ⟨_, hm⟩
  · exact (rd_erase hg.nd hk).symm
theorem order_nil : nx [] = 0 ∧ nb [] = false ∧ lw [] = 0 := ⟨by decide, by decide, by decide⟩
end M
end Go.Proofs.Ytlekmpidhgjpdaa
