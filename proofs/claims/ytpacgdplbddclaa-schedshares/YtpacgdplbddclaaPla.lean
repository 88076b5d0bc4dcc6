/-
  A SCHEDULE AND WHO IS READY, PLAIN: entries and their ticks, where so many ticks lie; for each domain its ids with their levels. No program, no memory.
-/
import Derived.Test.YtpacgdplbddclaaRdz
namespace Go.Proofs.Ytpacgdplbddclaa
set_option linter.unusedVariables false

namespace M
/-! ### Entries -/
def rt (o : Int × Int) : Bool := decide (0 ≤ o.1) && decide (o.1 < 4) && decide (1 ≤ o.2) && decide (o.2 ≤ 1000)
/-- Whether it is a schedule. -/
def ok (T : List (Int × Int)) : Bool := decide (1 ≤ T.length) && decide (T.length ≤ 16) && T.all rt
theorem rt_iff {o : Int × Int} : rt o = true ↔ 0 ≤ o.1 ∧ o.1 < 4 ∧ 1 ≤ o.2 ∧ o.2 ≤ 1000 := by
  unfold rt
  simp only [Bool.and_eq_true, decide_eq_true_eq]
  omega
structure Ok (T : List (Int × Int)) : Prop where
  l1 : 1 ≤ T.length
  l2 : T.length ≤ 16
  al : ∀ o ∈ T, 0 ≤ o.1 ∧ o.1 < 4 ∧ 1 ≤ o.2 ∧ o.2 ≤ 1000
theorem ok_iff {T : List (Int × Int)} : ok T = true ↔ Ok T := by
  unfold ok
  simp only [Bool.and_eq_true, decide_eq_true_eq, List.all_eq_true]
  constructor
  · rintro ⟨⟨h1, h2⟩, h3⟩
    exact ⟨h1, h2, fun o ho => rt_iff.1 (h3 o ho)⟩
  · rintro ⟨h1, h2, h3⟩
    exact ⟨⟨h1, h2⟩, fun o ho => rt_iff.2 (h3 o ho)⟩
/-- All ticks. -/
def tk : List (Int × Int) → Int
  | [] => 0
  | o :: T => o.2 + tk T
/-- The ticks of the first n entries. -/
def pre (T : List (Int × Int)) (n : Nat) : Int := tk (T.take n)
/-- An entry's domain, its ticks. -/
def dm (T : List (Int × Int)) (n : Nat) : Int := ((T[n]?).getD (0, 0)).1
def tt (T : List (Int × Int)) (n : Nat) : Int := ((T[n]?).getD (0, 0)).2
theorem tk_app (T U : List (Int × Int)) : tk (T ++ U) = tk T + tk U := by
  induction T with
  | nil => simp [tk]
  | cons o T ih => rw [List.cons_append, tk, tk, ih]; omega
theorem at_lt {T : List (Int × Int)} {n : Nat} (h : n < T.length) : T[n]? = some (dm T n, tt T n) := by
  unfold dm tt
  rw [List.getElem?_eq_getElem h]
  rfl
theorem pre_zero (T : List (Int × Int)) : pre T 0 = 0 := rfl
theorem pre_succ {T : List (Int × Int)} {n : Nat} (h : n < T.length) : pre T (n + 1) = pre T n + tt T n := by
  unfold pre
  rw [List.take_add_one, at_lt h, tk_app]
  simp [tk]
theorem pre_all (T : List (Int × Int)) : pre T T.length = tk T := by
  unfold pre
  rw [List.take_length]
section
variable {T : List (Int × Int)}
theorem Ok.dmB (h : Ok T) {n : Nat} (hn : n < T.length) : 0 ≤ dm T n ∧ dm T n < 4 ∧ 1 ≤ tt T n ∧ tt T n ≤ 1000 := h.al _ (List.mem_of_getElem? (at_lt hn))
theorem Ok.pre_bd (h : Ok T) : ∀ n, n ≤ T.length → (n : Int) ≤ pre T n ∧ pre T n ≤ 1000 * (n : Int) := by
  intro n
  induction n with
  | zero => intro _; rw [pre_zero]; simp
  | succ n ih =>
    intro hn
    have h1 := ih (by omega)
    have h2 := h.dmB (n := n) (by omega)
    rw [pre_succ (by omega)]
    push_cast
    omega
theorem Ok.pre_mono (h : Ok T) : ∀ k n, n + k ≤ T.length → pre T n + (k : Int) ≤ pre T (n + k) := by
  intro k
  induction k with
  | zero => intro n _; simp
  | succ k ih =>
    intro n hn
    have h1 := ih n (by omega)
    have h2 := h.dmB (n := n + k) (by omega)
    rw [← Nat.add_assoc, pre_succ (by omega)]
    push_cast
    omega
theorem Ok.tk_bd (h : Ok T) : 1 ≤ tk T ∧ tk T ≤ 16000 := by
  have h1 := h.pre_bd T.length (Nat.le_refl _)
  have h2 := h.l1
  have h3 := h.l2
  rw [pre_all] at h1
  omega
end
/-- Entry n runs, l of its ticks are left: N ticks have gone. -/
structure Ps (T : List (Int × Int)) (n : Nat) (l N : Int) : Prop where
  lt : n < T.length
  l1 : 1 ≤ l
  l2 : l ≤ tt T n
  eq : N = pre T n + (tt T n - l)
/-- What a tick makes of it: the entry, and how many are left. -/
def tn (T : List (Int × Int)) (n : Nat) (l : Int) : Nat := if 1 < l then n else (n + 1) % T.length
def tl (T : List (Int × Int)) (n : Nat) (l : Int) : Int := if 1 < l then l - 1 else tt T ((n + 1) % T.length)
section
variable {T : List (Int × Int)} {n : Nat} {l N : Int}
theorem Ps.zero (h : Ok T) : Ps T 0 (tt T 0) 0 := ⟨h.l1, (h.dmB h.l1).2.2.1, by omega, by rw [pre_zero]; omega⟩
theorem Ps.bd (p : Ps T n l N) (h : Ok T) : pre T n ≤ N ∧ N < pre T (n + 1) ∧ pre T (n + 1) ≤ tk T ∧ 0 ≤ N ∧ l = pre T (n + 1) - N := by
  have h1 := pre_succ p.lt
  have h2 := h.pre_mono (T.length - (n + 1)) (n + 1) (by have := p.lt; omega)
  have h3 := (h.pre_bd n (by have := p.lt; omega)).1
  have e : n + 1 + (T.length - (n + 1)) = T.length := by have := p.lt; omega
  rw [e, pre_all] at h2
  have := p.eq
  have := p.l1
  have := p.l2
  omega
theorem Ps.tick (p : Ps T n l N) (h : Ok T) : Ps T (tn T n l) (tl T n l) ((N + 1) % tk T) := by
  have hb := p.bd h
  unfold tn tl
  by_cases c : 1 < l
  · rw [if_pos c, if_pos c]
    refine ⟨p.lt, by omega, by have := p.l2; omega, ?_⟩
    rw [Int.emod_eq_of_lt (by omega) (by omega)]
    have := p.eq
    omega
  · rw [if_neg c, if_neg c]
    have h1 : l = 1 := by have := p.l1; omega
    have h2 : N + 1 = pre T (n + 1) := by omega
    by_cases d : n + 1 < T.length
    · have e : (n + 1) % T.length = n + 1 := Nat.mod_eq_of_lt d
      rw [e, h2]
      have h3 := h.pre_mono (T.length - (n + 1)) (n + 1) (by omega)
      have e2 : n + 1 + (T.length - (n + 1)) = T.length := by omega
      rw [e2, pre_all] at h3
      rw [Int.emod_eq_of_lt (by omega) (by omega)]
      exact ⟨d, (h.dmB d).2.2.1, by omega, by omega⟩
    · have e0 : n + 1 = T.length := by have := p.lt; omega
      rw [h2, e0, Nat.mod_self, pre_all, Int.emod_self]
      exact Ps.zero h
theorem Ps.tn_lt (p : Ps T n l N) (h : Ok T) : tn T n l < T.length := (p.tick h).lt
end

/-! ### Who is ready -/
/-- Each domain's ids; nobody twice. -/
structure GF (F : Nat → List (Int × Int)) : Prop where
  gd : ∀ d, d < 4 → Gd (F d)
  ap : ∀ d e a, d < 4 → e < 4 → a ∈ ids (F d) → a ∈ ids (F e) → d = e
  rg : ∀ d a, d < 4 → a ∈ ids (F d) → 0 ≤ a ∧ a < 64
def inn (F : Nat → List (Int × Int)) (a : Int) : Bool := (ids (F 0)).contains a || (ids (F 1)).contains a || (ids (F 2)).contains a || (ids (F 3)).contains a
theorem inn_iff {F : Nat → List (Int × Int)} {a : Int} : inn F a = true ↔ ∃ d, d < 4 ∧ a ∈ ids (F d) := by
  unfold inn
  simp only [Bool.or_eq_true, List.contains_iff_mem]
  constructor
  · rintro (((h | h) | h) | h)
    · exact ⟨0, by omega, h⟩
    · exact ⟨1, by omega, h⟩
    · exact ⟨2, by omega, h⟩
    · exact ⟨3, by omega, h⟩
  · rintro ⟨d, hd, h⟩
    have : d = 0 ∨ d = 1 ∨ d = 2 ∨ d = 3 := by omega
    rcases this with rfl | rfl | rfl | rfl
    · exact .inl (.inl (.inl h))
    · exact .inl (.inl (.inr h))
    · exact .inl (.inr h)
    · exact .inr h
theorem inn_not {F : Nat → List (Int × Int)} {a : Int} (h : inn F a = false) : ∀ d, d < 4 → a ∉ ids (F d) := fun d hd e => by
  rw [inn_iff.2 ⟨d, hd, e⟩] at h
  cases h
/-- Put's range. -/
def pr (a d l : Int) : Prop := 0 ≤ a ∧ a < 64 ∧ 0 ≤ d ∧ d < 4 ∧ 0 ≤ l ∧ l < 8
theorem pr_dec (a d l : Int) : pr a d l ∨ ¬ pr a d l := by unfold pr; omega
def se (F : Nat → List (Int × Int)) (a d l : Int) : Int := if 0 ≤ a ∧ a < 64 ∧ 0 ≤ d ∧ d < 4 ∧ 0 ≤ l ∧ l < 8 then (if inn F a then 4 else 0) else 1
def sp (F : Nat → List (Int × Int)) (a d l : Int) : Nat → List (Int × Int) := if (0 ≤ a ∧ a < 64 ∧ 0 ≤ d ∧ d < 4 ∧ 0 ≤ l ∧ l < 8) ∧ inn F a = false then upd F d.toNat (F d.toNat ++ [(a, l)]) else F
def sd (F : Nat → List (Int × Int)) (a : Int) : Nat → List (Int × Int) := fun d => rd (F d) a
/-- The level of one that is there. -/
def lo (R : List (Int × Int)) (a : Int) : Int := ((R.find? fun o => o.1 == a).map (·.2)).getD 0
def sy (F : Nat → List (Int × Int)) (a : Int) : Nat → List (Int × Int) := fun d => if a ∈ ids (F d) then rd (F d) a ++ [(a, lo (F d) a)] else F d
theorem lo_at {R : List (Int × Int)} {a : Int} (g : Gd R) {l : Int} (h : (a, l) ∈ R) : lo R a = l := by
  unfold lo
  cases e : R.find? fun o => o.1 == a with
  | none =>
    rw [List.find?_eq_none] at e
    exact absurd (e (a, l) h) (by simp)
  | some o =>
    have h1 := List.mem_of_find?_eq_some e
    have h2 := List.find?_some e
    simp at h2
    obtain ⟨x, y⟩ := o
    simp at h2
    subst h2
    exact g.one h1 h
theorem lo_mem {R : List (Int × Int)} {a : Int} (g : Gd R) (h : a ∈ ids R) : (a, lo R a) ∈ R := by
  obtain ⟨l, hl⟩ := mem_ids.1 h
  rw [lo_at g hl]
  exact hl
theorem lo_bd {R : List (Int × Int)} {a : Int} (g : Gd R) (h : a ∈ ids R) : 0 ≤ lo R a ∧ lo R a < 8 := g.le _ _ (lo_mem g h)
theorem GF.nil : GF (fun _ => []) := ⟨fun _ _ => Gd.nil, fun d e a _ _ h => by simp [ids] at h, fun d a _ h => by simp [ids] at h⟩
theorem ids_app (R : List (Int × Int)) (a l : Int) : ids (R ++ [(a, l)]) = ids R ++ [a] := by unfold ids; simp
theorem mem_rd {R : List (Int × Int)} {a x : Int} : x ∈ ids (rd R a) ↔ x ∈ ids R ∧ x ≠ a := by
  rw [ids_rd]
  unfold wo
  rw [List.mem_filter]
  simp
section
variable {F : Nat → List (Int × Int)}
theorem GF.put (g : GF F) (a d l : Int) : GF (sp F a d l) := by
  unfold sp
  split
  · rename_i c
    have hn := inn_not c.2
    have c1 := c.1
    obtain ⟨k, rfl⟩ : ∃ k : Nat, d = k := ⟨d.toNat, by omega⟩
    have hk : k < 4 := by omega
    rw [Int.toNat_natCast]
    have hp : F k ++ [(a, l)] = rl (F k) a l := by
      unfold rl
      rw [if_pos ⟨by omega, hn k hk⟩]
    have hm : ∀ e x, e < 4 → x ∈ ids (upd F k (F k ++ [(a, l)]) e) → x ∈ ids (F e) ∨ (x = a ∧ e = k) := fun e x he hx => by
      by_cases q : e = k
      · subst q
        rw [upd_at, ids_app, List.mem_append] at hx
        rcases hx with hx | hx
        · exact .inl hx
        · simp at hx; exact .inr ⟨hx, rfl⟩
      · rw [upd_ne _ _ q] at hx; exact .inl hx
    refine ⟨fun e he => ?_, fun e f x he hf hx hy => ?_, fun e x he hx => ?_⟩
    · by_cases q : e = k
      · subst q; rw [upd_at, hp]; exact (g.gd e he).put a l
      · rw [upd_ne _ _ q]; exact g.gd e he
    · rcases hm e x he hx with h1 | ⟨h1, h2⟩ <;> rcases hm f x hf hy with h3 | ⟨h3, h4⟩
      · exact g.ap e f x he hf h1 h3
      · subst h3; exact absurd h1 (hn e he)
      · subst h1; exact absurd h3 (hn f hf)
      · rw [h2, h4]
    · rcases hm e x he hx with h1 | ⟨h1, _⟩
      · exact g.rg e x he h1
      · subst h1; omega
  · exact g
theorem GF.drop (g : GF F) (a : Int) : GF (sd F a) :=
  ⟨fun d hd => (g.gd d hd).drop a, fun d e x hd he h1 h2 => g.ap d e x hd he (mem_rd.1 h1).1 (mem_rd.1 h2).1, fun d x hd h1 => g.rg d x hd (mem_rd.1 h1).1⟩
theorem GF.yield (g : GF F) (a : Int) : GF (sy F a) := by
  have hm : ∀ d x, d < 4 → x ∈ ids (sy F a d) → x ∈ ids (F d) := fun d x hd hx => by
    unfold sy at hx
    split at hx
    · rename_i c
      rw [ids_app, List.mem_append] at hx
      rcases hx with hx | hx
      · exact (mem_rd.1 hx).1
      · simp at hx; subst hx; exact c
    · exact hx
  refine ⟨fun d hd => ?_, fun d e x hd he h1 h2 => g.ap d e x hd he (hm d x hd h1) (hm e x he h2), fun d x hd h1 => g.rg d x hd (hm d x hd h1)⟩
  unfold sy
  split
  · rename_i c
    have h1 := lo_bd (g.gd d hd) c
    have h2 := g.rg d a hd c
    have hp : rd (F d) a ++ [(a, lo (F d) a)] = rl (rd (F d) a) a (lo (F d) a) := by
      unfold rl
      rw [if_pos ⟨by omega, fun e => (mem_rd.1 e).2 rfl⟩]
    rw [hp]
    exact ((g.gd d hd).drop a).put _ _
  · exact g.gd d hd
end
/-- Nobody twice, and all below 64: at most 64. -/
theorem below_len : ∀ (n : Nat) (L : List Int), L.Nodup → (∀ x ∈ L, 0 ≤ x ∧ x < (n : Int)) → L.length ≤ n := by
  intro n
  induction n with
  | zero =>
    intro L hd hb
    cases L with
    | nil => simp
    | cons x L => have := hb x (by simp); simp at this; omega
  | succ n ih =>
    intro L hd hb
    have h1 := ih (L.erase (n : Int)) (hd.erase _) (fun x hx => by
      have h2 := (List.Nodup.mem_erase_iff hd).1 hx
      have h3 := hb x h2.2
      have h4 := h2.1
      push_cast at h3
      omega)
    have h2 := List.length_erase_le (a := (n : Int)) (l := L)
    have h3 : L.length ≤ (L.erase (n : Int)).length + 1 := by
      rw [List.length_erase]
      split <;> omega
    omega
theorem GF.len {F : Nat → List (Int × Int)} (g : GF F) {d : Nat} (hd : d < 4) : (F d).length ≤ 64 := by
  have h1 := below_len 64 (ids (F d)) (g.gd d hd).nd (fun x hx => g.rg d x hd hx)
  unfold ids at h1
  rwa [List.length_map] at h1
/-- Where one is that is there. -/
theorem GF.who {F : Nat → List (Int × Int)} (g : GF F) {a : Int} (h : inn F a = true) : ∃ d, d < 4 ∧ a ∈ ids (F d) ∧ ∀ e, e < 4 → e ≠ d → a ∉ ids (F e) := by
  obtain ⟨d, hd, h1⟩ := inn_iff.1 h
  exact ⟨d, hd, h1, fun e he hne h2 => hne (g.ap e d a he hd h2 h1)⟩
/-- Dropped, seen from the domain that had it. -/
theorem sd_at {F : Nat → List (Int × Int)} {a : Int} {d : Nat} (h : ∀ e, e < 4 → e ≠ d → a ∉ ids (F e)) : ∀ e, e < 4 → upd F d (rd (F d) a) e = sd F a e := fun e he => by
  unfold sd
  by_cases q : e = d
  · subst q; rw [upd_at]
  · rw [upd_ne _ _ q, rd_not (h e he q)]
theorem sd_not {F : Nat → List (Int × Int)} {a : Int} (h : inn F a = false) : ∀ e, e < 4 → F e = sd F a e := fun e he => by
  unfold sd
  rw [rd_not (inn_not h e he)]
theorem sy_at {F : Nat → List (Int × Int)} {a : Int} {d : Nat} (hd : a ∈ ids (F d)) (h : ∀ e, e < 4 → e ≠ d → a ∉ ids (F e)) : ∀ e, e < 4 → upd F d (rd (F d) a ++ [(a, lo (F d) a)]) e = sy F a e := fun e he => by
  unfold sy
  by_cases q : e = d
  · subst q; rw [upd_at, if_pos hd]
  · rw [upd_ne _ _ q, if_neg (h e he q)]
theorem sy_not {F : Nat → List (Int × Int)} {a : Int} (h : inn F a = false) : ∀ e, e < 4 → F e = sy F a e := fun e he => by
  unfold sy
  rw [if_neg (inn_not h e he)]
end M
end Go.Proofs.Ytpacgdplbddclaa
