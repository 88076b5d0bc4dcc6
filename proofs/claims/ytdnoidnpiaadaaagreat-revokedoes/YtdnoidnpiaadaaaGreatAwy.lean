/-
  WHAT IS TAKEN AWAY FOR GOOD, PLAINLY: what is final, a step, what must go ahead of a slot, a slot's capability taken away with all that must go ahead of it, all that comes of a slot taken away. Speaks of no function of the program.
-/
import Derived.Test.YtdnoidnpiaadaaaGreatG16
namespace Go.Proofs.YtdnoidnpiaadaaaGreat
set_option maxRecDepth 10000
set_option linter.unusedVariables false

namespace M
theorem mem_full {S : St} (G : Good S) (x : Int × Int) : x ∈ full S ↔ (gc S x).k ≠ 0 := by
  unfold full fullTo
  rw [List.mem_flatMap]
  constructor
  · rintro ⟨id, hid, hx⟩
    cases hs : S id with
    | none => rw [hs] at hx; cases hx
    | some d =>
      rw [hs] at hx
      unfold rowTo at hx
      obtain ⟨i, hi, rfl⟩ := List.mem_map.1 hx
      obtain ⟨h1, h2⟩ := List.mem_filter.1 hi
      have hk : (d.f i).k ≠ 0 := by simpa using h2
      have hlt : i < 2 ^ d.r := Classical.byContradiction fun hc => hk (by rw [G.out _ _ _ hs (by omega)])
      show (getC S id i).k ≠ 0
      rw [getC_at hs hlt]; exact hk
  · intro h
    have ht := gc_th h
    have hr := th_range G ht
    obtain ⟨d, j, hs, hi, hj⟩ := there_yes ht
    refine ⟨x.1.toNat, by simp; omega, ?_⟩
    have e1 : ((x.1.toNat : Nat) : Int) = x.1 := by omega
    rw [e1, hs]
    unfold rowTo
    refine List.mem_map.2 ⟨j, List.mem_filter.2 ⟨by simp; omega, ?_⟩, Prod.ext rfl hi.symm⟩
    unfold gc at h
    rw [hi, getC_at hs hj] at h
    simpa using h

/-- What a call that takes away has: the store, the tree, how many steps are left, what was told. -/
structure X where
  S : St
  f : T9.Fo
  l : Nat
  T : List C
def fin (S : St) (a : Int × Int) : Bool := ((cnt S (gc S a).k (gc S a).o : Nat) : Int) == 1
def fall (S : St) (a : Int × Int) : St := if fin S a && ((gc S a).k == 2) then dropS (takS S a) (gc S a).o else takS S a
def one (x : X) (a : Int × Int) : X := ⟨fall x.S a, takF x.S x.f a, x.l - 1, if fin x.S a then x.T ++ [gc x.S a] else x.T⟩
def stp (x : X) (a : Int × Int) : Bool × X := if x.l = 0 then (true, x) else (false, one x a)
def ahd (S : St) (a : Int × Int) (L : List (Int × Int)) : Option (Int × Int) :=
  if (gc S a).k == 2 && fin S a then (full S).find? (fun s => s.1 == (gc S a).o && !decide (s ∈ L)) else none
def away : Nat → X → Int × Int → List (Int × Int) → Bool × X
  | 0, x, _, _ => (false, x)
  | n + 1, x, a, L => match ahd x.S a (L ++ [a]) with
    | none => stp x a
    | some b => match away n x b (L ++ [a]) with
      | (true, y) => (true, y)
      | (false, y) => away n y a L
def rvk : Nat → X → Int × Int → Bool × X
  | 0, x, _ => (false, x)
  | n + 1, x, a => match (x.f.kin a).getLast? with
    | none => (false, x)
    | some b => match away x.f.len x b [] with
      | (true, y) => (true, y)
      | (false, y) => rvk n y a

/-- What holds of it all along. -/
structure Ok (x : X) : Prop where
  i : Inv x.S x.f
  s : Good x.S
  t : T9.Good x.f
/-- How many slots are not empty, and not among some. -/
def free (f : T9.Fo) (L : List (Int × Int)) : Nat := (f.pre.filter (fun s => !decide (s ∈ L))).length

theorem gc_fall {S : St} (G : Good S) (a s : Int × Int) (h : srcE S a = 0) : gc (fall S a) s = if s = a then C.zero else gc S s := by
  have e : gc (takS S a) s = if s = a then C.zero else gc S s := by unfold takS; rw [takeS_up h, gc_up _ (srcE_ok h).1]
  unfold fall
  split
  · exact (gc_wipe (S := takS S a) (G.take a.1 a.2) _ s).trans e
  · exact e
theorem Ok.one {x : X} (h : Ok x) {a : Int × Int} (ha : (gc x.S a).k ≠ 0) : Ok (M.one x a) := by
  have hs := srcE_yes ha
  refine ⟨?_, ?_, ?_⟩
  · refine Inv.same (S := takS x.S a) (h.i.tak h.t a) (fun s => ?_)
    show gc (fall x.S a) s = _
    unfold fall
    split
    · exact gc_wipe (h.s.take a.1 a.2) _ s
    · rfl
  · show Good (fall x.S a)
    unfold fall
    split
    · exact (h.s.take a.1 a.2).drop _
    · exact h.s.take a.1 a.2
  · show T9.Good (takF x.S x.f a)
    unfold takF
    rw [if_pos hs]
    exact h.t.drop _
theorem pre_one {x : X} (h : Ok x) {a : Int × Int} (ha : (gc x.S a).k ≠ 0) : (one x a).f.pre = x.f.pre.filter (fun s => decide (s ≠ a)) := by
  have hs := srcE_yes ha
  show (takF x.S x.f a).pre = _
  unfold takF
  rw [if_pos hs, (tak_ok h.i hs).2, T9.Fo.pre_drop h.t.nd]
  exact List.filter_congr (fun y _ => by by_cases e : y = a <;> simp [e])
theorem len_one {x : X} (h : Ok x) {a : Int × Int} (ha : (gc x.S a).k ≠ 0) : (one x a).f.len + 1 = x.f.len := by
  unfold T9.Fo.len
  rw [pre_one h ha]
  have hn := h.t.nd
  have hm := (h.i.inv a).2 ha
  generalize x.f.pre = l at hn hm
  induction l with
  | nil => cases hm
  | cons b l ih =>
    obtain ⟨h1, h2⟩ := List.nodup_cons.1 hn
    by_cases e : b = a
    · subst e
      have : l.filter (fun s => decide (s ≠ b)) = l := List.filter_eq_self.2 (fun y hy => by simp; rintro rfl; exact h1 hy)
      rw [List.filter_cons_of_neg (by simp), this]; rfl
    · rw [List.filter_cons_of_pos (by simpa using e)]
      have := ih h2 (by rcases List.mem_cons.1 hm with e' | e'; exact absurd e'.symm e; exact e')
      simp only [List.length_cons]; omega
theorem ahd_some {S : St} (G : Good S) {a b : Int × Int} {L : List (Int × Int)} (h : ahd S a L = some b) : (gc S a).k = 2 ∧ fin S a = true ∧ (gc S b).k ≠ 0 ∧ b ∉ L ∧ b.1 = (gc S a).o := by
  unfold ahd at h
  split at h
  · rename_i hc
    simp only [Bool.and_eq_true, beq_iff_eq] at hc
    have hp := List.find?_some h
    have hm := List.mem_of_find?_eq_some h
    simp only [Bool.and_eq_true, beq_iff_eq, Bool.not_eq_true', decide_eq_false_iff_not] at hp
    exact ⟨hc.1, hc.2, (mem_full G b).1 hm, hp.2, hp.1⟩
  · cases h
theorem free_less {f : T9.Fo} {L : List (Int × Int)} {a : Int × Int} (hn : f.pre.Nodup) (ha : a ∈ f.pre) (hL : a ∉ L) : free f (L ++ [a]) + 1 = free f L := by
  unfold free
  generalize f.pre = l at hn ha
  induction l with
  | nil => cases ha
  | cons b l ih =>
    obtain ⟨h1, h2⟩ := List.nodup_cons.1 hn
    by_cases e : b = a
    · subst e
      have : l.filter (fun s => !decide (s ∈ L ++ [b])) = l.filter (fun s => !decide (s ∈ L)) := List.filter_congr (fun y hy => by
        have : y ≠ b := fun e => h1 (e ▸ hy)
        simp [this])
      rw [List.filter_cons_of_neg (by simp), List.filter_cons_of_pos (by simpa using hL), this]; rfl
    · have := ih h2 (by rcases List.mem_cons.1 ha with e' | e'; exact absurd e'.symm e; exact e')
      by_cases eL : b ∈ L
      · rw [List.filter_cons_of_neg (by simp [eL]), List.filter_cons_of_neg (by simp [eL])]; exact this
      · rw [List.filter_cons_of_pos (by simp [eL, e]), List.filter_cons_of_pos (by simp [eL])]
        simp only [List.length_cons]; omega
theorem free_nil (f : T9.Fo) : free f [] = f.len := by
  unfold free T9.Fo.len
  rw [List.filter_eq_self.2 (fun y _ => by simp)]
theorem subs_len : ∀ (l k : List (Int × Int)), l.Nodup → (∀ y, y ∈ l → y ∈ k) → l.length ≤ k.length
  | [], _, _, _ => Nat.zero_le _
  | a :: l, k, h, hs => by
    obtain ⟨h1, h2⟩ := List.nodup_cons.1 h
    have := subs_len l (k.erase a) h2 (fun y hy => (List.mem_erase_of_ne (fun e => h1 (by rw [← e]; exact hy))).2 (hs y (by simp [hy])))
    have ha := hs a (by simp)
    rw [List.length_erase_of_mem ha] at this
    have := List.length_pos_of_mem ha
    simp only [List.length_cons]; omega
/-- Fewer slots that are not empty, one of them gone. -/
theorem free_gone {f g : T9.Fo} {L : List (Int × Int)} {a : Int × Int} (hn : f.pre.Nodup) (hg : g.pre.Nodup) (hs : ∀ s, s ∈ g.pre → s ∈ f.pre) (ha : a ∈ f.pre) (hL : a ∉ L) (hb : a ∉ g.pre) : free g L + 1 ≤ free f L := by
  rw [← free_less hn ha hL]
  unfold free
  refine Nat.succ_le_succ (subs_len _ _ (List.Nodup.sublist List.filter_sublist hg) (fun y hy => ?_))
  simp only [List.mem_filter, Bool.not_eq_true', decide_eq_false_iff_not] at hy ⊢
  refine ⟨hs y hy.1, fun k => ?_⟩
  rcases List.mem_append.1 k with e | e
  · exact hy.2 e
  · rw [List.mem_singleton] at e; exact hb (e ▸ hy.1)

/-- What becomes of it. -/
structure Gone (x : X) (a : Int × Int) (L : List (Int × Int)) (r : Bool × X) : Prop where
  ok : Ok r.2
  gc : ∀ s, M.gc r.2.S s = M.gc x.S s ∨ M.gc r.2.S s = C.zero
  stay : ∀ s ∈ L, M.gc r.2.S s = M.gc x.S s
  done : r.1 = false → M.gc r.2.S a = C.zero
  more : r.1 = true → r.2.l = 0 ∧ M.gc r.2.S a = M.gc x.S a
  len : r.2.f.len + x.l = x.f.len + r.2.l
  le : r.2.l ≤ x.l
theorem Gone.of_stp {x : X} (h : Ok x) {a : Int × Int} (ha : (M.gc x.S a).k ≠ 0) {L : List (Int × Int)} (hL : a ∉ L) : Gone x a L (stp x a) := by
  unfold stp
  by_cases e : x.l = 0
  · rw [if_pos e]
    exact ⟨h, fun _ => .inl rfl, fun _ _ => rfl, (fun k => by cases k), fun _ => ⟨e, rfl⟩, rfl, Nat.le_refl _⟩
  · rw [if_neg e]
    have hs := srcE_yes ha
    have hg := fun s => gc_fall h.s a s hs
    refine ⟨h.one ha, fun s => ?_, fun s hs' => ?_, fun _ => ?_, (fun k => by cases k), ?_, Nat.sub_le _ _⟩
    · show M.gc (fall x.S a) s = _ ∨ M.gc (fall x.S a) s = _
      rw [hg]; split
      · exact .inr rfl
      · exact .inl rfl
    · show M.gc (fall x.S a) s = _
      rw [hg, if_neg (fun e => hL (by rw [← e]; exact hs'))]
    · show M.gc (fall x.S a) a = _
      rw [hg, if_pos rfl]
    · have := len_one h ha
      show (one x a).f.len + x.l = x.f.len + (x.l - 1)
      omega
theorem Ok.mem {x : X} (h : Ok x) {s : Int × Int} : s ∈ x.f.pre ↔ (gc x.S s).k ≠ 0 := h.i.inv s
theorem free_pos {f : T9.Fo} {L : List (Int × Int)} {a : Int × Int} (hn : f.pre.Nodup) (ha : a ∈ f.pre) (hL : a ∉ L) : 1 ≤ free f L := by have := free_less hn ha hL; omega
theorem Gone.sub {x : X} {a : Int × Int} {L : List (Int × Int)} {r : Bool × X} (h : Ok x) (g : Gone x a L r) : ∀ s, s ∈ r.2.f.pre → s ∈ x.f.pre := fun s hs => by
  rw [h.mem]
  have k := g.ok.mem.1 hs
  rcases g.gc s with e | e
  · rw [← e]; exact k
  · rw [e] at k; exact absurd rfl k
/-- Behind one that went ahead. -/
theorem Gone.next {x y : X} {a b : Int × Int} {L : List (Int × Int)} (h : Ok x) (hb : (M.gc x.S b).k ≠ 0) (hbL : b ∉ L ++ [a]) (g : Gone x b (L ++ [a]) (false, y)) :
    Ok y ∧ M.gc y.S a = M.gc x.S a ∧ free y.f L + 1 ≤ free x.f L := by
  refine ⟨g.ok, g.stay a (by simp), free_gone h.t.nd g.ok.t.nd (g.sub h) (h.mem.2 hb) (fun k => hbL (by simp [k])) (fun k => ?_)⟩
  have := g.ok.mem.1 k
  rw [g.done rfl] at this; exact this rfl
theorem Gone.trans {x y : X} {a b : Int × Int} {L : List (Int × Int)} {r : Bool × X} (g : Gone x b (L ++ [a]) (false, y)) (k : Gone y a L r) : Gone x a L r := by
  refine ⟨k.ok, fun s => ?_, fun s hs => ?_, k.done, fun e => ⟨(k.more e).1, ?_⟩, ?_, Nat.le_trans k.le g.le⟩
  · rcases k.gc s with e | e
    · rw [e]; exact g.gc s
    · exact .inr e
  · rw [k.stay s hs]; exact g.stay s (by simp [hs])
  · rw [(k.more e).2]; exact g.stay a (by simp)
  · have h1 : y.f.len + x.l = x.f.len + y.l := g.len
    have h2 := k.len
    omega
theorem away_ok : ∀ (n : Nat) (x : X) (a : Int × Int) (L : List (Int × Int)), Ok x → (gc x.S a).k ≠ 0 → a ∉ L → free x.f L ≤ n → Gone x a L (away n x a L)
  | 0, x, a, L, h, ha, hL, hn => by
    have := free_pos h.t.nd (h.mem.2 ha) hL; omega
  | n + 1, x, a, L, h, ha, hL, hn => by
    show Gone x a L (match ahd x.S a (L ++ [a]) with
      | none => stp x a
      | some b => match away n x b (L ++ [a]) with
        | (true, y) => (true, y)
        | (false, y) => away n y a L)
    cases hb : ahd x.S a (L ++ [a]) with
    | none => exact Gone.of_stp h ha hL
    | some b =>
      obtain ⟨_, _, b1, b2, _⟩ := ahd_some h.s hb
      have hf := free_less h.t.nd (h.mem.2 ha) hL
      have g := away_ok n x b (L ++ [a]) h b1 b2 (by omega)
      simp only
      generalize away n x b (L ++ [a]) = r at g
      obtain ⟨q, y⟩ := r
      cases q with
      | true =>
        simp only
        exact ⟨g.ok, g.gc, fun s hs => g.stay s (by simp [hs]), (fun e => by cases e), fun _ => ⟨(g.more rfl).1, g.stay a (by simp)⟩, g.len, g.le⟩
      | false =>
        simp only
        obtain ⟨k1, k2, k3⟩ := g.next h b1 b2
        exact g.trans (away_ok n y a L k1 (by rw [k2]; exact ha) hL (by omega))
end M
end Go.Proofs.YtdnoidnpiaadaaaGreat
