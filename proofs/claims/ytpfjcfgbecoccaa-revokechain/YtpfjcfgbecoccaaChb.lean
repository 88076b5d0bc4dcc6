/-
  HOW NODES COME TO LIE IN ONE ANOTHER, PLAINLY (RevokeChain). Speaks of no function of the program but the store's Radix.
-/
import Derived.Test.YtpfjcfgbecoccaaChn
namespace Go.Proofs.Ytpfjcfgbecoccaa
set_option maxRecDepth 10000
open Go.RowKit
set_option linter.unusedVariables false
theorem Cs.radix {w0 w : World} {O : Nat → Prop} {p s t m : Nat} {S : St} {f : T9.Fo} (h : Cs w0 w O p s t m S f) (id r : Int) (hid : I64 id) (hr : M.rad S id = r) :
    Calls Try.prog 21 #[.pointer (some ⟨s, 0, none⟩), .int .i64 id] w fun e w' => e = .returned (.int .i64 r) ∧ w.grownBy w' none := by
  obtain ⟨OS, OT, h1, _⟩ := h.ex
  exact radix_is h1 id r hid hr
namespace M
/-- So many nodes, all empty. -/
structure Bn (S : St) (j : Nat) : Prop where
  nd : ∀ id : Int, 0 ≤ id → id < j → ∃ d, S id = some d ∧ d.r = 2
  no : ∀ id : Int, (j : Int) ≤ id → S id = none
  gc : ∀ s, M.gc S s = C.zero
theorem Bn.start : Bn (fun _ => none) 0 := ⟨fun id h0 h1 => by omega, fun _ _ => rfl, fun _ => rfl⟩
theorem Bn.next {S : St} {j : Nat} (h : Bn S j) (hj : j ≤ 20) : addE S j 2 = 0 ∧ Bn (addS S j 2) (j + 1) := by
  have hb : inB (j : Int) 2 = true := by
    have hr : j = 0 ∨ j = 1 ∨ j = 2 ∨ j = 3 ∨ j = 4 ∨ j = 5 ∨ j = 6 ∨ j = 7 ∨ j = 8 ∨ j = 9 ∨ j = 10 ∨ j = 11 ∨ j = 12 ∨ j = 13 ∨ j = 14 ∨ j = 15 ∨ j = 16 ∨ j = 17 ∨ j = 18 ∨ j = 19 ∨ j = 20 := by omega
    rcases hr with h | h | h | h | h | h | h | h | h | h | h | h | h | h | h | h | h | h | h | h | h <;> (subst h; decide +kernel)
  have he : addE S j 2 = 0 := by
    unfold addE
    rw [if_pos hb, h.no j (by omega)]
  have hS : addS S j 2 = fun i => if i = (j : Int) then some ⟨2, fun _ => C.zero⟩ else S i := by
    unfold addS; rw [if_pos he]; rfl
  refine ⟨he, fun id h0 h1 => ?_, fun id h0 => ?_, fun s => (gc_add S j 2 s).trans (h.gc s)⟩
  · rw [hS]
    simp only
    by_cases e : id = (j : Int)
    · rw [if_pos e]; exact ⟨_, rfl, rfl⟩
    · rw [if_neg e]; exact h.nd id h0 (by omega)
  · rw [hS]
    simp only
    rw [if_neg (by omega)]
    exact h.no id (by omega)
/-- So many of them with the next one's capability. -/
structure Cn (S : St) (f : T9.Fo) (n j : Nat) : Prop where
  i : Inv S f
  nd : ∀ id : Int, 0 ≤ id → id ≤ n → ∃ d, S id = some d ∧ d.r = 2
  no : ∀ id : Int, (n : Int) < id → S id = none
  lk : ∀ id : Nat, id < j → gc S ((id : Int), 1) = ndc ((id : Int) + 1)
  ot : ∀ s, (gc S s).k ≠ 0 → ∃ id : Nat, id < j ∧ s = ((id : Int), 1)
  len : f.len = j
theorem Bn.chain {S : St} {n : Nat} (h : Bn S (n + 1)) : Cn S .nil n 0 :=
  ⟨Inv.none.same (fun x => (h.gc x).trans rfl), fun id h0 h1 => h.nd id h0 (by omega), fun id h0 => h.no id (by omega), fun id hid => by omega, fun s hs => by rw [h.gc] at hs; exact absurd rfl hs, by kernel_rfl⟩
theorem th_two {S : St} {id : Int} {d : Nd} (h : S id = some d) (hr : d.r = 2) {j : Nat} (hj : j < 4) : th S (id, (j : Int)) = true := there_at h (by rw [hr]; exact hj)
theorem chk_ndc {o : Nat} (ho : o ≤ 9) : chk (ndc (o : Int)) = 0 := by
  have hr : o = 0 ∨ o = 1 ∨ o = 2 ∨ o = 3 ∨ o = 4 ∨ o = 5 ∨ o = 6 ∨ o = 7 ∨ o = 8 ∨ o = 9 := by omega
  rcases hr with h | h | h | h | h | h | h | h | h | h <;> (subst h; decide +kernel)
theorem pla_yes {S : St} {f : T9.Fo} (I : Inv S f) {a : Int × Int} {c : C} (h : plaE S a c = 0) : plaS S a c = up S a c ∧ (plaF S f a c).len = f.len + 1 := by
  refine ⟨putS_up h, ?_⟩
  unfold plaF
  rw [if_pos h]
  obtain ⟨_, _, _, h4⟩ := putE_ok h
  unfold T9.Fo.rootF
  rw [I.hasnt h4, if_neg (by simp)]
  unfold T9.Fo.len
  rw [T9.Fo.pre_app, T9.Fo.pre_one]
  simp
theorem Cn.next {S : St} {f : T9.Fo} {n j : Nat} (h : Cn S f n j) (hj : j < n) (hn : n ≤ 8) : plaE S ((j : Int), 1) (ndc ((j + 1 : Nat) : Int)) = 0 ∧ Cn (plaS S ((j : Int), 1) (ndc ((j + 1 : Nat) : Int))) (plaF S f ((j : Int), 1) (ndc ((j + 1 : Nat) : Int))) n (j + 1) := by
  obtain ⟨d, hd, hr⟩ := h.nd j (by omega) (by omega)
  have ht : th S ((j : Int), 1) = true := th_two hd hr (j := 1) (by omega)
  have hz : (gc S ((j : Int), 1)).k = 0 := Classical.byContradiction fun k => by
    obtain ⟨id, h1, h2⟩ := h.ot _ k
    simp only [Prod.mk.injEq] at h2
    omega
  have he : plaE S ((j : Int), 1) (ndc ((j + 1 : Nat) : Int)) = 0 := putE_yes ht (chk_ndc (by omega)) (by exact (by decide : (2 : Int) ≠ 0)) hz
  obtain ⟨hS, hL⟩ := pla_yes h.i he
  refine ⟨he, h.i.pla _ (by exact (by decide : (0 : Int) ≤ 0)) (by exact (by decide : (0 : Int) ≤ 0)), fun id h0 h1 => ?_, fun id h0 => ?_, fun id hid => ?_, fun s hs => ?_, by rw [hL, h.len]⟩
  · obtain ⟨d', hd', hr'⟩ := h.nd id h0 h1
    obtain ⟨d2, h3, h4⟩ := (up_nd (S := S) (x := ((j : Int), 1)) (c := ndc ((j + 1 : Nat) : Int)) (id := id)).1 d' hd'
    rw [hS]
    exact ⟨d2, h3, h4.trans hr'⟩
  · rw [hS]; exact up_nd.2 (h.no id h0)
  · rw [hS, gc_up _ ht]
    by_cases e : id = j
    · rw [if_pos (by rw [e]), e]; rfl
    · rw [if_neg (by simp only [Prod.mk.injEq]; omega)]; exact h.lk id (by omega)
  · rw [hS, gc_up _ ht] at hs
    by_cases e : s = ((j : Int), 1)
    · exact ⟨j, by omega, e⟩
    · rw [if_neg e] at hs
      obtain ⟨id, h1, h2⟩ := h.ot s hs
      exact ⟨id, by omega, h2⟩
/-- With frames beside. -/
structure Cf (S : St) (f : T9.Fo) (n fr i : Nat) : Prop where
  iv : Inv S f
  ch : Ch S n
  fo : ∀ s, (gc S s).k = 6 → (gc S s).o < 20 + (i : Int)
  len : f.len = n + fr
theorem Cn.frames {S : St} {f : T9.Fo} {n : Nat} (h : Cn S f n n) : Cf S f n 0 0 := by
  refine ⟨h.i, ⟨h.nd, h.no, h.lk, fun s hs => .inl (h.ot s hs), fun s t hs h1 h2 => ?_⟩, fun s hs => ?_, h.len⟩
  · obtain ⟨a, ha, rfl⟩ := h.ot s hs
    obtain ⟨b, hb, rfl⟩ := h.ot t (by rw [h1]; exact hs)
    rw [h.lk a ha, h.lk b hb] at h2
    have : (b : Int) + 1 = (a : Int) + 1 := h2
    simp only [Prod.mk.injEq, and_true]; omega
  · obtain ⟨a, ha, rfl⟩ := h.ot s (by rw [hs]; decide)
    rw [h.lk a ha] at hs; cases hs
abbrev frc (i : Nat) : C := ⟨6, 20 + (i : Int), 1, 0, 0, 0⟩
theorem Cf.no {S : St} {f : T9.Fo} {n fr i : Nat} (h : Cf S f n fr i) : Cf S f n fr (i + 1) := ⟨h.iv, h.ch, fun s hs => by have := h.fo s hs; simp only [Int.natCast_add]; omega, h.len⟩
theorem Cf.yes {S : St} {f : T9.Fo} {n fr i nd a : Nat} (h : Cf S f n fr i) (h1 : 1 ≤ nd) (h2 : nd ≤ n) (h3 : a = 0 ∨ a = 2) (he : plaE S ((nd : Int), (a : Int)) (frc i) = 0) :
    Cf (plaS S ((nd : Int), (a : Int)) (frc i)) (plaF S f ((nd : Int), (a : Int)) (frc i)) n (fr + 1) (i + 1) := by
  obtain ⟨hS, hL⟩ := pla_yes h.iv he
  obtain ⟨ht, _, _, hz⟩ := putE_ok he
  have ht' : th S ((nd : Int), (a : Int)) = true := ht
  have hg : ∀ s, gc (plaS S ((nd : Int), (a : Int)) (frc i)) s = if s = ((nd : Int), (a : Int)) then frc i else gc S s := fun s => by rw [hS]; exact gc_up _ ht' s
  refine ⟨h.iv.pla _ (by exact (by decide : (0 : Int) ≤ 0)) (by exact (by decide : (0 : Int) ≤ 0)), ⟨fun id k0 k1 => ?_, fun id k0 => ?_, fun id hid => ?_, fun s hs => ?_, fun s t hs k1 k2 => ?_⟩, fun s hs => ?_, by rw [hL, h.len]; omega⟩
  · obtain ⟨d', hd', hr'⟩ := h.ch.nd id k0 k1
    obtain ⟨d2, k3, k4⟩ := (up_nd (S := S) (x := ((nd : Int), (a : Int))) (c := frc i) (id := id)).1 d' hd'
    rw [hS]
    exact ⟨d2, k3, k4.trans hr'⟩
  · rw [hS]; exact up_nd.2 (h.ch.no id k0)
  · rw [hg, if_neg (by simp only [Prod.mk.injEq]; omega)]; exact h.ch.lk id hid
  · rw [hg] at hs ⊢
    by_cases e : s = ((nd : Int), (a : Int))
    · rw [if_pos e, e]; exact .inr ⟨by show (1 : Int) ≤ nd; omega, by show (nd : Int) ≤ n; omega, rfl⟩
    · rw [if_neg e] at hs ⊢; exact h.ch.ot s hs
  · rw [hg s] at hs k1 k2
    rw [hg t] at k1 k2
    by_cases e : s = ((nd : Int), (a : Int))
    · rw [if_pos e] at k1 k2
      by_cases e2 : t = ((nd : Int), (a : Int))
      · rw [e, e2]
      · rw [if_neg e2] at k1 k2
        have := h.fo t k1
        rw [k2] at this
        exact absurd this (by show ¬ (20 + (i : Int)) < 20 + (i : Int); omega)
    · rw [if_neg e] at hs k1 k2
      by_cases e2 : t = ((nd : Int), (a : Int))
      · rw [if_pos e2] at k1 k2
        have := h.fo s k1.symm
        rw [← k2] at this
        exact absurd this (by show ¬ (20 + (i : Int)) < 20 + (i : Int); omega)
      · rw [if_neg e2] at k1 k2
        exact h.ch.un s t hs k1 k2
  · rw [hg] at hs ⊢
    by_cases e : s = ((nd : Int), (a : Int))
    · rw [if_pos e]; show 20 + (i : Int) < 20 + ((i + 1 : Nat) : Int); omega
    · rw [if_neg e] at hs ⊢; have := h.fo s hs; simp only [Int.natCast_add]; omega
theorem ndl_det : ∀ (T : List C) (a b c : Nat), ndl T a b → ndl T a c → b = c
  | [], a, b, c, h, k => h.symm.trans k
  | x :: T, a, b, c, h, k => by
    have h' : if x.k = 2 then x.o = (a : Int) ∧ 1 ≤ a ∧ ndl T (a - 1) b else ndl T a b := h
    have k' : if x.k = 2 then x.o = (a : Int) ∧ 1 ≤ a ∧ ndl T (a - 1) c else ndl T a c := k
    split at h' <;> rename_i e
    · rw [if_pos e] at k'; exact ndl_det T _ b c h'.2.2 k'.2.2
    · rw [if_neg e] at k'; exact ndl_det T _ b c h' k'
/-- One told after another. -/
theorem ndl_take {T : List C} {n b i : Nat} {c : C} (h : ndl (T.take i) n b) (hc : T[i]? = some c) (ht : ndl T n 0) : (c.k = 2 → c.o = (b : Int) ∧ 1 ≤ b ∧ ndl (T.take (i + 1)) n (b - 1)) ∧ (c.k ≠ 2 → ndl (T.take (i + 1)) n b) := by
  have e : T.take (i + 1) = T.take i ++ [c] := by rw [List.take_add_one, hc]; rfl
  rw [← List.take_append_drop (i + 1) T, e, List.append_assoc] at ht
  obtain ⟨b', h1, h2⟩ := ndl_front _ _ _ _ ht
  have hb := ndl_det _ _ _ _ h h1
  subst hb
  have h3 : if c.k = 2 then c.o = (b : Int) ∧ 1 ≤ b ∧ ndl (T.drop (i + 1)) (b - 1) 0 else ndl (T.drop (i + 1)) b 0 := h2
  refine ⟨fun k => ?_, fun k => ?_⟩
  · rw [if_pos k] at h3
    refine ⟨h3.1, h3.2.1, ?_⟩
    rw [e]
    exact ndl_app _ _ _ b _ h (by show if c.k = 2 then _ else _; rw [if_pos k]; exact ⟨h3.1, h3.2.1, rfl⟩)
  · rw [e]
    exact ndl_app _ _ _ b _ h (by show if c.k = 2 then _ else _; rw [if_neg k]; rfl)
theorem Ch.end_ {S : St} {f : T9.Fo} (I : Inv S f) (G : Good S) (N : T9.Good f) (h : Ch S 0) : M.full S = [] ∧ f.len = 0 ∧ rad S 0 = 2 ∧ ∀ id : Int, 0 < id → rad S id = 0 := by
  have h1 : M.full S = [] := List.eq_nil_iff_forall_not_mem.2 (fun s hs => by
    have hk := (mem_full G s).1 hs
    rcases h.ot s hk with ⟨id, h1, _⟩ | ⟨h1, h2, _⟩
    · omega
    · simp only [Int.natCast_zero] at h2; omega)
  refine ⟨h1, ?_, ?_, fun id hid => ?_⟩
  · rw [← full_len_pre I G N, h1]; rfl
  · obtain ⟨d, hd, hr⟩ := h.nd 0 (by omega) (by omega)
    unfold rad
    rw [hd]
    simp only [hr]; rfl
  · unfold rad
    rw [h.no id (by simpa using hid)]
end M
end Go.Proofs.Ytpfjcfgbecoccaa
