/-
  NODES IN ONE ANOTHER, PLAINLY (RevokeChain): each with the next one's only capability, frames beside; what is told, whatever the steps. Speaks of no function of the program.
-/
import Derived.Test.YtpfjcfgbecoccaaRnd
namespace Go.Proofs.Ytpfjcfgbecoccaa
set_option maxRecDepth 10000
set_option linter.unusedVariables false
namespace M
abbrev ndc (o : Int) : C := ⟨2, o, 0, 0, 0, 0⟩
/-- The nodes 0 to m, each but the last with the next one's capability in its slot 1; frames beside; no two of one object. -/
structure Ch (S : St) (m : Nat) : Prop where
  nd : ∀ id : Int, 0 ≤ id → id ≤ m → ∃ d, S id = some d ∧ d.r = 2
  no : ∀ id : Int, (m : Int) < id → S id = none
  lk : ∀ id : Nat, id < m → gc S ((id : Int), 1) = ndc ((id : Int) + 1)
  ot : ∀ s, (gc S s).k ≠ 0 → (∃ id : Nat, id < m ∧ s = ((id : Int), 1)) ∨ (1 ≤ s.1 ∧ s.1 ≤ m ∧ (gc S s).k = 6)
  un : ∀ s t, (gc S s).k ≠ 0 → (gc S t).k = (gc S s).k → (gc S t).o = (gc S s).o → t = s
/-- What is told: the nodes' capabilities come from the last one on. -/
def ndl : List C → Nat → Nat → Prop
  | [], a, b => a = b
  | c :: T, a, b => if c.k = 2 then c.o = (a : Int) ∧ 1 ≤ a ∧ ndl T (a - 1) b else ndl T a b
theorem ndl_app : ∀ (T U : List C) (a b c : Nat), ndl T a b → ndl U b c → ndl (T ++ U) a c
  | [], U, a, b, c, h, k => by cases h; exact k
  | x :: T, U, a, b, c, h, k => by
    show if x.k = 2 then _ else _
    have h' : if x.k = 2 then x.o = (a : Int) ∧ 1 ≤ a ∧ ndl T (a - 1) b else ndl T a b := h
    split at h' <;> rename_i e
    · rw [if_pos e]; exact ⟨h'.1, h'.2.1, ndl_app T U _ b c h'.2.2 k⟩
    · rw [if_neg e]; exact ndl_app T U _ b c h' k
theorem ndl_le : ∀ (T : List C) (a b : Nat), ndl T a b → b ≤ a
  | [], a, b, h => by cases h; exact Nat.le_refl _
  | x :: T, a, b, h => by
    have h' : if x.k = 2 then x.o = (a : Int) ∧ 1 ≤ a ∧ ndl T (a - 1) b else ndl T a b := h
    split at h'
    · have := ndl_le T _ b h'.2.2; omega
    · exact ndl_le T a b h'
theorem ndl_front : ∀ (T U : List C) (a c : Nat), ndl (T ++ U) a c → ∃ b, ndl T a b ∧ ndl U b c
  | [], U, a, c, h => ⟨a, rfl, h⟩
  | x :: T, U, a, c, h => by
    have h' : if x.k = 2 then x.o = (a : Int) ∧ 1 ≤ a ∧ ndl (T ++ U) (a - 1) c else ndl (T ++ U) a c := h
    split at h' <;> rename_i e
    · obtain ⟨b, h1, h2⟩ := ndl_front T U _ c h'.2.2
      exact ⟨b, by show if x.k = 2 then _ else _; rw [if_pos e]; exact ⟨h'.1, h'.2.1, h1⟩, h2⟩
    · obtain ⟨b, h1, h2⟩ := ndl_front T U _ c h'
      exact ⟨b, by show if x.k = 2 then _ else _; rw [if_neg e]; exact h1, h2⟩
theorem Ch.fin {S : St} {m : Nat} (h : Ch S m) (G : Good S) {s : Int × Int} (hs : (gc S s).k ≠ 0) : fin S s = true := by
  have e : (full S).filter (hit S (gc S s).k (gc S s).o) = [s] := by
    have hmem : ∀ t, t ∈ (full S).filter (hit S (gc S s).k (gc S s).o) ↔ t = s := fun t => by
      rw [List.mem_filter, mem_full G t]
      unfold hit
      constructor
      · rintro ⟨_, h2⟩
        simp only [Bool.and_eq_true, beq_iff_eq] at h2
        exact h.un s t hs h2.1 h2.2
      · rintro rfl
        refine ⟨hs, ?_⟩
        show ((gc S t).k == (gc S t).k && (gc S t).o == (gc S t).o) = true
        simp
    have hnd : ((full S).filter (hit S (gc S s).k (gc S s).o)).Nodup := List.Nodup.sublist List.filter_sublist (full_nodup S)
    generalize (full S).filter (hit S (gc S s).k (gc S s).o) = l at hmem hnd
    match l, hmem, hnd with
    | [], hmem, _ => exact absurd ((hmem s).2 rfl) (by simp)
    | [x], hmem, _ => rw [(hmem x).1 (by simp)]
    | x :: y :: l, hmem, hnd =>
      have h1 := (hmem x).1 (by simp)
      have h2 := (hmem y).1 (by simp)
      rw [h1, h2] at hnd
      simp at hnd
  unfold M.fin cnt cntL
  rw [e]; rfl
theorem up_nd {S : St} {x : Int × Int} {c : C} {id : Int} : (∀ d, S id = some d → ∃ d', up S x c id = some d' ∧ d'.r = d.r) ∧ (S id = none → up S x c id = none) := by
  unfold up upd
  constructor
  · intro d hd
    by_cases e : id = x.1
    · rw [if_pos e, ← e, hd]; exact ⟨_, rfl, rfl⟩
    · rw [if_neg e]; exact ⟨d, hd, rfl⟩
  · intro hd
    by_cases e : id = x.1
    · rw [if_pos e, ← e, hd]; rfl
    · rw [if_neg e]; exact hd
/-- A frame goes. -/
theorem Ch.frame {S : St} {m : Nat} (h : Ch S m) (G : Good S) {s : Int × Int} (hs : (gc S s).k = 6) : Ch (fall S s) m := by
  have hk : (gc S s).k ≠ 0 := by rw [hs]; decide
  have hse := srcE_yes hk
  have e : fall S s = up S s C.zero := by
    unfold fall takS
    rw [hs, takeS_up hse]; simp
  have hg : ∀ t, gc (fall S s) t = if t = s then C.zero else gc S t := fun t => gc_fall G s t hse
  rw [e] at hg ⊢
  refine ⟨fun id h0 h1 => ?_, fun id h0 => up_nd.2 (h.no id h0), fun id hid => ?_, fun t ht => ?_, fun t u ht h1 h2 => ?_⟩
  · obtain ⟨d, hd, hr⟩ := h.nd id h0 h1
    obtain ⟨d', h3, h4⟩ := (up_nd (S := S) (x := s) (c := C.zero) (id := id)).1 d hd
    exact ⟨d', h3, h4.trans hr⟩
  · rw [hg, if_neg]
    · exact h.lk id hid
    · intro k; rw [← k, h.lk id hid] at hs; cases hs
  · rw [hg] at ht ⊢
    split at ht
    · exact absurd rfl ht
    · rename_i hne; rw [if_neg hne]; exact h.ot t ht
  · rw [hg] at ht h1 h2
    rw [hg t] at h1 h2
    split at ht
    · exact absurd rfl ht
    · rename_i hne
      rw [if_neg hne] at h1 h2
      split at h1
      · exact absurd h1.symm ht
      · rename_i hu
        rw [if_neg hu] at h2
        exact h.un t u ht h1 h2
/-- The last node's capability goes, and the node. -/
theorem Ch.node {S : St} {m : Nat} (h : Ch S (m + 1)) (G : Good S) (he : ∀ s, (gc S s).k ≠ 0 → s.1 ≠ ((m + 1 : Nat) : Int)) : Ch (fall S ((m : Int), 1)) m := by
  have hc := h.lk m (by omega)
  have hk : (gc S ((m : Int), 1)).k ≠ 0 := by rw [hc]; exact (by decide : (2 : Int) ≠ 0)
  have hse := srcE_yes hk
  have hf := h.fin G hk
  obtain ⟨d, hd, hr⟩ := h.nd ((m + 1 : Nat) : Int) (by omega) (by omega)
  have e1 : takS S ((m : Int), 1) = up S ((m : Int), 1) C.zero := takeS_up hse
  have hm1 : up S ((m : Int), 1) C.zero ((m + 1 : Nat) : Int) = some d := by
    unfold up upd
    rw [if_neg (by simp only; omega)]; exact hd
  have hnul : nulN d = true := by
    unfold nulN
    rw [List.all_eq_true]
    intro i hi
    simp only [List.mem_range] at hi
    by_cases h2 : i < 2 ^ d.r
    · have := he (((m + 1 : Nat) : Int), (i : Int))
      have e2 : gc S (((m + 1 : Nat) : Int), (i : Int)) = d.f i := getC_at hd h2
      rw [e2] at this
      simp only [beq_iff_eq]
      exact Classical.byContradiction fun k => this k rfl
    · rw [G.out _ _ _ hd (by omega)]; rfl
  have hdr : dropE (up S ((m : Int), 1) C.zero) ((m + 1 : Nat) : Int) = 0 := by
    unfold dropE
    rw [hm1]
    simp only
    rw [if_pos hnul]
  have e : fall S ((m : Int), 1) = fun j => if j = ((m + 1 : Nat) : Int) then none else up S ((m : Int), 1) C.zero j := by
    unfold fall
    rw [hf, hc, e1]
    show dropS _ ((m : Int) + 1) = _
    have : ((m : Int) + 1) = ((m + 1 : Nat) : Int) := by omega
    rw [this]
    unfold dropS
    rw [if_pos hdr]
  have hg : ∀ t, gc (fall S ((m : Int), 1)) t = if t = ((m : Int), 1) then C.zero else gc S t := fun t => gc_fall G _ t hse
  refine ⟨fun id h0 h1 => ?_, fun id h0 => ?_, fun id hid => ?_, fun t ht => ?_, fun t u ht h1 h2 => ?_⟩
  · obtain ⟨d', hd', hr'⟩ := h.nd id h0 (by omega)
    obtain ⟨d2, h3, h4⟩ := (up_nd (S := S) (x := ((m : Int), 1)) (c := C.zero) (id := id)).1 d' hd'
    rw [e]
    simp only
    rw [if_neg (by omega)]
    exact ⟨d2, h3, h4.trans hr'⟩
  · rw [e]
    simp only
    by_cases k : id = ((m + 1 : Nat) : Int)
    · rw [if_pos k]
    · rw [if_neg k]; exact up_nd.2 (h.no id (by omega))
  · rw [hg, if_neg]
    · exact h.lk id (by omega)
    · intro k; simp only [Prod.mk.injEq] at k; omega
  · rw [hg] at ht ⊢
    split at ht
    · exact absurd rfl ht
    · rename_i hne
      rw [if_neg hne]
      rcases h.ot t ht with ⟨id, h1, h2⟩ | ⟨h1, h2, h3⟩
      · refine .inl ⟨id, ?_, h2⟩
        have : id ≠ m := fun k => hne (by rw [h2, k])
        omega
      · refine .inr ⟨h1, ?_, h3⟩
        have := he t ht
        omega
  · rw [hg] at ht h1 h2
    rw [hg t] at h1 h2
    split at ht
    · exact absurd rfl ht
    · rename_i hne
      rw [if_neg hne] at h1 h2
      split at h1
      · exact absurd h1.symm ht
      · rename_i hu
        rw [if_neg hu] at h2
        exact h.un t u ht h1 h2
/-- What becomes of such nodes. -/
structure ChR (x : X) (m : Nat) (r : Bool × X) : Prop where
  ex : ∃ m', m' ≤ m ∧ Ch r.2.S m' ∧ ∃ K, r.2.T = x.T ++ K ∧ ndl K m m' ∧ K.length + r.2.f.len = x.f.len
theorem ChR.trans {x y : X} {m : Nat} {q : Bool} {r : Bool × X} (h : ChR x m (q, y)) (k : ∀ m', Ch y.S m' → ChR y m' r) : ChR x m r := by
  obtain ⟨m1, h1, h2, K, h3, h4, h5⟩ := h.ex
  obtain ⟨m2, k1, k2, K2, k3, k4, k5⟩ := (k m1 h2).ex
  simp only at h3 h5
  exact ⟨m2, by omega, k2, K ++ K2, by rw [k3, h3, List.append_assoc], ndl_app K K2 m m1 m2 h4 k4, by simp only [List.length_append]; omega⟩
/-- A slot that may be taken away: a frame's, or a node's behind which nothing of the way lies. -/
def Wg (S : St) (a : Int × Int) (L : List (Int × Int)) : Prop := (gc S a).k = 6 ∨ ∃ id : Nat, a = ((id : Int), 1) ∧ gc S a = ndc ((id : Int) + 1) ∧ ∀ s ∈ L, s.1 < (id : Int) + 1
theorem ahd_none {S : St} (G : Good S) {a : Int × Int} {L : List (Int × Int)} (h : ahd S a L = none) (hk : (gc S a).k = 2) (hf : fin S a = true) : ∀ s, (gc S s).k ≠ 0 → s.1 = (gc S a).o → s ∈ L := by
  intro s hs h1
  unfold ahd at h
  rw [hk, hf] at h
  simp only [beq_self_eq_true, Bool.and_self, if_true] at h
  have := List.find?_eq_none.1 h s ((mem_full G s).2 hs)
  simpa [h1] using this
theorem stp_ch {x : X} {m : Nat} (ok : Ok x) (h : Ch x.S m) {a : Int × Int} (ha : (gc x.S a).k ≠ 0) {L : List (Int × Int)} (w : Wg x.S a L) (hn : ahd x.S a (L ++ [a]) = none) : ChR x m (stp x a) := by
  unfold stp
  by_cases hl : x.l = 0
  · rw [if_pos hl]
    exact ⟨m, Nat.le_refl _, h, [], by simp, rfl, by simp⟩
  · rw [if_neg hl]
    have hf := h.fin ok.s ha
    have hlen := len_one ok ha
    have hT : (one x a).T = x.T ++ [gc x.S a] := by
      show (if fin x.S a then x.T ++ [gc x.S a] else x.T) = _
      rw [hf]; rfl
    rcases w with w | ⟨id, rfl, w2, w3⟩
    · refine ⟨m, Nat.le_refl _, h.frame ok.s w, [gc x.S a], hT, ?_, ?_⟩
      · show if (gc x.S a).k = 2 then _ else _
        rw [if_neg (by rw [w]; decide)]; rfl
      · show 1 + (one x a).f.len = x.f.len; omega
    · have hid : id < m := by
        rcases h.ot _ ha with ⟨id', h1, h2⟩ | ⟨_, _, h3⟩
        · simp only [Prod.mk.injEq] at h2; omega
        · rw [w2] at h3; cases h3
      have hno := ahd_none ok.s hn (by rw [w2]) hf
      have hemp : ∀ s, (gc x.S s).k ≠ 0 → s.1 ≠ ((id + 1 : Nat) : Int) := fun s hs e => by
        have h1 := hno s hs (by rw [w2]; show s.1 = (id : Int) + 1; omega)
        rcases List.mem_append.1 h1 with k | k
        · have := w3 s k; omega
        · simp only [List.mem_singleton] at k; rw [k] at e; simp only at e; omega
      have hm : m = id + 1 := by
        refine Classical.byContradiction fun k => ?_
        have h1 := h.lk (id + 1) (by omega)
        exact hemp (((id + 1 : Nat) : Int), 1) (by rw [h1]; exact (by decide : (2 : Int) ≠ 0)) rfl
      subst hm
      refine ⟨id, by omega, h.node ok.s hemp, [gc x.S ((id : Int), 1)], hT, ?_, ?_⟩
      · show if (gc x.S ((id : Int), 1)).k = 2 then _ else _
        rw [if_pos (by rw [w2]), w2]
        exact ⟨by show (id : Int) + 1 = _; omega, by omega, rfl⟩
      · show 1 + (one x ((id : Int), 1)).f.len = x.f.len; omega
theorem away_ch : ∀ (n : Nat) (x : X) (a : Int × Int) (L : List (Int × Int)) (m : Nat), Ok x → Ch x.S m → (gc x.S a).k ≠ 0 → a ∉ L → free x.f L ≤ n → Wg x.S a L → ChR x m (away n x a L)
  | 0, x, a, L, m, ok, h, ha, hL, hn, w => by have := free_pos ok.t.nd (ok.mem.2 ha) hL; omega
  | n + 1, x, a, L, m, ok, h, ha, hL, hn, w => by
    cases hb : ahd x.S a (L ++ [a]) with
    | none => rw [away_none hb]; exact stp_ch ok h ha w hb
    | some b =>
      rw [away_some hb]
      obtain ⟨a1, a2, b1, b2, b3⟩ := ahd_some ok.s hb
      have hf := free_less ok.t.nd (ok.mem.2 ha) hL
      have g := away_ok n x b (L ++ [a]) ok b1 b2 (by omega)
      obtain ⟨id, rfl, w2, w3⟩ : ∃ id : Nat, a = ((id : Int), 1) ∧ gc x.S a = ndc ((id : Int) + 1) ∧ ∀ s ∈ L, s.1 < (id : Int) + 1 := by
        rcases w with w | w
        · rw [w] at a1; cases a1
        · exact w
      have hb1 : b.1 = (id : Int) + 1 := by rw [b3, w2]
      have wb : Wg x.S b (L ++ [((id : Int), 1)]) := by
        rcases h.ot b b1 with ⟨id', h1, h2⟩ | ⟨_, _, h3⟩
        · have : (id' : Int) = (id : Int) + 1 := by rw [← hb1, h2]
          refine .inr ⟨id', h2, by rw [h2]; exact h.lk id' h1, fun s hs => ?_⟩
          rcases List.mem_append.1 hs with k | k
          · have := w3 s k; omega
          · simp only [List.mem_singleton] at k; rw [k]; simp only; omega
        · exact .inl h3
      have R := away_ch n x b (L ++ [((id : Int), 1)]) m ok h b1 b2 (by omega) wb
      generalize away n x b (L ++ [((id : Int), 1)]) = r at g R
      obtain ⟨q, y⟩ := r
      cases q with
      | true => exact R
      | false =>
        simp only
        obtain ⟨k1, k2, k3⟩ := g.next ok b1 b2
        exact R.trans (fun m' h' => away_ch n y ((id : Int), 1) L m' k1 h' (by rw [k2]; exact ha) hL (by omega) (.inr ⟨id, rfl, by rw [k2]; exact w2, w3⟩))
/-- A Delete of the first. -/
theorem del_ch {S : St} {f : T9.Fo} {m : Nat} (I : Inv S f) (G : Good S) (N : T9.Good f) (h : Ch S (m + 1)) {l : Nat} {q : Bool} {y : X} (hr : delR S f (0, 1) (l : Int) = (q, y)) :
    Ok y ∧ (q = true → y.f.len + l = f.len) ∧ ∃ m', m' ≤ m + 1 ∧ Ch y.S m' ∧ ndl y.T (m + 1) m' ∧ y.T.length + y.f.len = f.len ∧ (q = true → 1 ≤ m') ∧ (q = false → m' = 0) := by
  have hc := h.lk 0 (by omega)
  have ha : (gc S (0, 1)).k ≠ 0 := by rw [show gc S (0, 1) = _ from hc]; decide
  have D := del_one I G N ha hr
  unfold delR at hr
  rw [Int.toNat_natCast] at hr
  have R := away_ch f.len ⟨S, f, l, []⟩ (0, 1) [] (m + 1) ⟨I, G, N⟩ h ha (by simp) (by rw [free_nil]; exact Nat.le_refl _) (.inr ⟨0, rfl, hc, by simp⟩)
  rw [hr] at R
  obtain ⟨m', h1, h2, K, h3, h4, h5⟩ := R.ex
  simp only [List.nil_append] at h3 h5
  rw [← h3] at h4 h5
  refine ⟨D.ok, fun e => (D.more e).2, m', h1, h2, h4, h5, fun e => ?_, fun e => ?_⟩
  · refine Classical.byContradiction fun k => ?_
    have h6 : m' = 0 := by omega
    subst h6
    have h7 := (D.more e).1
    have h8 : (gc y.S (0, 1)).k ≠ 0 := by rw [h7]; exact ha
    rcases h2.ot _ h8 with ⟨id, h9, _⟩ | ⟨h9, _⟩
    · omega
    · simp only at h9; omega
  · refine Classical.byContradiction fun k => ?_
    have h6 := h2.lk 0 (by omega)
    rw [show gc y.S (((0 : Nat) : Int), 1) = _ from D.done e] at h6
    cases h6
end M
end Go.Proofs.Ytpfjcfgbecoccaa
