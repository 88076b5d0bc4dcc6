/-
  FEW STEPS TELL THE SAME AS MANY; WHAT IS TOLD HAS NO CAPABILITY ANY MORE, PLAINLY (RevokeTells). Speaks of no function of the program.
-/
import Derived.Test.YtpfjcfgbecoccaaRnd
namespace Go.Proofs.Ytpfjcfgbecoccaa
set_option maxRecDepth 10000
set_option linter.unusedVariables false
namespace M
/-! ### The slots in their order -/
def uni (m : Nat) : List (Int × Int) := (List.range m).flatMap fun id : Nat => (List.range 16).map fun i : Nat => ((id : Int), (i : Int))
theorem uni_step (m : Nat) : uni (m + 1) = uni m ++ (List.range 16).map fun i : Nat => ((m : Int), (i : Int)) := by
  unfold uni
  rw [show List.range (m + 1) = List.range m ++ [m] from List.range_succ, List.flatMap_append]
  simp
theorem row_gc {S : St} (G : Good S) (m : Nat) : (match S m with | none => [] | some d => rowTo (m : Int) d 16) = ((List.range 16).map fun i : Nat => ((m : Int), (i : Int))).filter (fun s => (gc S s).k != 0) := by
  cases h : S m with
  | none =>
    refine (List.filter_eq_nil_iff.2 (fun s hs => ?_)).symm
    obtain ⟨i, _, rfl⟩ := List.mem_map.1 hs
    have : gc S ((m : Int), (i : Int)) = C.zero := by unfold gc getC; simp only [h]
    rw [this]; decide
  | some d =>
    simp only
    unfold rowTo
    rw [List.filter_map]
    congr 1
    refine List.filter_congr (fun i hi => ?_)
    show _ = ((gc S ((m : Int), (i : Int))).k != 0)
    by_cases h2 : i < 2 ^ d.r
    · rw [show gc S ((m : Int), (i : Int)) = d.f i from getC_at h h2]
    · rw [G.out _ _ _ h (by omega)]
      have : gc S ((m : Int), (i : Int)) = C.zero := by
        refine gc_no ?_
        cases e : th S ((m : Int), (i : Int)) with
        | false => rfl
        | true =>
          obtain ⟨d', j, h3, h4, h5⟩ := there_yes e
          simp only at h3 h4
          rw [h] at h3; cases h3
          omega
      rw [this]
theorem fullTo_uni {S : St} (G : Good S) : ∀ m, fullTo S m = (uni m).filter (fun s => (gc S s).k != 0)
  | 0 => rfl
  | m + 1 => by rw [fullTo_step, uni_step, List.filter_append, fullTo_uni G m]; exact congrArg _ (row_gc G m)
theorem find_less {p q : Int × Int → Bool} {b : Int × Int} (hq : ∀ s, q s = true → p s = true) (hb : q b = true) : ∀ {l : List (Int × Int)}, l.find? p = some b → l.find? q = some b
  | [], h => by cases h
  | x :: l, h => by
    rw [List.find?_cons] at h ⊢
    cases hp : p x with
    | true =>
      rw [hp] at h
      simp only [Option.some.injEq] at h
      rw [h, hb]
    | false =>
      rw [hp] at h
      have : q x = false := by
        cases e : q x with
        | false => rfl
        | true => rw [hq x e] at hp; cases hp
      rw [this]
      exact find_less hq hb h

/-! ### How many are of an object, step by step -/
def tn (T : List C) (k o : Int) : Nat := (T.filter (fun c => c.k == k && c.o == o)).length
structure Ct (x y : X) : Prop where
  le : ∀ k o, cnt y.S k o ≤ cnt x.S k o
  tn : ∀ k o, M.tn y.T k o = M.tn x.T k o + (if 0 < cnt x.S k o ∧ cnt y.S k o = 0 then 1 else 0)
theorem Ct.refl (x : X) : Ct x x := ⟨fun _ _ => Nat.le_refl _, fun k o => by rw [if_neg (by omega)]; rfl⟩
theorem Ct.trans {x y z : X} (h : Ct x y) (g : Ct y z) : Ct x z := by
  refine ⟨fun k o => Nat.le_trans (g.le k o) (h.le k o), fun k o => ?_⟩
  have h1 := h.le k o
  have h2 := g.le k o
  rw [g.tn, h.tn]
  by_cases e1 : 0 < cnt x.S k o ∧ cnt y.S k o = 0
  · rw [if_pos e1, if_neg (by omega), if_pos (by omega)]
  · rw [if_neg e1]
    by_cases e2 : 0 < cnt y.S k o ∧ cnt z.S k o = 0
    · rw [if_pos e2, if_pos (by omega)]
    · rw [if_neg e2, if_neg (by omega)]
theorem hit_iff {S : St} {k o : Int} {s : Int × Int} : hit S k o s = true ↔ (gc S s).k = k ∧ (gc S s).o = o := by
  unfold hit gc
  simp
theorem Ct.one {x : X} (h : Ok x) {a : Int × Int} (ha : (gc x.S a).k ≠ 0) : Ct x (one x a) := by
  have hs := srcE_yes ha
  have hg : ∀ s, gc (M.one x a).S s = if s = a then C.zero else gc x.S s := fun s => gc_fall h.s a s hs
  have ok := h.one ha
  have key : ∀ k o, cnt x.S k o = cnt (M.one x a).S k o + (if (gc x.S a).k = k ∧ (gc x.S a).o = o then 1 else 0) := fun k o => by
    have hm : ∀ s, s ∈ (full (M.one x a).S).filter (hit (M.one x a).S k o) ↔ s ∈ (full x.S).filter (hit x.S k o) ∧ s ≠ a := fun s => by
      rw [List.mem_filter, List.mem_filter, mem_full ok.s, mem_full h.s, hit_iff, hit_iff, hg]
      by_cases e : s = a
      · rw [if_pos e]; simp [e]
      · rw [if_neg e]; simp [e]
    have n1 : ((full x.S).filter (hit x.S k o)).Nodup := List.Nodup.sublist List.filter_sublist (full_nodup _)
    have n2 : ((full (M.one x a).S).filter (hit (M.one x a).S k o)).Nodup := List.Nodup.sublist List.filter_sublist (full_nodup _)
    unfold cnt cntL
    by_cases e : (gc x.S a).k = k ∧ (gc x.S a).o = o
    · rw [if_pos e]
      have hin : a ∈ (full x.S).filter (hit x.S k o) := List.mem_filter.2 ⟨(mem_full h.s a).2 ha, hit_iff.2 e⟩
      exact (nodup_less n1 n2 hin hm).symm
    · rw [if_neg e]
      have hin : a ∉ (full x.S).filter (hit x.S k o) := fun k' => e (hit_iff.1 (List.mem_filter.1 k').2)
      have l1 := subs_len _ _ n1 (fun y hy => (hm y).2 ⟨hy, fun e' => hin (by rw [← e']; exact hy)⟩)
      have l2 := subs_len _ _ n2 (fun y hy => ((hm y).1 hy).1)
      omega
  refine ⟨fun k o => by have := key k o; omega, fun k o => ?_⟩
  have hk := key k o
  show M.tn (if fin x.S a then x.T ++ [gc x.S a] else x.T) k o = _
  by_cases e : (gc x.S a).k = k ∧ (gc x.S a).o = o
  · rw [if_pos e] at hk
    have hfin : fin x.S a = decide (cnt x.S k o = 1) := by
      unfold fin
      rw [e.1, e.2]
      by_cases e1 : cnt x.S k o = 1
      · rw [e1]; rfl
      · simp [e1]; omega
    by_cases e1 : cnt x.S k o = 1
    · rw [hfin, if_pos (by simp [e1]), if_pos (by omega)]
      unfold M.tn
      rw [List.filter_append, List.filter_cons_of_pos (by simp [e.1, e.2])]
      simp
    · rw [hfin, if_neg (by simp [e1]), if_neg (by omega)]; rfl
  · rw [if_neg e] at hk
    have hz : ¬ (0 < cnt x.S k o ∧ cnt (M.one x a).S k o = 0) := by omega
    rw [if_neg hz]
    split
    · unfold M.tn
      rw [List.filter_append, List.filter_cons_of_neg (by simpa using e)]
      simp
    · rfl
theorem Ct.stp {x : X} (h : Ok x) {a : Int × Int} (ha : (gc x.S a).k ≠ 0) : Ct x (stp x a).2 := by
  unfold M.stp
  split
  · exact Ct.refl x
  · exact Ct.one h ha
theorem away_ct : ∀ (n : Nat) (x : X) (a : Int × Int) (L : List (Int × Int)), Ok x → (gc x.S a).k ≠ 0 → a ∉ L → free x.f L ≤ n → Ct x (away n x a L).2
  | 0, x, a, L, h, ha, hL, hn => Ct.refl x
  | n + 1, x, a, L, h, ha, hL, hn => by
    cases hb : ahd x.S a (L ++ [a]) with
    | none => rw [away_none hb]; exact Ct.stp h ha
    | some b =>
      rw [away_some hb]
      obtain ⟨_, _, b1, b2, _⟩ := ahd_some h.s hb
      have hf := free_less h.t.nd (h.mem.2 ha) hL
      have g := away_ok n x b (L ++ [a]) h b1 b2 (by omega)
      have c := away_ct n x b (L ++ [a]) h b1 b2 (by omega)
      generalize away n x b (L ++ [a]) = r at g c
      obtain ⟨q, y⟩ := r
      cases q with
      | true => exact c
      | false =>
        obtain ⟨k1, k2, k3⟩ := g.next h b1 b2
        exact Ct.trans c (away_ct n y a L k1 (by rw [k2]; exact ha) hL (by omega))
theorem rvk_ct : ∀ (n : Nat) (x : X) (a : Int × Int), Ok x → Ct x (rvk n x a).2
  | 0, x, a, h => Ct.refl x
  | n + 1, x, a, h => by
    cases hk : (x.f.kin a).getLast? with
    | none => rw [rvk_none hk]; exact Ct.refl x
    | some b =>
      rw [rvk_some hk]
      have hb := kin_full h hk
      have g := away_kp (n := x.f.len) (L := []) h hb (by simp) (by rw [free_nil]; exact Nat.le_refl _)
      have c := away_ct x.f.len x b [] h hb (by simp) (by rw [free_nil]; exact Nat.le_refl _)
      generalize away x.f.len x b [] = r at g c
      obtain ⟨q, y⟩ := r
      cases q with
      | true => exact c
      | false => exact Ct.trans c (rvk_ct n y a g.ok)

/-! ### The same again -/
theorem away_fuel : ∀ (n n' : Nat) (x : X) (a : Int × Int) (L : List (Int × Int)), Ok x → (gc x.S a).k ≠ 0 → a ∉ L → free x.f L ≤ n → free x.f L ≤ n' → away n x a L = away n' x a L
  | 0, n', x, a, L, h, ha, hL, hn, hn' => by have := free_pos h.t.nd (h.mem.2 ha) hL; omega
  | n + 1, 0, x, a, L, h, ha, hL, hn, hn' => by have := free_pos h.t.nd (h.mem.2 ha) hL; omega
  | n + 1, n' + 1, x, a, L, h, ha, hL, hn, hn' => by
    cases hb : ahd x.S a (L ++ [a]) with
    | none => rw [away_none hb, away_none hb]
    | some b =>
      rw [away_some hb, away_some hb]
      obtain ⟨_, _, b1, b2, _⟩ := ahd_some h.s hb
      have hf := free_less h.t.nd (h.mem.2 ha) hL
      have g := away_ok n x b (L ++ [a]) h b1 b2 (by omega)
      rw [← away_fuel n n' x b (L ++ [a]) h b1 b2 (by omega) (by omega)]
      generalize away n x b (L ++ [a]) = r at g
      obtain ⟨q, y⟩ := r
      cases q with
      | true => rfl
      | false =>
        obtain ⟨k1, k2, k3⟩ := g.next h b1 b2
        exact away_fuel n n' y a L k1 (by rw [k2]; exact ha) hL (by omega) (by omega)
def pl (x : X) (j : Nat) : X := ⟨x.S, x.f, x.l + j, x.T⟩
theorem Ok.pl {x : X} (h : Ok x) (j : Nat) : Ok (M.pl x j) := ⟨h.i, h.s, h.t⟩
theorem ahd_again {x y : X} {a b : Int × Int} {L : List (Int × Int)} (h : Ok x) (ha : (gc x.S a).k ≠ 0) (hb : ahd x.S a (L ++ [a]) = some b) (g : Gone x b (L ++ [a]) (true, y)) (c : Ct x y) : ahd y.S a (L ++ [a]) = some b := by
  obtain ⟨a1, a2, b1, b2, b3⟩ := ahd_some h.s hb
  have ga : gc y.S a = gc x.S a := g.stay a (by simp)
  have gb : gc y.S b = gc x.S b := (g.more rfl).2
  have hfy : fin y.S a = true := by
    have h1 := c.le (gc x.S a).k (gc x.S a).o
    have h2 : cnt x.S (gc x.S a).k (gc x.S a).o = 1 := by
      unfold fin at a2
      simp only [beq_iff_eq] at a2
      omega
    have h3 : 0 < cnt y.S (gc x.S a).k (gc x.S a).o := by
      unfold cnt cntL
      refine List.length_pos_of_mem (a := a) (List.mem_filter.2 ⟨(mem_full g.ok.s a).2 (by rw [ga]; exact ha), hit_iff.2 (by rw [ga]; exact ⟨rfl, rfl⟩)⟩)
    unfold fin
    rw [ga]
    simp only [beq_iff_eq]
    omega
  unfold ahd at hb ⊢
  rw [if_pos (by rw [a1, a2]; rfl)] at hb
  rw [if_pos (by rw [ga, a1, hfy]; rfl), ga]
  unfold full at hb ⊢
  rw [fullTo_uni h.s, List.find?_filter] at hb
  rw [fullTo_uni g.ok.s, List.find?_filter]
  refine find_less (fun s hs => ?_) ?_ hb
  · simp only [Bool.and_eq_true, bne_iff_ne, ne_eq, decide_eq_true_eq] at hs ⊢
    refine ⟨?_, hs.2⟩
    rcases g.gc s with e | e
    · rw [← e]; exact hs.1
    · rw [e] at hs; exact absurd rfl hs.1
  · simp only [Bool.and_eq_true, bne_iff_ne, ne_eq, decide_eq_true_eq, beq_iff_eq, Bool.not_eq_true', decide_eq_false_iff_not]
    exact ⟨by rw [gb]; exact b1, b3, b2⟩
theorem away_more : ∀ (n : Nat) (x : X) (a : Int × Int) (L : List (Int × Int)) (j : Nat), Ok x → (gc x.S a).k ≠ 0 → a ∉ L → free x.f L ≤ n →
    (∀ y, away n x a L = (false, y) → away n (pl x j) a L = (false, pl y j)) ∧ (∀ y, away n x a L = (true, y) → away n (pl x j) a L = away n (pl y j) a L)
  | 0, x, a, L, j, h, ha, hL, hn => by have := free_pos h.t.nd (h.mem.2 ha) hL; omega
  | n + 1, x, a, L, j, h, ha, hL, hn => by
    cases hb : ahd x.S a (L ++ [a]) with
    | none =>
      rw [away_none hb]
      have hb' : ahd (pl x j).S a (L ++ [a]) = none := hb
      rw [away_none hb']
      unfold stp
      by_cases e : x.l = 0
      · rw [if_pos e]
        refine ⟨fun y hy => ?_, fun y hy => ?_⟩
        · cases hy
        · simp only [Prod.mk.injEq, true_and] at hy
          subst hy
          rw [away_none hb']; rfl
      · rw [if_neg e]
        refine ⟨fun y hy => ?_, fun y hy => ?_⟩
        · simp only [Prod.mk.injEq, true_and] at hy
          subst hy
          rw [if_neg (by show ¬ x.l + j = 0; omega)]
          simp only [Prod.mk.injEq, true_and]
          show (⟨fall x.S a, takF x.S x.f a, x.l + j - 1, _⟩ : X) = ⟨fall x.S a, takF x.S x.f a, x.l - 1 + j, _⟩
          rw [show x.l + j - 1 = x.l - 1 + j by omega]; rfl
        · simp at hy
    | some b =>
      have hb' : ahd (pl x j).S a (L ++ [a]) = some b := hb
      rw [away_some hb, away_some hb']
      obtain ⟨_, _, b1, b2, _⟩ := ahd_some h.s hb
      have hf := free_less h.t.nd (h.mem.2 ha) hL
      have g := away_ok n x b (L ++ [a]) h b1 b2 (by omega)
      have c := away_ct n x b (L ++ [a]) h b1 b2 (by omega)
      obtain ⟨i1, i2⟩ := away_more n x b (L ++ [a]) j h b1 b2 (by omega)
      obtain ⟨⟨q, y1⟩, hr⟩ : ∃ r, away n x b (L ++ [a]) = r := ⟨_, rfl⟩
      rw [hr] at g c i1 i2
      rw [hr]
      cases q with
      | true =>
        simp only
        refine ⟨fun y hy => (by cases hy), fun y hy => ?_⟩
        simp only [Prod.mk.injEq, true_and] at hy
        subst hy
        have hy0 : ahd y1.S a (L ++ [a]) = some b := ahd_again h ha hb g c
        have hy1 : ahd (pl y1 j).S a (L ++ [a]) = some b := hy0
        rw [i2 y1 rfl, away_some hy1]
      | false =>
        simp only
        rw [i1 y1 rfl]
        simp only
        obtain ⟨k1, k2, k3⟩ := g.next h b1 b2
        have ha1 : (gc y1.S a).k ≠ 0 := by rw [k2]; exact ha
        obtain ⟨j1, j2⟩ := away_more n y1 a L j k1 ha1 hL (by omega)
        refine ⟨j1, fun y hy => ?_⟩
        rw [j2 y hy]
        have g2 := away_ok n y1 a L k1 ha1 hL (by omega)
        rw [hy] at g2
        have hay : (gc y.S a).k ≠ 0 := by rw [show gc y.S a = _ from (g2.more rfl).2]; exact ha1
        have hfr : free y.f L ≤ n := by
          have := subs_len (y.f.pre.filter (fun s => !decide (s ∈ L))) (y1.f.pre.filter (fun s => !decide (s ∈ L))) (List.Nodup.sublist List.filter_sublist g2.ok.t.nd) (fun s hs => by
            rw [List.mem_filter] at hs ⊢
            exact ⟨g2.sub k1 s hs.1, hs.2⟩)
          unfold free at k3 hn ⊢
          unfold free at hf
          omega
        exact away_fuel n (n + 1) (pl y j) a L (g2.ok.pl j) hay hL hfr (by show free y.f L ≤ n + 1; omega)
/-- What was told before stays ahead. -/
def tp (T0 : List C) (r : Bool × X) : Bool × X := (r.1, ⟨r.2.S, r.2.f, r.2.l, T0 ++ r.2.T⟩)
theorem away_tp (T0 : List C) : ∀ (n : Nat) (x : X) (a : Int × Int) (L : List (Int × Int)), away n ⟨x.S, x.f, x.l, T0 ++ x.T⟩ a L = tp T0 (away n x a L)
  | 0, x, a, L => rfl
  | n + 1, x, a, L => by
    cases hb : ahd x.S a (L ++ [a]) with
    | none =>
      have hb' : ahd (⟨x.S, x.f, x.l, T0 ++ x.T⟩ : X).S a (L ++ [a]) = none := hb
      rw [away_none hb, away_none hb']
      unfold stp
      show (if x.l = 0 then _ else _) = _
      split
      · rfl
      · unfold tp one
        simp only [Prod.mk.injEq, true_and]
        split
        · rw [List.append_assoc]
        · rfl
    | some b =>
      have hb' : ahd (⟨x.S, x.f, x.l, T0 ++ x.T⟩ : X).S a (L ++ [a]) = some b := hb
      rw [away_some hb, away_some hb', away_tp T0 n x b (L ++ [a])]
      obtain ⟨⟨q, y⟩, hr⟩ : ∃ r, away n x b (L ++ [a]) = r := ⟨_, rfl⟩
      rw [hr]
      cases q with
      | true => rfl
      | false => exact away_tp T0 n y a L
/-- On the way with few steps: what is left to do with many. -/
structure Fw (S0 : St) (f0 : T9.Fo) (a : Int × Int) (S : St) (f : T9.Fo) (T : List C) (m : Nat) : Prop where
  eq : delR S0 f0 a 1000 = away f.len ⟨S, f, m, T⟩ a []
  le : f.len ≤ m
theorem Fw.start (S : St) (f : T9.Fo) (a : Int × Int) (h : f.len ≤ 1000) : Fw S f a S f [] 1000 := ⟨rfl, h⟩
theorem Fw.more {S0 : St} {f0 : T9.Fo} {a : Int × Int} {S : St} {f : T9.Fo} {T : List C} {m : Nat} (h : Fw S0 f0 a S f T m) (I : Inv S f) (G : Good S) (N : T9.Good f) (ha : (gc S a).k ≠ 0) {l : Nat} (hl : l ≤ m) {q : Bool} {y : X} (hr : delR S f a (l : Int) = (q, y)) :
    (q = true → Fw S0 f0 a y.S y.f (T ++ y.T) (m - l)) ∧ (q = false → ∃ l', delR S0 f0 a 1000 = (false, ⟨y.S, y.f, l', T ++ y.T⟩)) := by
  have D := del_one I G N ha hr
  unfold delR at hr
  rw [Int.toNat_natCast] at hr
  have ok : Ok ⟨S, f, l, []⟩ := ⟨I, G, N⟩
  have hfr : free f [] ≤ f.len := by rw [free_nil]; exact Nat.le_refl _
  obtain ⟨h1, h2⟩ := away_more f.len ⟨S, f, l, []⟩ a [] (m - l) ok ha (by simp) hfr
  have e : away f.len ⟨S, f, m, T⟩ a [] = tp T (away f.len (pl ⟨S, f, l, []⟩ (m - l)) a []) := by
    have := away_tp T f.len (pl ⟨S, f, l, []⟩ (m - l)) a []
    rw [← this]
    show away f.len ⟨S, f, m, T⟩ a [] = away f.len ⟨S, f, l + (m - l), T ++ []⟩ a []
    rw [show l + (m - l) = m by omega, List.append_nil]
  refine ⟨fun hq => ?_, fun hq => ?_⟩
  · subst hq
    have d := D.more rfl
    have g := away_ok f.len ⟨S, f, l, []⟩ a [] ok ha (by simp) hfr
    rw [hr] at g
    have hl0 : y.l = 0 := (g.more rfl).1
    have hay : (gc y.S a).k ≠ 0 := by rw [d.1]; exact ha
    refine ⟨?_, by have := h.le; omega⟩
    rw [h.eq, e, h2 y hr]
    have e2 := away_tp T f.len (pl y (m - l)) a []
    rw [← e2]
    show away f.len ⟨y.S, y.f, y.l + (m - l), T ++ y.T⟩ a [] = _
    rw [hl0, Nat.zero_add]
    exact away_fuel f.len y.f.len ⟨y.S, y.f, m - l, T ++ y.T⟩ a [] ⟨D.ok.i, D.ok.s, D.ok.t⟩ hay (by simp) (by rw [free_nil]; exact D.le) (by rw [free_nil]; exact Nat.le_refl _)
  · subst hq
    refine ⟨y.l + (m - l), ?_⟩
    rw [h.eq, e, h1 y hr]
    rfl
/-- What is told, and how many are left. -/
theorem del_told {S : St} {f : T9.Fo} (I : Inv S f) (G : Good S) (N : T9.Good f) {a : Int × Int} (ha : (gc S a).k ≠ 0) {q : Bool} {y : X} {l : Int} (hr : delR S f a l = (q, y)) (k o : Int) (hc : 0 < cnt S k o) : tn y.T k o = if cnt y.S k o = 0 then 1 else 0 := by
  have c := away_ct f.len ⟨S, f, l.toNat, []⟩ a [] ⟨I, G, N⟩ ha (by simp) (by rw [free_nil]; exact Nat.le_refl _)
  unfold delR at hr
  rw [hr] at c
  have := c.tn k o
  simp only at this
  rw [this]
  show 0 + _ = _
  rw [Nat.zero_add]
  by_cases e : cnt y.S k o = 0
  · rw [if_pos ⟨hc, e⟩, if_pos e]
  · rw [if_neg (fun k => e k.2), if_neg e]
theorem rev_told {S : St} {f : T9.Fo} (I : Inv S f) (G : Good S) (N : T9.Good f) {a : Int × Int} {q : Bool} {y : X} {l : Int} (hr : revR S f a l = (q, y)) (k o : Int) (hc : 0 < cnt S k o) : tn y.T k o = if cnt y.S k o = 0 then 1 else 0 := by
  have c := rvk_ct (f.len + 1) ⟨S, f, l.toNat, []⟩ a ⟨I, G, N⟩
  unfold revR at hr
  rw [hr] at c
  have := c.tn k o
  simp only at this
  rw [this]
  show 0 + _ = _
  rw [Nat.zero_add]
  by_cases e : cnt y.S k o = 0
  · rw [if_pos ⟨hc, e⟩, if_pos e]
  · rw [if_neg (fun k => e k.2), if_neg e]
end M
end Go.Proofs.Ytpfjcfgbecoccaa
