/-
  THE CONTRACTS of package sched: Tick, find, Put, Drop, Yield, Pick.
-/
import Derived.Test.YtpacgdplbddclaaSch
namespace Go.Proofs.Ytpacgdplbddclaa
set_option maxRecDepth 10000
open Go.RowKit
set_option linter.unusedVariables false

section
variable {w : World} {O : Nat → Prop} {p : Nat} {T : List (Int × Int)} {n : Nat} {l : Int} {F : Nat → List (Int × Int)} {x : Option Addr} {cap : Nat} {qs : Nat → Nat} {Os : Nat → Nat → Prop}
/-! ### Tick -/
set_option maxHeartbeats 400000 in
theorem tick_row (h : SV w O p T n l F x cap 4 qs Os) (h1 : 1 < l) (h2 : l ≤ 1000) :
    Calls Try.prog 17 #[.pointer (some ⟨p, 0, none⟩)] w fun e w' => e = .returned (.bool false) ∧ SV w' O p T n (l - 1) F x cap 4 qs Os ∧ w.grownBy w' (some p) := by
  obtain ⟨m, hm⟩ : ∃ m, l - 1 = m := ⟨_, rfl⟩
  rw [hm]
  obtain ⟨W1, hW1, A1, G1⟩ := h.setLeft m
  have c2 := h.c2
  have d2 := A1.c2
  have f2 := h.fz 2
  have hm0 : 0 < m := by omega
  have A1 := hideIt A1
  clear h
  go_enter Try.func17, Try.ntmps17
  go_wp2
  go_ret
  exact ⟨rfl, A1.out, G1⟩
set_option maxHeartbeats 1000000 in
theorem tick_next (h : SV w O p T n 1 F x cap 4 qs Os) (m k : Nat) (hn : n < k) (hk : T.length = k) (hk2 : k ≤ 16) (hm : (n + 1) % k = m) :
    Calls Try.prog 17 #[.pointer (some ⟨p, 0, none⟩)] w fun e w' => e = .returned (.bool true) ∧ SV w' O p T m (M.tt T m) F x cap 4 qs Os ∧ w.grownBy w' (some p) := by
  have hmk : m < k := by rw [← hm]; exact Nat.mod_lt _ (by omega)
  obtain ⟨t, ht⟩ : ∃ t, M.tt T m = t := ⟨_, rfl⟩
  have H0 := M.at_lt (T := T) (n := m) (by omega)
  rw [ht] at H0 ⊢
  obtain ⟨W1, hW1, A1, G1⟩ := h.setLeft 0
  obtain ⟨W2, hW2, A2, G2⟩ := (SV.fr (O' := fun _ => False) A1 (Fr.grown (gbDrew (gbRefl W1 none))) (fun _ _ e => e)).setEntry m
  obtain ⟨W3, hW3, A3, G3⟩ := (SV.fr (O' := fun _ => False) A2 (Fr.grown (gbDrew (gbRefl W2 none))) (fun _ _ e => e)).setLeft t
  obtain ⟨a, e, _, e1⟩ := (A2.kept (gbDrew (gbRefl W2 none))).tl.pairs m _ H0
  subst e
  simp only at e1
  have c2 := h.c2
  have f2 := h.fz 2
  have d0 := A1.c0
  have d1 := A1.c1
  have d2 := A1.c2
  have d3 := A1.fz 1
  have d4 := A2.fz 2
  have d5 := A2.c1
  have d6 := A2.c2
  have d7 := A2.c0
  have d8 := (A1.kept (gbDrew (gbRefl W1 none))).c1
  have d9 := (A2.kept (gbDrew (gbRefl W2 none))).c2
  rw [hk] at d0 d7
  have HW3 := hideIt (And.intro A3 (gbTrans (gbTrans (gbTrans G1 (gbDrewN W1 1 _)) G2) (gbTrans (gbDrewN W2 1 _) G3)))
  obtain ⟨n1, hn1⟩ : ∃ n1 : Nat, n + 1 = n1 := ⟨_, rfl⟩
  rw [hn1] at hm
  have q1 : (n : Int) + 1 = (n1 : Int) := by omega
  have q2 : (n1 : Int) % (k : Int) = (m : Int) := by omega
  have q3 : (n1 : Int).tmod (k : Int) = (m : Int) := by rw [Int.tmod_eq_emod_of_nonneg (by omega)]; exact q2
  have q4 : ¬ (k : Int) = 0 := by omega
  have q5 : (m : Int) < (k : Int) := by omega
  have q6 : IntKind.i64.wrap (n1 : Int) = (n1 : Int) := wI rfl (by omega)
  have q7 : IntKind.i64.wrap (m : Int) = (m : Int) := wI rfl (by omega)
  have q8 : ¬ k = 0 := by omega
  clear h A1 A2 A3 G1 G2 G3 H0 ht hk hn1 hm
  go_enter Try.func17, Try.ntmps17
  go_upto_region 4 with fail
  go_region
  go_upto_region 5 with fail
  go_region
  go_wp2
  go_ret
  exact ⟨rfl, HW3.out⟩
theorem tick_is {N : Int} (h : SA w O p T n l F) (ok : M.Ok T) (ps : M.Ps T n l N) (b : Bool) (hb : decide (l = 1) = b) :
    Calls Try.prog 17 #[.pointer (some ⟨p, 0, none⟩)] w fun e w' => e = .returned (.bool b) ∧ SA w' (wide O w w') p T (M.tn T n l) (M.tl T n l) F ∧ Fr O w w' := by
  subst hb
  obtain ⟨x, cap, qs, Os, h⟩ := h
  have h1 := ps.l1
  have h2 := ps.l2
  have h3 := (ok.dmB ps.lt).2.2.2
  unfold M.tn M.tl
  by_cases c : 1 < l
  · rw [if_pos c, if_pos c, decide_eq_false (by omega)]
    refine (tick_row h c (by omega)).mono ?_
    rintro e w1 ⟨rfl, A, g⟩
    exact ⟨rfl, ⟨_, _, _, _, A.mono fun i hi => .inl hi⟩, Fr.at g h.op⟩
  · obtain rfl : l = 1 := by omega
    rw [if_neg c, if_neg c, decide_eq_true rfl]
    refine (tick_next h _ T.length ps.lt rfl ok.l2 rfl).mono ?_
    rintro e w1 ⟨rfl, A, g⟩
    exact ⟨rfl, ⟨_, _, _, _, A.mono fun i hi => .inl hi⟩, Fr.at g h.op⟩

/-! ### find -/
theorem SV.ptrs (h : SV w O p T n l F x cap 4 qs Os) : ∀ d, d < 4 → w.cell? ⟨p, 3 + d, none⟩ = some (ptr (qs d)) := fun d hd => by
  rw [h.c3 d hd, if_pos hd]
set_option maxHeartbeats 2000000 in
theorem find_row (h : Hid (SV w O p T n l F x cap 4 qs Os)) (g : Hid (M.GF F)) (a : Int) (r : Option (Nat × Nat)) (hr : Hid (∀ (c k : Nat), c < 4 → k < 8 → (a ∈ M.lv (F c) (k : Int) ↔ r = some (c, k)))) (hr2 : Hid (∀ c k, r = some (c, k) → c < 4 ∧ k < 8)) (P : Value) (v : Int) (b : Bool)
    (hP : Hid (∀ c k, r = some (c, k) → P = ptr (qs c) ∧ v = (k : Int) ∧ b = true)) (hN : Hid (r = none → P = .pointer none ∧ v = 0 ∧ b = false)) :
    Calls Try.prog 30 #[.pointer (some ⟨p, 0, none⟩), .int .i64 a] w fun e w' => e = .returned (.tuple #[P, .int .i64 v, .bool b]) ∧ w.grownBy w' none := by
  have ld := load4 h.out.ptrs
  go_enter Try.func30, Try.ntmps30
  go_wp2_with (refine wpList_load4 rfl _ rfl p (arr4 fun d => ptr (qs d)) rfl ld ?_)
  clear ld
  go_loopg [14] 5 (fun y i wr => ∃ c : Nat, c + y = 5 ∧ c ≤ 4 ∧ i = .int .i64 c ∧ Hid (∀ c' k, c' < c → r ≠ some (c', k)) ∧ w.grownBy wr none)
  case atStart => exact ⟨0, by omega, by omega, rfl, hideIt (fun c' k hc => by omega), gbRefl _ _⟩
  case round =>
    obtain ⟨c, hc, hcl, rfl, HA, gw⟩ := hrel
    by_cases hc4 : c < 4
    · have hc4' : (c : Int) < 4 := by omega
      have ix := index4 wr (fun d => ptr (qs d)) c hc4
      obtain ⟨G, hG⟩ : ∃ G, G = gk := ⟨_, rfl⟩
      obtain ⟨wo, hwo⟩ : ∃ wo, wo = wr := ⟨_, rfl⟩
      replace hG := hideIt hG
      go_upto_region 3 with fail
      go_wp2_with (refine wpList_index4 rfl _ _ rfl (arr4 fun d => ptr (qs d)) c (ptr (qs c)) rfl rfl ix ?_)
      clear ix
      subst hwo
      go_loopg [17] 9 (fun y i wx => ∃ k : Nat, k + y = 9 ∧ k ≤ 8 ∧ i = .int .i64 k ∧ Hid (∀ k', k' < k → r ≠ some (c, k')) ∧ w.grownBy wx none)
      case atStart => exact ⟨0, by omega, by omega, rfl, hideIt (fun k' hk => by omega), gw⟩
      case round =>
        obtain ⟨k, hk, hkl, rfl, HB, gx⟩ := hrel
        by_cases hk8 : k < 8
        · have hk8' : (k : Int) < 8 := by omega
          have hx := h.out.kept gx
          obtain ⟨z, hz⟩ : ∃ z, (M.lv (F c) (k : Int)).contains a = z := ⟨_, rfl⟩
          have HZ : Hid (z = true ↔ r = some (c, k)) := hideIt (by rw [← hr.out c k hc4 hk8, ← hz]; simp)
          have HL := hideIt (listOf_is (hx.ra c hc4) (g.out.gd c hc4) (by have := g.out.len hc4; omega) (k : Int))
          have hll : (M.lv (F c) (k : Int)).length ≤ 1000 := by have := g.out.len hc4; have := M.lv_len (F c) (k : Int); omega
          replace hz := hideIt hz
          clear hx
          go_wp2_with fail
          refine HL.out.mono ?_
          rintro e w2 ⟨v2, rfl, l2, g2⟩
          have l2 := hideIt l2
          go_wp2_with fail
          refine (contains_is l2.out hll a z hz.out).mono ?_
          rintro e w3 ⟨rfl, rfl⟩
          cases z with
          | true =>
            obtain ⟨rfl, rfl, rfl⟩ := hP.out c k (HZ.out.1 rfl)
            clear HL l2
            go_wp2
            go_ret3
            exact ⟨rfl, gbTrans gx g2⟩
          | false =>
            have hne : Hid (r ≠ some (c, k)) := hideIt (fun e => by have := HZ.out.2 e; cases this)
            clear HL l2
            go_wp2
            go_roundg (gk - 1)
            case rel =>
              refine ⟨k + 1, by omega, by omega, by go_num, hideIt (fun k' hk' => ?_), gbTrans gx g2⟩
              by_cases q : k' = k
              · subst q; exact hne.out
              · exact HB.out k' (by omega)
            case measure => omega
        · have hk8' : ¬ (k : Int) < 8 := by omega
          go_wp2
          go_roundg (G - 1)
          case rel =>
            refine ⟨c + 1, by have := hG.out; omega, by omega, by go_num, hideIt (fun c' k' hc' e => ?_), gx⟩
            by_cases q : c' = c
            · subst q; exact HB.out k' (by have := (hr2.out _ _ e).2; omega) e
            · exact HA.out c' k' (by omega) e
          case measure => have := hG.out; omega
    · have hc4' : ¬ (c : Int) < 4 := by omega
      have hrn : r = none := by
        cases hq : r with
        | none => rfl
        | some q =>
          obtain ⟨c', k'⟩ := q
          exact absurd hq (HA.out c' k' (by have := (hr2.out _ _ hq).1; omega))
      obtain ⟨rfl, rfl, rfl⟩ := hN.out hrn
      clear hrn
      go_wp2
      go_ret3
      exact ⟨rfl, gw⟩
theorem find_no (h : SV w O p T n l F x cap 4 qs Os) (g : M.GF F) (a : Int) (hn : M.inn F a = false) :
    Calls Try.prog 30 #[.pointer (some ⟨p, 0, none⟩), .int .i64 a] w fun e w' => e = .returned (.tuple #[.pointer none, .int .i64 0, .bool false]) ∧ w.grownBy w' none :=
  find_row (hideIt h) (hideIt g) a none (hideIt fun c k hc hk => ⟨fun e => absurd (M.mem_ids.2 ⟨_, M.mem_lv.1 e⟩) (M.inn_not hn c hc), fun e => by cases e⟩) (hideIt fun c k e => by cases e) _ 0 false (hideIt fun c k e => by cases e) (hideIt fun _ => ⟨rfl, rfl, rfl⟩)
theorem find_yes (h : SV w O p T n l F x cap 4 qs Os) (g : M.GF F) (a : Int) (d : Nat) (hd : d < 4) (ha : a ∈ M.ids (F d)) (ho : ∀ e, e < 4 → e ≠ d → a ∉ M.ids (F e)) :
    Calls Try.prog 30 #[.pointer (some ⟨p, 0, none⟩), .int .i64 a] w fun e w' => e = .returned (.tuple #[ptr (qs d), .int .i64 (M.lo (F d) a), .bool true]) ∧ w.grownBy w' none := by
  have hb := M.lo_bd (g.gd d hd) ha
  have hm := M.lo_mem (g.gd d hd) ha
  obtain ⟨k, hk⟩ : ∃ k : Nat, M.lo (F d) a = k := ⟨(M.lo (F d) a).toNat, by omega⟩
  rw [hk] at hb hm ⊢
  refine find_row (hideIt h) (hideIt g) a (some (d, k)) (hideIt fun c j hc hj => ⟨fun e => ?_, fun e => ?_⟩) (hideIt fun c j e => by cases e; exact ⟨hd, by omega⟩) _ _ true (hideIt fun c j e => by cases e; exact ⟨rfl, rfl, rfl⟩) (hideIt fun e => by cases e)
  · have h1 := M.mem_lv.1 e
    have h2 : c = d := by
      by_cases q : c = d
      · exact q
      · exact absurd (M.mem_ids.2 ⟨_, h1⟩) (ho c hc q)
    subst h2
    have h3 := (g.gd c hc).one h1 hm
    have : j = k := by omega
    rw [this]
  · cases e
    exact M.mem_lv.2 hm

/-! ### Frames, one behind the other -/
theorem wideIn {O : Nat → Prop} {a b c d : World} (h1 : a.heap.size ≤ b.heap.size) (h2 : c.heap.size ≤ d.heap.size) : ∀ i, wide O b c i → wide O a d i := by
  rintro i (h | h)
  · exact .inl h
  · exact .inr (by omega)
theorem wideTwo {O : Nat → Prop} {a b c d : World} (h0 : a.heap.size ≤ b.heap.size) (h1 : b.heap.size ≤ c.heap.size) (h2 : c.heap.size ≤ d.heap.size) : ∀ i, wide (wide O b c) c d i → wide O a d i := by
  rintro i ((h | h) | h)
  · exact .inl h
  · exact .inr (by omega)
  · exact .inr (by omega)
theorem SV.sa {O' : Nat → Prop} {G : Nat → List (Int × Int)} (h : SV w O p T n l F x cap 4 qs Os) (hO : ∀ i, O i → O' i) (e : ∀ d, d < 4 → F d = G d) : SA w O' p T n l G := ⟨_, _, _, _, (h.mono hO).same e⟩
theorem rdrop0 {q : Nat} {P : Nat → Prop} {R : List (Int × Int)} (h : RA w P q R) (hl : R.length ≤ 1000) (a : Int) (ha : a ∉ M.ids R) :
    Calls Try.prog 34 #[.pointer (some ⟨q, 0, none⟩), .int .i64 a] w fun e w' => e = .returned (.bool false) ∧ w' = w := by
  obtain ⟨vs, hv⟩ := h
  exact drop_no (hideIt hv) (hideIt fun i _ => Nat.le_trans (M.lv_len R i) hl) a (hideIt fun i hi => M.not_lv ha i)

/-! ### Put -/
set_option maxHeartbeats 1000000 in
theorem sput_is (h : SA w O p T n l F) (g : M.GF F) (a d v f : Int) (hf : M.se F a d v = f) :
    Calls Try.prog 11 #[.pointer (some ⟨p, 0, none⟩), .int .i64 a, .int .i64 d, .int .i64 v] w fun e w' => e = .returned (.int .i64 f) ∧ SA w' (wide O w w') p T n l (M.sp F a d v) ∧ Fr O w w' := by
  subst hf
  obtain ⟨r1, h1⟩ : ∃ r, decide (0 ≤ a ∧ a < 64) = r := ⟨_, rfl⟩
  obtain ⟨r2, h2⟩ : ∃ r, decide (0 ≤ d ∧ d < 4) = r := ⟨_, rfl⟩
  obtain ⟨r3, h3⟩ : ∃ r, decide (0 ≤ v ∧ v < 8) = r := ⟨_, rfl⟩
  have B1 := hideIt (isBelow_is a 64 r1 w h1)
  have B2 := hideIt (isBelow_is d 4 r2 w h2)
  have B3 := hideIt (isBelow_is v 8 r3 w h3)
  by_cases c : r1 = true ∧ r2 = true ∧ r3 = true
  · obtain ⟨rfl, rfl, rfl⟩ := c
    simp only [decide_eq_true_eq] at h1 h2 h3
    have hc : 0 ≤ a ∧ a < 64 ∧ 0 ≤ d ∧ d < 4 ∧ 0 ≤ v ∧ v < 8 := ⟨h1.1, h1.2, h2.1, h2.2, h3⟩
    cases hi : M.inn F a with
    | true =>
      have e1 : M.se F a d v = 4 := by unfold M.se; rw [if_pos hc, hi]; rfl
      have e2 : M.sp F a d v = F := by unfold M.sp; rw [hi, if_neg (by simp)]
      rw [e1, e2]
      obtain ⟨x, cap, qs, Os, hv⟩ := h
      obtain ⟨k, hk, hka, hko⟩ := g.who hi
      have HF := hideIt (find_yes hv g a k hk hka hko)
      have HV := hideIt hv
      clear hv hi hka hko e1 e2 hc h1 h2 h3
      go_enter Try.func11, Try.ntmps11
      go_wp2_with fail
      refine B1.out.mono ?_
      rintro e w1 ⟨rfl, rfl⟩
      go_wp2_with fail
      refine B2.out.mono ?_
      rintro e w1 ⟨rfl, rfl⟩
      go_wp2_with fail
      refine B3.out.mono ?_
      rintro e w1 ⟨rfl, rfl⟩
      go_wp2_with fail
      refine HF.out.mono ?_
      rintro e w2 ⟨rfl, g2⟩
      go_wp2
      go_ret
      exact ⟨rfl, (HV.out.kept g2).sa (fun i hi => .inl hi) (fun _ _ => rfl), Fr.grown g2⟩
    | false =>
      have e1 : M.se F a d v = 0 := by unfold M.se; rw [if_pos hc, hi]; rfl
      rw [e1]
      obtain ⟨x, cap, qs, Os, hv⟩ := h
      obtain ⟨k, rfl⟩ : ∃ k : Nat, d = k := ⟨d.toNat, by omega⟩
      have hk : k < 4 := by omega
      have hno := M.inn_not hi k hk
      have e2 : M.sp F a k v = upd F k (F k ++ [(a, v)]) := by unfold M.sp; rw [if_pos ⟨hc, hi⟩, Int.toNat_natCast]
      have e3 : M.re (F k) a v = 0 := by unfold M.re; rw [if_pos (by omega), if_neg hno]
      have e4 : M.rl (F k) a v = F k ++ [(a, v)] := by unfold M.rl; rw [if_pos ⟨by omega, hno⟩]
      rw [e2]
      have HF := hideIt (find_no hv g a hi)
      have HV := hideIt hv
      have hk0 : (0 : Int) ≤ (k : Int) := by omega
      have hk4 : (k : Int) < 4 := by omega
      have hl := g.len hk
      clear hv hi hno e1 e2 hc h1 h2 h3
      go_enter Try.func11, Try.ntmps11
      go_wp2_with fail
      refine B1.out.mono ?_
      rintro e w1 ⟨rfl, rfl⟩
      go_wp2_with fail
      refine B2.out.mono ?_
      rintro e w1 ⟨rfl, rfl⟩
      go_wp2_with fail
      refine B3.out.mono ?_
      rintro e w1 ⟨rfl, rfl⟩
      go_wp2_with fail
      refine HF.out.mono ?_
      rintro e w2 ⟨rfl, g2⟩
      have H2 := hideIt (HV.out.kept g2)
      have cp := H2.out.ptrs k hk
      go_wp2_with fail
      refine (put_is (H2.out.ra k hk) (g.gd k hk) (by omega) a v 0 e3).mono ?_
      rintro e w3 ⟨rfl, Z, F3⟩
      rw [e4] at Z
      have H3 := hideIt (H2.out.turn hk Z F3)
      clear Z cp
      have g2 := hideIt g2
      go_wp2
      go_ret
      exact ⟨rfl, H3.out.1.sa (wideIn g2.out.size (Nat.le_refl _)) (fun _ _ => rfl), (Fr.grown g2.out).trans H3.out.2⟩
  · have hn : ¬ (0 ≤ a ∧ a < 64 ∧ 0 ≤ d ∧ d < 4 ∧ 0 ≤ v ∧ v < 8) := by
      rintro ⟨q1, q2, q3, q4, q5, q6⟩
      exact c ⟨by rw [← h1]; simp; omega, by rw [← h2]; simp; omega, by rw [← h3]; simp; omega⟩
    have e1 : M.se F a d v = 1 := by unfold M.se; rw [if_neg hn]
    have e2 : M.sp F a d v = F := by unfold M.sp; rw [if_neg (fun e => hn e.1)]
    rw [e1, e2]
    have HS := hideIt h
    clear h hn h1 h2 h3 e1 e2
    go_enter Try.func11, Try.ntmps11
    go_wp2_with fail
    refine B1.out.mono ?_
    rintro e w1 ⟨rfl, rfl⟩
    cases r1 with
    | false =>
      go_wp2
      go_ret
      exact ⟨rfl, HS.out.wider _ _, Fr.refl _ _⟩
    | true =>
      go_wp2_with fail
      refine B2.out.mono ?_
      rintro e w1 ⟨rfl, rfl⟩
      cases r2 with
      | false =>
        go_wp2
        go_ret
        exact ⟨rfl, HS.out.wider _ _, Fr.refl _ _⟩
      | true =>
        obtain rfl : r3 = false := by cases r3 <;> simp_all
        go_wp2_with fail
        refine B3.out.mono ?_
        rintro e w1 ⟨rfl, rfl⟩
        go_wp2
        go_ret
        exact ⟨rfl, HS.out.wider _ _, Fr.refl _ _⟩

/-! ### Drop -/
set_option maxHeartbeats 1000000 in
theorem sdrop_row (h : Hid (SV w O p T n l F x cap 4 qs Os)) (g : Hid (M.GF F)) (a : Int) (r : Option Nat) (hr : Hid (∀ c : Nat, c < 4 → (a ∈ M.ids (F c) ↔ r = some c))) (hr2 : Hid (∀ c, r = some c → c < 4)) (b : Bool) (hb : Hid (r.isSome = b)) :
    Calls Try.prog 13 #[.pointer (some ⟨p, 0, none⟩), .int .i64 a] w fun e w' => e = .returned (.bool b) ∧ SA w' (wide O w w') p T n l (M.sd F a) ∧ Fr O w w' := by
  have ld := load4 h.out.ptrs
  go_enter Try.func13, Try.ntmps13
  go_wp2_with (refine wpList_load4 rfl _ rfl p (arr4 fun d => ptr (qs d)) rfl ld ?_)
  clear ld
  go_loopg [11] 5 (fun y i wr => ∃ c : Nat, c + y = 5 ∧ c ≤ 4 ∧ i = .int .i64 c ∧ Hid (∀ c', c' < c → r ≠ some c') ∧ wr = w)
  case atStart => exact ⟨0, by omega, by omega, rfl, hideIt (fun c' hc => by omega), rfl⟩
  case round =>
    obtain ⟨c, hc, hcl, rfl, HA, rfl⟩ := hrel
    by_cases hc4 : c < 4
    · have hc4' : (c : Int) < 4 := by omega
      have ix := index4 wr (fun d => ptr (qs d)) c hc4
      have hl := g.out.len hc4
      by_cases q : a ∈ M.ids (F c)
      · have hrc := (hr.out c hc4).1 q
        obtain rfl : b = true := by rw [← hb.out, hrc]; rfl
        have HD := hideIt (drop_is (h.out.ra c hc4) (g.out.gd c hc4) (by omega) a true (by simpa using q))
        have ho : Hid (∀ e, e < 4 → e ≠ c → a ∉ M.ids (F e)) := hideIt (fun e he hne h2 => by
          have := (hr.out e he).1 h2
          rw [hrc] at this
          cases this
          exact hne rfl)
        clear q hrc
        go_upto_region 3 with fail
        go_wp2_with (refine wpList_index4 rfl _ _ rfl (arr4 fun d => ptr (qs d)) c (ptr (qs c)) rfl rfl ix ?_)
        clear ix
        refine HD.out.mono ?_
        rintro e w2 ⟨rfl, Z, F2⟩
        have H3 := hideIt (h.out.turn hc4 Z F2)
        clear Z F2
        go_wp2
        go_ret
        exact ⟨rfl, H3.out.1.sa (fun i hi => hi) (M.sd_at ho.out), H3.out.2⟩
      · have hne : Hid (r ≠ some c) := hideIt (fun e => q ((hr.out c hc4).2 e))
        have HD := hideIt (rdrop0 (h.out.ra c hc4) (by omega) a q)
        clear q
        go_upto_region 3 with fail
        go_wp2_with (refine wpList_index4 rfl _ _ rfl (arr4 fun d => ptr (qs d)) c (ptr (qs c)) rfl rfl ix ?_)
        clear ix
        refine HD.out.mono ?_
        rintro e w2 ⟨rfl, rfl⟩
        go_wp2
        go_roundg (gk - 1)
        case rel =>
          refine ⟨c + 1, by omega, by omega, by go_num, hideIt (fun c' hc' => ?_), rfl⟩
          by_cases q : c' = c
          · subst q; exact hne.out
          · exact HA.out c' (by omega)
        case measure => omega
    · have hc4' : ¬ (c : Int) < 4 := by omega
      have hrn : r = none := by
        cases hq : r with
        | none => rfl
        | some c' => exact absurd hq (HA.out c' (by have := hr2.out _ hq; omega))
      obtain rfl : b = false := by rw [← hb.out, hrn]; rfl
      have HE : Hid (∀ e, e < 4 → F e = M.sd F a e) := hideIt (fun e he => by
        unfold M.sd
        rw [M.rd_not (fun q => by have := (hr.out e he).1 q; rw [hrn] at this; cases this)])
      clear hrn
      go_wp2
      go_ret
      exact ⟨rfl, h.out.sa (fun i hi => .inl hi) HE.out, Fr.refl _ _⟩
theorem sdrop_is (h : SA w O p T n l F) (g : M.GF F) (a : Int) (b : Bool) (hb : M.inn F a = b) :
    Calls Try.prog 13 #[.pointer (some ⟨p, 0, none⟩), .int .i64 a] w fun e w' => e = .returned (.bool b) ∧ SA w' (wide O w w') p T n l (M.sd F a) ∧ Fr O w w' := by
  subst hb
  obtain ⟨x, cap, qs, Os, hv⟩ := h
  cases hi : M.inn F a with
  | true =>
    obtain ⟨d, hd, ha, ho⟩ := g.who hi
    refine sdrop_row (hideIt hv) (hideIt g) a (some d) (hideIt fun c hc => ⟨fun e => ?_, fun e => by cases e; exact ha⟩) (hideIt fun c e => by cases e; exact hd) true (hideIt rfl)
    by_cases q : c = d
    · rw [q]
    · exact absurd e (ho c hc q)
  | false => exact sdrop_row (hideIt hv) (hideIt g) a none (hideIt fun c hc => ⟨fun e => absurd e (M.inn_not hi c hc), fun e => by cases e⟩) (hideIt fun c e => by cases e) false (hideIt rfl)

/-! ### Yield -/
set_option maxHeartbeats 1000000 in
theorem syield_is (h : SA w O p T n l F) (g : M.GF F) (a : Int) (b : Bool) (hb : M.inn F a = b) :
    Calls Try.prog 15 #[.pointer (some ⟨p, 0, none⟩), .int .i64 a] w fun e w' => e = .returned (.bool b) ∧ SA w' (wide O w w') p T n l (M.sy F a) ∧ Fr O w w' := by
  obtain ⟨x, cap, qs, Os, hv⟩ := h
  have HV := hideIt hv
  cases b with
  | false =>
    have HF := hideIt (find_no hv g a hb)
    have HE := hideIt (M.sy_not hb)
    clear hv hb
    go_enter Try.func15, Try.ntmps15
    go_wp2_with fail
    refine HF.out.mono ?_
    rintro e w2 ⟨rfl, g2⟩
    go_wp2
    go_ret
    exact ⟨rfl, (HV.out.kept g2).sa (fun i hi => .inl hi) HE.out, Fr.grown g2⟩
  | true =>
    obtain ⟨d, hd, ha, ho⟩ := g.who hb
    have HF := hideIt (find_yes hv g a d hd ha ho)
    have HE := hideIt (M.sy_at ha ho)
    have hl := g.len hd
    have hb1 := M.lo_bd (g.gd d hd) ha
    have hb2 := g.rg d a hd ha
    have HG := hideIt (g.gd d hd)
    have hc : Hid ((M.ids (F d)).contains a = true) := hideIt (by simpa using ha)
    have e0 : a ∉ M.ids (M.rd (F d) a) := fun e => (M.mem_rd.1 e).2 rfl
    obtain ⟨v, hv2⟩ : ∃ v, M.lo (F d) a = v := ⟨_, rfl⟩
    rw [hv2] at HF HE hb1
    have e3 : Hid (M.re (M.rd (F d) a) a v = 0) := hideIt (by unfold M.re; rw [if_pos (by omega), if_neg e0])
    have e4 : Hid (M.rl (M.rd (F d) a) a v = M.rd (F d) a ++ [(a, v)]) := hideIt (by unfold M.rl; rw [if_pos ⟨by omega, e0⟩])
    have hl2 := M.rd_len (F d) a
    clear hv hb ha ho hb1 hb2 e0 hv2
    go_enter Try.func15, Try.ntmps15
    go_wp2_with fail
    refine HF.out.mono ?_
    rintro e w2 ⟨rfl, g2⟩
    have H2 := hideIt (HV.out.kept g2)
    have g2 := hideIt g2
    go_wp2_with fail
    refine (drop_is (H2.out.ra d hd) HG.out (by omega) a true hc.out).mono ?_
    rintro e w3 ⟨rfl, Z, F3⟩
    have H3 := hideIt (H2.out.turn hd Z F3)
    have s3 := F3.size
    clear Z F3
    have hZ := H3.out.1.ra d hd
    rw [upd_at, upd_at] at hZ
    have hZ := hideIt hZ
    go_wp2_with fail
    refine (put_is hZ.out (HG.out.drop a) (by omega) a v 0 e3.out).mono ?_
    rintro e w4 ⟨rfl, Z, F4⟩
    rw [e4.out] at Z
    have Z2 : RA w4 (wide (upd Os d (wide (Os d) w2 w3) d) w3 w4) (qs d) (M.rd (F d) a ++ [(a, v)]) := by rw [upd_at]; exact Z
    have F5 : Fr (upd Os d (wide (Os d) w2 w3) d) w3 w4 := by rw [upd_at]; exact F4
    have H4 := hideIt (H3.out.1.turn hd Z2 F5)
    have s4 := F4.size
    clear Z Z2 F4 F5
    have F6 := hideIt ((Fr.grown g2.out).trans (H3.out.2.join H4.out.2 (fun i hi e => by
      rcases e with e | e
      · exact e
      · omega)))
    go_wp2
    go_ret
    refine ⟨rfl, H4.out.1.sa (wideTwo g2.out.size s3 s4) (fun e he => ?_), F6.out⟩
    rw [← HE.out e he]
    by_cases q : e = d
    · subst q; rw [upd_at, upd_at]
    · rw [upd_ne _ _ q, upd_ne _ _ q, upd_ne _ _ q]

/-! ### Pick -/
set_option maxHeartbeats 1000000 in
theorem pick_is {N : Int} (h : SA w O p T n l F) (ok : M.Ok T) (ps : M.Ps T n l N) (g : M.GF F) (k : Nat) (hk : M.dm T n = (k : Int)) (a : Int) (b : Bool) (ha : M.nx (F k) = a) (hb : M.nb (F k) = b) :
    Calls Try.prog 19 #[.pointer (some ⟨p, 0, none⟩)] w fun e w' => e = .returned (.tuple #[.int .i64 a, .bool b]) ∧ w.grownBy w' none := by
  have hd := ok.dmB ps.lt
  rw [hk] at hd
  have hk4 : k < 4 := by omega
  have HD := hideIt (domain_is (h.kept (gbDrew (gbRefl w none))) ps.lt ok.l2)
  rw [hk] at HD
  obtain ⟨x, cap, qs, Os, hv⟩ := h
  have c3 := hv.ptrs k hk4
  have c3d := (gbDrew (gbRefl w none)).cell c3 (by simp)
  have HV := hideIt (hv.kept (gbDrew (gbRefl w none)))
  have hl := g.len hk4
  have hk0 : (0 : Int) ≤ (k : Int) := by omega
  have hk4' : (k : Int) < 4 := by omega
  clear hv hd hk ps
  go_enter Try.func19, Try.ntmps19
  go_upto_region 1 with fail
  go_region_held3 (fun w' => w'.cell? ⟨p, 3 + k, none⟩ = some (ptr (qs k)))
    (first | with_reducible exact c3 | with_reducible exact c3d | with_reducible exact E2 | with_reducible exact E3 | fail)
    ((first
      | (go_at_call 36; refine (next_is ((HV.out.kept g2).ra k hk4) (by omega) a b ha hb).mono ?_; rintro e w3 ⟨rfl, g3⟩; have E3 := g3.cell E2 (by simp))
      | (go_at_call 23; refine HD.out.mono ?_; rintro e w2 ⟨rfl, g2⟩; have E2 := g2.cell c3d (by simp))))
  go_wp2
  go_ret2
  exact ⟨rfl, gbTrans (gbTrans (gbDrewN _ 1 _) g2) g3⟩
end
end Go.Proofs.Ytpacgdplbddclaa
