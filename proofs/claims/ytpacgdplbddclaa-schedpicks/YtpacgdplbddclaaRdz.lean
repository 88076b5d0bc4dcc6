/-
  THE CONTRACTS of the program's Ready: Drop, Levels, Next, List.
-/
import Derived.Test.YtpacgdplbddclaaRdy
namespace Go.Proofs.Ytpacgdplbddclaa
set_option maxRecDepth 10000
open Go.RowKit
set_option linter.unusedVariables false

/-! ### Drop -/
set_option maxHeartbeats 1000000 in
theorem drop_no {w : World} {O : Nat → Prop} {p : Nat} {F : Nat → List Int} {vs : Nat → Value} (h : Hid (RV w O p F vs)) (hl : Hid (∀ i, i < 8 → (F i).length ≤ 1000)) (a : Int) (hn : Hid (∀ i, i < 8 → a ∉ F i)) :
    Calls Try.prog 34 #[.pointer (some ⟨p, 0, none⟩), .int .i64 a] w fun e w' => e = .returned (.bool false) ∧ w' = w := by
  have ld := load8 h.out.cl
  go_enter Try.func34, Try.ntmps34
  go_wp2_with (refine wpList_load8 rfl _ rfl p (arr8 vs) rfl ld ?_)
  clear ld
  go_loopg [13] 9 (fun y i wr => ∃ c : Nat, c + y = 9 ∧ c ≤ 8 ∧ i = .int .i64 c ∧ wr = w)
  case atStart => exact ⟨0, by omega, by omega, rfl, rfl⟩
  case round =>
    obtain ⟨c, hc, hcl, rfl, rfl⟩ := hrel
    by_cases hc8 : c < 8
    · have hc8' : (c : Int) < 8 := by omega
      have ix := index8 wr vs c hc8
      have HC := hideIt (without_no (h.out.ls c hc8) (hl.out c hc8) a (hn.out c hc8))
      obtain ⟨v, hv⟩ : ∃ v, vs c = v := ⟨_, rfl⟩
      rw [hv] at ix HC
      clear hv
      go_upto_region 3 with fail
      go_wp2_with (refine wpList_index8 rfl _ _ rfl (arr8 vs) c v rfl rfl ix ?_)
      refine HC.out.mono ?_
      rintro e w1 ⟨rfl, rfl⟩
      clear ix
      go_wp2
      go_roundg (gk - 1)
      case rel => exact ⟨c + 1, by omega, by omega, by go_num, rfl⟩
      case measure => omega
    · have hc8' : ¬ (c : Int) < 8 := by omega
      go_wp2
      go_ret
      exact ⟨rfl, rfl⟩
set_option maxHeartbeats 1000000 in
theorem drop_yes {w : World} {O : Nat → Prop} {p : Nat} {F : Nat → List Int} {vs : Nat → Value} (h : Hid (RV w O p F vs)) (hl : Hid (∀ i, i < 8 → (F i).length ≤ 1000)) (hd : Hid (∀ i, i < 8 → (F i).Nodup)) (a : Int) (l : Nat) (hl8 : l < 8) (ha : Hid (a ∈ F l)) (hn : Hid (∀ i, i < l → a ∉ F i)) :
    Calls Try.prog 34 #[.pointer (some ⟨p, 0, none⟩), .int .i64 a] w fun e w' => e = .returned (.bool true) ∧ (∃ vs', RV w' (wide O w w') p (upd F l (M.wo (F l) a)) vs') ∧ Fr O w w' := by
  have ld := load8 h.out.cl
  go_enter Try.func34, Try.ntmps34
  go_wp2_with (refine wpList_load8 rfl _ rfl p (arr8 vs) rfl ld ?_)
  clear ld
  go_loopg [13] (l + 1) (fun y i wr => ∃ c : Nat, c + y = l + 1 ∧ c ≤ l ∧ i = .int .i64 c ∧ wr = w)
  case atStart => exact ⟨0, by omega, by omega, rfl, rfl⟩
  case round =>
    obtain ⟨c, hc, hcl, rfl, rfl⟩ := hrel
    have hc8 : c < 8 := by omega
    have hc8' : (c : Int) < 8 := by omega
    have hc0' : (0 : Int) ≤ (c : Int) := by omega
    have ix := index8 wr vs c hc8
    by_cases e : c = l
    · subst e
      have HC := hideIt (without_is (h.out.ls c hc8) (hl.out c hc8) (hd.out c hc8) a true (by simpa using ha.out))
      obtain ⟨v, hv⟩ : ∃ v, v = vs c := ⟨_, rfl⟩
      replace hv := hideIt hv
      rw [← hv.out] at ix HC
      go_upto_region 3 with fail
      go_wp2_with (refine wpList_index8 rfl _ _ rfl (arr8 vs) c v rfl rfl ix ?_)
      refine HC.out.mono ?_
      rintro e w1 ⟨v', rfl, l1, o1, g1⟩
      rw [hv.out] at o1 g1
      obtain ⟨m1, m2⟩ := h.out.more hc8 g1
      have b3 := m1 c hc8
      have b4 := m2 c
      have HE := hideIt (h.out.store hc8 g1 l1 (.inl o1))
      obtain ⟨x', c', rfl, _⟩ := l1.arr
      obtain ⟨x0, c0, e0, _⟩ := (h.out.ls c hc8).arr
      rw [e0] at b3
      clear ix m1 m2 l1 o1 g1 e0
      go_wp2
      go_ret
      exact ⟨rfl, ⟨_, HE.out.1⟩, HE.out.2⟩
    · have HC := hideIt (without_no (h.out.ls c hc8) (hl.out c hc8) a (hn.out c (by omega)))
      obtain ⟨v, hv⟩ : ∃ v, vs c = v := ⟨_, rfl⟩
      rw [hv] at ix HC
      clear hv
      go_upto_region 3 with fail
      go_wp2_with (refine wpList_index8 rfl _ _ rfl (arr8 vs) c v rfl rfl ix ?_)
      refine HC.out.mono ?_
      rintro e w1 ⟨rfl, rfl⟩
      clear ix
      go_wp2
      go_roundg (gk - 1)
      case rel => exact ⟨c + 1, by omega, by omega, by go_num, rfl⟩
      case measure => omega
theorem drop_is {w : World} {O : Nat → Prop} {p : Nat} {R : List (Int × Int)} (h : RA w O p R) (hg : M.Gd R) (hl : R.length ≤ 1000) (a : Int) (b : Bool) (hb : (M.ids R).contains a = b) :
    Calls Try.prog 34 #[.pointer (some ⟨p, 0, none⟩), .int .i64 a] w fun e w' => e = .returned (.bool b) ∧ RA w' (wide O w w') p (M.rd R a) ∧ Fr O w w' := by
  subst hb
  have hl2 : ∀ i, i < 8 → (M.lv R (i : Nat)).length ≤ 1000 := fun i _ => Nat.le_trans (M.lv_len R i) hl
  by_cases ha : a ∈ M.ids R
  · obtain ⟨l, h1, h2, h3⟩ := hg.at ha
    obtain ⟨vs, h⟩ := h
    refine (drop_yes (hideIt h) (hideIt hl2) (hideIt fun i _ => M.lv_nodup hg.nd i) a l h1 (hideIt h2) (hideIt fun i hi => h3 i (by omega))).mono ?_
    rintro e w1 ⟨rfl, ⟨vs', q1⟩, q2⟩
    refine ⟨by simp [ha], ⟨vs', q1.same fun i hi => ?_⟩, q2⟩
    unfold upd
    rw [M.lv_rd]
    by_cases e : i = l
    · subst e; rw [if_pos rfl]
    · rw [if_neg e, M.wo_not (h3 i e)]
  · obtain ⟨vs, hv⟩ := h
    refine (drop_no (hideIt hv) (hideIt hl2) a (hideIt fun i hi => M.not_lv ha i)).mono ?_
    rintro e w1 ⟨rfl, rfl⟩
    refine ⟨by simp [ha], ?_, Fr.refl _ _⟩
    rw [M.rd_not ha]
    exact RA.wider ⟨vs, hv⟩ _ _

/-! ### Levels -/
set_option maxHeartbeats 1000000 in
theorem levels_row {w : World} {O : Nat → Prop} {p : Nat} {F : Nat → List Int} {vs : Nat → Value} (h : Hid (RV w O p F vs)) (B : Nat → Bool) (hB : Hid (∀ i, i < 8 → B i = !(F i).isEmpty)) (hl : Hid (∀ i, i < 8 → (F i).length ≤ 1000)) :
    Calls Try.prog 45 #[.pointer (some ⟨p, 0, none⟩)] w fun e w' => e = .returned (.int .u64 (M.wd B 8 : Nat)) ∧ w.grownBy w' none := by
  have ld := load8 h.out.cl
  go_enter Try.func45, Try.ntmps45
  go_wp2_with (refine wpList_load8 rfl _ rfl p (arr8 vs) rfl ld ?_)
  clear ld
  go_loopg [3, 10] 9 (fun y u i wr => ∃ c : Nat, c + y = 9 ∧ c ≤ 8 ∧ i = .int .i64 c ∧ u = .int .u64 (M.wd B c : Nat) ∧ w.grownBy wr none)
  case atStart => exact ⟨0, by omega, by omega, rfl, rfl, gbRefl _ _⟩
  case round =>
    obtain ⟨c, hc, hcl, rfl, rfl, gw⟩ := hrel
    have hlt := M.wd_lt B c
    have hp : (2 : Nat) ^ c ≤ 2 ^ 8 := Nat.pow_le_pow_right (by decide) hcl
    have hlt2 : M.wd B c < 18446744073709551616 := by
      have : (2 : Nat) ^ 8 = 256 := by decide
      omega
    clear hlt hp
    by_cases hc8 : c < 8
    · have hc8' : (c : Int) < 8 := by omega
      have ix := index8 wr vs c hc8
      have hl1 := hl.out c hc8
      obtain ⟨x, cap, hv, _⟩ := (h.out.ls c hc8).arr
      rw [hv] at ix
      have hb := hB.out c hc8
      obtain ⟨n, hn⟩ : ∃ n, (F c).length = n := ⟨_, rfl⟩
      rw [hn] at ix hl1
      by_cases e : B c = true
      · have hn0 : 0 < n := by
          rw [← hn]
          rw [e] at hb
          cases hF : F c with
          | nil => rw [hF] at hb; simp at hb
          | cons _ _ => simp
        have hn1 : (0 : Int) < (n : Int) := by omega
        have HP := hideIt (put_yes (M.wd B c) c 1 1 wr hlt2 (by decide) (by omega) (by decide))
        rw [M.wd_put e hc8] at HP
        obtain ⟨W, hW⟩ : ∃ W, M.wd B c = W := ⟨_, rfl⟩
        rw [hW] at HP hlt2 ⊢
        clear hb hv hn hW e
        go_upto_region 4 with fail
        go_wp2_with (refine wpList_index8 rfl _ _ rfl (arr8 vs) c _ rfl rfl ix ?_)
        refine HP.out.mono ?_
        rintro e w1 ⟨rfl, q, rfl⟩
        clear ix
        go_wp2
        go_roundg (gk - 1)
        case rel => exact ⟨c + 1, by omega, by omega, by go_num, rfl, gbTrans gw (gbDrewN _ _ _)⟩
        case measure => omega
      · have e : B c = false := by simpa using e
        have hn0 : n = 0 := by
          rw [← hn]
          rw [e] at hb
          cases hF : F c with
          | nil => rfl
          | cons _ _ => rw [hF] at hb; simp at hb
        subst hn0
        have HS := hideIt (M.wd_no e)
        obtain ⟨W, hW⟩ : ∃ W, M.wd B c = W := ⟨_, rfl⟩
        rw [hW] at HS hlt2 ⊢
        clear hb hv hn hW e
        go_upto_region 4 with fail
        go_wp2_with (refine wpList_index8 rfl _ _ rfl (arr8 vs) c _ rfl rfl ix ?_)
        clear ix
        go_roundg (gk - 1)
        case rel => exact ⟨c + 1, by omega, by omega, by go_num, by rw [HS.out], gw⟩
        case measure => omega
    · have hc8' : ¬ (c : Int) < 8 := by omega
      obtain rfl : c = 8 := by omega
      go_wp2
      go_ret
      exact ⟨rfl, gw⟩
theorem levels_is {w : World} {O : Nat → Prop} {p : Nat} {R : List (Int × Int)} (h : RA w O p R) (hl : R.length ≤ 1000) (u : Nat) (hu : M.lw R = u) :
    Calls Try.prog 45 #[.pointer (some ⟨p, 0, none⟩)] w fun e w' => e = .returned (.int .u64 (u : Int)) ∧ w.grownBy w' none := by
  subst hu
  obtain ⟨vs, h⟩ := h
  exact levels_row (hideIt h) (M.bb R) (hideIt fun i _ => rfl) (hideIt fun i _ => Nat.le_trans (M.lv_len R i) hl)

/-! ### Next -/
set_option maxHeartbeats 1000000 in
theorem next_is {w : World} {O : Nat → Prop} {p : Nat} {R : List (Int × Int)} (h : RA w O p R) (hl : R.length ≤ 1000) (a : Int) (b : Bool) (ha : M.nx R = a) (hb : M.nb R = b) :
    Calls Try.prog 36 #[.pointer (some ⟨p, 0, none⟩)] w fun e w' => e = .returned (.tuple #[.int .i64 a, .bool b]) ∧ w.grownBy w' none := by
  subst ha hb
  have HL := hideIt (levels_is h hl (M.lw R) rfl)
  have HH : Hid (∀ w, Calls Try.prog 44 #[.int .u64 (M.lw R : Nat)] w fun e w' => e = .returned (.int .i64 (M.hi (M.bb R) 8)) ∧ w' = w) := hideIt fun w => by
    have h1 := M.lw_lt R
    have := high_any (M.lw R) w (by omega)
    unfold M.lw at this ⊢
    rwa [M.high_wd] at this
  have hbd := M.hi_bd (M.bb R) 8
  unfold M.nx M.nb
  obtain ⟨u, hu⟩ : ∃ u, M.lw R = u := ⟨_, rfl⟩
  rw [hu] at HL HH
  by_cases c : M.hi (M.bb R) 8 < 0
  · rw [if_pos c, if_pos c]
    obtain ⟨t, ht⟩ : ∃ t, M.hi (M.bb R) 8 = t := ⟨_, rfl⟩
    rw [ht] at HH c
    clear hu ht hbd h
    go_enter Try.func36, Try.ntmps36
    go_wp2_with fail
    refine HL.out.mono ?_
    rintro e w1 ⟨rfl, g1⟩
    go_wp2_with fail
    refine (HH.out _).mono ?_
    rintro e w1 ⟨rfl, rfl⟩
    go_wp2
    go_ret2
    exact ⟨rfl, g1⟩
  · rw [if_neg c, if_neg c]
    obtain ⟨t, ht⟩ : ∃ t : Nat, M.hi (M.bb R) 8 = t := ⟨(M.hi (M.bb R) 8).toNat, by omega⟩
    obtain ⟨t1, t2, _⟩ := M.hi_at ht
    rw [ht] at HH ⊢
    have hne : M.lv R (t : Int) ≠ [] := by
      intro e
      unfold M.bb at t2
      rw [e] at t2
      simp at t2
    obtain ⟨vs, hv⟩ := h
    obtain ⟨y, L, hL⟩ := List.exists_cons_of_ne_nil hne
    have l1 := hv.ls t t1
    simp only [hL] at l1
    obtain ⟨g, cap, e0, _⟩ := l1.has (n := L.length + 1) rfl (by omega)
    rw [e0] at l1
    have c1 := IL.at l1 rfl 0 y rfl
    have c0 := hv.cl t t1
    rw [e0] at c0
    have hll := M.lv_len R (t : Int)
    rw [hL] at hll
    obtain ⟨n, hn⟩ : ∃ n, L.length + 1 = n := ⟨_, rfl⟩
    rw [hn] at c0
    have hn0 : 0 < n := by omega
    rw [hL]
    have ht0 : (0 : Int) ≤ (t : Int) := by omega
    have ht8 : (t : Int) < 8 := by omega
    have ht9 : ¬ (t : Int) < 0 := by omega
    clear hu ht hbd hv l1 e0 hn hne hL t2 c hll
    go_enter Try.func36, Try.ntmps36
    go_wp2_with fail
    refine HL.out.mono ?_
    rintro e w1 ⟨rfl, g1⟩
    go_wp2_with fail
    refine (HH.out _).mono ?_
    rintro e w1 ⟨rfl, rfl⟩
    have c0 := g1.cell c0 (by simp)
    have c1 := g1.cell c1 (by simp)
    go_wp2
    go_ret2
    exact ⟨rfl, g1⟩

/-! ### List -/
set_option maxHeartbeats 400000 in
theorem listOf_no (w : World) (p : Nat) (l : Int) (h : ¬ (0 ≤ l ∧ l < 8)) :
    Calls Try.prog 39 #[.pointer (some ⟨p, 0, none⟩), .int .i64 l] w fun e w' => e = .returned (.slice none 0 0) ∧ w' = w := by
  have HI := hideIt (isLevel_no l w h)
  clear h
  go_enter Try.func39, Try.ntmps39
  go_wp2_with fail
  refine HI.out.mono ?_
  rintro e w1 ⟨rfl, rfl⟩
  go_wp2
  go_ret
  exact ⟨rfl, rfl⟩
set_option maxHeartbeats 400000 in
theorem listOf_yes {w : World} {O : Nat → Prop} {p : Nat} {F : Nat → List Int} {vs : Nat → Value} (h : RV w O p F vs) (l : Nat) (h8 : l < 8) (hl : (F l).length ≤ 1000) :
    Calls Try.prog 39 #[.pointer (some ⟨p, 0, none⟩), .int .i64 l] w fun e w' => ∃ v', e = .returned v' ∧ IL w' w.heap.size v' (F l) ∧ w.grownBy w' none := by
  have HI := hideIt (isLevel_yes l w (by omega) (by omega))
  have HC := hideIt (clone_is (h.ls l h8) hl)
  have c0 := h.cl l h8
  have h0' : (0 : Int) ≤ (l : Int) := by omega
  have h8' : (l : Int) < 8 := by omega
  obtain ⟨v, hv⟩ : ∃ v, vs l = v := ⟨_, rfl⟩
  rw [hv] at HC c0
  clear h hv
  go_enter Try.func39, Try.ntmps39
  go_wp2_with fail
  refine HI.out.mono ?_
  rintro e w1 ⟨rfl, rfl⟩
  go_wp2_with fail
  refine HC.out.mono ?_
  rintro e w2 ⟨v', rfl, l2, g2⟩
  have l2 := hideIt l2
  clear c0
  go_wp2
  go_ret
  exact ⟨_, rfl, l2.out, g2⟩
theorem M.lv_out {R : List (Int × Int)} (hg : M.Gd R) {l : Int} (h : ¬ (0 ≤ l ∧ l < 8)) : M.lv R l = [] := by
  apply List.eq_nil_iff_forall_not_mem.2
  intro a ha
  exact h (hg.le a l (M.mem_lv.1 ha))
theorem listOf_is {w : World} {O : Nat → Prop} {p : Nat} {R : List (Int × Int)} (h : RA w O p R) (hg : M.Gd R) (hl : R.length ≤ 1000) (l : Int) :
    Calls Try.prog 39 #[.pointer (some ⟨p, 0, none⟩), .int .i64 l] w fun e w' => ∃ v', e = .returned v' ∧ IL w' w.heap.size v' (M.lv R l) ∧ w.grownBy w' none := by
  by_cases c : 0 ≤ l ∧ l < 8
  · obtain ⟨n, rfl⟩ : ∃ n : Nat, l = n := ⟨l.toNat, by omega⟩
    obtain ⟨vs, h⟩ := h
    exact listOf_yes h n (by omega) (Nat.le_trans (M.lv_len R n) hl)
  · refine (listOf_no w p l c).mono ?_
    rintro e w1 ⟨rfl, rfl⟩
    rw [M.lv_out hg c]
    exact ⟨_, rfl, Ls.nil _ _ _ _ _, gbRefl _ _⟩
end Go.Proofs.Ytpacgdplbddclaa
