/-
  THE CONTRACTS of package sched: isBelow, isSchedule, New, Now, Domain, Tick.
-/
import Derived.Test.YtpacgdplbddclaaSca
import Derived.Deep.RegionHeld3
import Derived.Deep.DeepCutAuto
namespace Go.Proofs.Ytpacgdplbddclaa
set_option maxRecDepth 10000
open Go.RowKit
set_option linter.unusedVariables false

/-! ### isBelow, isSchedule -/
set_option maxHeartbeats 400000 in
theorem isBelow_is (a m : Int) (b : Bool) (w : World) (hb : decide (0 ≤ a ∧ a < m) = b) : Calls Try.prog 29 #[.int .i64 a, .int .i64 m] w fun e w' => e = .returned (.bool b) ∧ w' = w := by
  subst hb
  by_cases h0 : 0 ≤ a
  · by_cases h1 : a < m
    · rw [decide_eq_true (⟨h0, h1⟩ : 0 ≤ a ∧ a < m)]
      go_enter Try.func29, Try.ntmps29
      go_wp2
      go_ret
      exact ⟨rfl, rfl⟩
    · rw [decide_eq_false (fun e : 0 ≤ a ∧ a < m => h1 e.2)]
      go_enter Try.func29, Try.ntmps29
      go_wp2
      go_ret
      exact ⟨rfl, rfl⟩
  · rw [decide_eq_false (fun e : 0 ≤ a ∧ a < m => h0 e.1)]
    go_enter Try.func29, Try.ntmps29
    go_wp2
    go_ret
    exact ⟨rfl, rfl⟩
set_option maxHeartbeats 1000000 in
theorem isSchedule_row (w : World) (x : Option Addr) (n cap : Nat) (T : List (Int × Int)) (h : Hid (Pairs w x T)) (hn : Hid (T.length = n)) (h1 : 1 ≤ n) (h2 : n ≤ 16) (b : Bool) (hb : Hid (T.all M.rt = b)) :
    Calls Try.prog 26 #[.slice x n cap] w fun e w' => e = .returned (.bool b) ∧ w.grownBy w' none := by
  have g1 : ¬ (n : Int) < 1 := by omega
  have g2 : ¬ 16 < (n : Int) := by omega
  go_enter Try.func26, Try.ntmps26
  go_wp2
  go_loopg [15] (n + 1) (fun y i wr => ∃ c : Nat, c + y = n + 1 ∧ c ≤ n ∧ i = .int .i64 c ∧ Hid (∀ j o, j < c → T[j]? = some o → M.rt o = true) ∧ w.grownBy wr none)
  case atStart => exact ⟨0, by omega, by omega, rfl, hideIt (fun j o hj => by omega), gbRefl _ _⟩
  case round =>
    obtain ⟨c, hc, hcn, rfl, HA, gw⟩ := hrel
    by_cases hlt : c < n
    · have hlt' : (c : Int) < (n : Int) := by omega
      obtain ⟨⟨d, t⟩, ho⟩ : ∃ o, T[c]? = some o := ⟨_, List.getElem?_eq_getElem (by rw [hn.out]; exact hlt)⟩
      obtain ⟨a, rfl, e0, e1⟩ := (h.out.kept gw) c _ ho
      simp only at e0 e1
      obtain ⟨r, hr⟩ : ∃ r, decide (0 ≤ d ∧ d < 4) = r := ⟨_, rfl⟩
      have HB := hideIt (fun w => isBelow_is d 4 r w hr)
      have HR : Hid (M.rt (d, t) = (r && (decide (1 ≤ t) && decide (t ≤ 1000)))) := hideIt (by
        unfold M.rt
        rw [← hr, Bool.eq_iff_iff]
        simp
        omega)
      have hno : Hid (M.rt (d, t) = false → b = false) := hideIt (fun e => by
        rw [← hb.out]
        rw [List.all_eq_false]
        exact ⟨_, List.mem_of_getElem? ho, by rw [e]; simp⟩)
      have HO := hideIt ho
      clear hr ho
      go_upto_region 5 with fail
      go_wp2_with fail
      refine (HB.out _).mono ?_
      rintro e w2 ⟨rfl, rfl⟩
      have gz : wr.grownBy (wr.alloc (.cells #[.int .i64 d, .int .i64 t] 49)) none := gbAlloc _ _ _
      clear e0 e1
      cases r with
      | false =>
        obtain rfl : b = false := hno.out (by rw [HR.out]; rfl)
        go_wp2
        go_ret
        exact ⟨rfl, gbTrans gw gz⟩
      | true =>
        by_cases k1 : t < 1
        · obtain rfl : b = false := hno.out (by rw [HR.out]; simp; omega)
          go_wp2
          go_ret
          exact ⟨rfl, gbTrans gw gz⟩
        · by_cases k2 : 1000 < t
          · obtain rfl : b = false := hno.out (by rw [HR.out]; simp; omega)
            go_wp2
            go_ret
            exact ⟨rfl, gbTrans gw gz⟩
          · have hy : Hid (M.rt (d, t) = true) := hideIt (by rw [HR.out]; simp; omega)
            go_wp2
            go_roundg (gk - 1)
            case rel =>
              refine ⟨c + 1, by omega, by omega, by go_num, hideIt (fun j o hj hjo => ?_), gbTrans gw gz⟩
              by_cases q : j = c
              · subst q; rw [HO.out] at hjo; cases hjo; exact hy.out
              · exact HA.out j o (by omega) hjo
            case measure => omega
    · have hlt' : ¬ (c : Int) < (n : Int) := by omega
      obtain rfl : b = true := by
        rw [← hb.out, List.all_eq_true]
        intro o ho
        obtain ⟨j, hj⟩ := List.getElem?_of_mem ho
        exact HA.out j o (by have := (List.getElem?_eq_some_iff.1 hj).1; rw [hn.out] at this; omega) hj
      go_wp2
      go_ret
      exact ⟨rfl, gw⟩
set_option maxHeartbeats 400000 in
theorem isSchedule_is (w : World) (x : Option Addr) (n cap : Nat) (T : List (Int × Int)) (h : Pairs w x T) (hn : T.length = n) (b : Bool) (hb : M.ok T = b) :
    Calls Try.prog 26 #[.slice x n cap] w fun e w' => e = .returned (.bool b) ∧ w.grownBy w' none := by
  by_cases h1 : n < 1
  · obtain rfl : b = false := by rw [← hb]; unfold M.ok; rw [decide_eq_false (by omega)]; rfl
    have h1' : (n : Int) < 1 := by omega
    clear h hn hb h1
    go_enter Try.func26, Try.ntmps26
    go_wp2
    go_ret
    exact ⟨rfl, gbRefl _ _⟩
  · by_cases h2 : 16 < n
    · obtain rfl : b = false := by
        rw [← hb]; unfold M.ok
        have : decide (T.length ≤ 16) = false := decide_eq_false (by omega)
        rw [this]; simp
      have h1' : ¬ (n : Int) < 1 := by omega
      have h2' : 16 < (n : Int) := by omega
      clear h hn hb h1 h2
      go_enter Try.func26, Try.ntmps26
      go_wp2
      go_ret
      exact ⟨rfl, gbRefl _ _⟩
    · refine isSchedule_row w x n cap T (hideIt h) (hideIt hn) (by omega) (by omega) b (hideIt ?_)
      rw [← hb]
      unfold M.ok
      rw [decide_eq_true (by omega : 1 ≤ T.length), decide_eq_true (by omega : T.length ≤ 16)]
      rfl

/-! ### New -/
theorem Try.infoTime : (Try.prog.info? 49).map (fun i => (i.zero, i.size, i.bytes)) = some (some (.agg #[.int .i64 0, .int .i64 0]), 2, 16) := by kernel_rfl
abbrev PL (w : World) (B : Nat) (v : Value) (T : List (Int × Int)) : Prop := Ls eP 49 2 w B v T
theorem run_append_p (w : World) (B : Nat) (v : Value) (L : List (Int × Int)) (hown : PL w B v L) (ty : TypeId) (ox : Option Addr) (m c : Nat) (D : List (Int × Int)) (hm : D.length = m) (hno : ox = none → m = 0) (hx : ∀ ad, ox = some ad → ∀ j u, (cl eP D)[j]? = some u → w.cell? (ad.add j) = some u) (hn : L.length + m ≤ 100000) (hB : B ≤ w.heap.size) :
    ∃ v' w', (Builtin.append_ #[28, 28] ty #[v, .slice ox m c]).run Try.prog w = .ok v' w' ∧ PL w' B v' (L ++ D) ∧ w.grownBy w' v.ownBlock ∧ (v'.ownBlock = v.ownBlock ∨ v'.ownBlock = some w.heap.size) := by
  obtain ⟨i, hi, hx0⟩ := Option.map_eq_some_iff.1 Try.infoTime
  simp only [Prod.mk.injEq] at hx0
  exact run_append_l encP Try.underlying28 hi hx0.1 hx0.2.1 hx0.2.2 (by kernel_rfl) (by decide) w B v L hown ty ox m c D hm hno hx hn hB
theorem sliceNilT (w : World) (a : Option Addr) (n c : Nat) : (binOp .eql 28 (.slice a n c) (.slice none 0 0)).run Try.prog w = .ok (.bool a.isNone) w := Lib.run_eql_slice_nil w 28 49 a n c 0 0 Try.underlying28
set_option maxHeartbeats 400000 in
theorem cloneT_is (w : World) (a : Addr) (n cap : Nat) (T : List (Int × Int)) (h : Hid (Pairs w (some a) T)) (hn : Hid (T.length = n)) (hn2 : n ≤ 1000) :
    Calls Try.prog 27 #[.slice (some a) n cap] w fun e w' => ∃ x c, e = .returned (.slice x n c) ∧ PL w' w.heap.size (.slice x n c) T ∧ w.grownBy w' none := by
  obtain ⟨v1, w1, hr, l1, g1, o1⟩ := run_append_p (w.alloc (.cells #[] 49)) w.heap.size (.slice (some ⟨w.heap.size, 0, none⟩) 0 0) [] (Ls.empty eP 49 2 w) 28 (some a) n cap T hn.out (by simp) (by rintro ad ⟨⟩ j u hu; exact (gbAlloc w _ none).cell (h.out.row j u hu) (by simp)) (by simp; omega) (by simp)
  rw [List.nil_append] at l1
  obtain ⟨x, c, rfl, _⟩ := l1.arr
  rw [hn.out] at l1 hr
  have HL := hideIt l1
  have HG := hideIt (gbNew (gbTrans (gbAny (gbAlloc w (.cells #[] 49) none) _) g1) (Nat.le_refl _))
  clear l1 o1 g1
  have qnil := sliceNilT
  go_enter Try.func27, Try.ntmps27
  go_wp2_with (at_builtin; refine wpList_append_run rfl (.tmp 5) (.tmp 6) rfl (.slice (some ⟨w.heap.size, 0, none⟩) 0 0) (.slice (some a) n cap) rfl rfl (.slice x n c) w1 hr ?_)
  go_ret
  exact ⟨_, _, rfl, HL.out, HG.out⟩
set_option maxHeartbeats 400000 in
theorem snew_no (w : World) (x : Option Addr) (n cap : Nat) (T : List (Int × Int)) (h : Pairs w x T) (hn : T.length = n) (hb : M.ok T = false) :
    Calls Try.prog 8 #[.slice x n cap] w fun e w' => e = .returned (.tuple #[.pointer none, .int .i64 1]) ∧ w.grownBy w' none := by
  have HI := hideIt (isSchedule_is w x n cap T h hn false hb)
  clear h hn hb
  go_enter Try.func8, Try.ntmps8
  go_wp2_with fail
  refine HI.out.mono ?_
  rintro e w1 ⟨rfl, g1⟩
  go_wp2
  go_ret2
  exact ⟨rfl, g1⟩
/-- The schedule's block as it is made, without its Readys. -/
theorem SV.made {w w1 : World} {x : Option Addr} {n c : Nat} {T : List (Int × Int)} (g : w.grownBy w1 none) (l : PL w1 w.heap.size (.slice x n c) T) (hn : T.length = n) (t : Int) (F : Nat → List (Int × Int)) :
    ∃ W, w1.alloc (.cells #[.slice x n c, .int .i64 0, .int .i64 t, .pointer none, .pointer none, .pointer none, .pointer none] 58) = W ∧ SV W (fun i => w.heap.size ≤ i ∧ i < W.heap.size) w1.heap.size T 0 t F x c 0 (fun _ => 0) (fun _ _ => False) ∧ w.grownBy W none := by
  subst hn
  have G := gbAlloc w1 (.cells #[.slice x T.length c, .int .i64 0, .int .i64 t, .pointer none, .pointer none, .pointer none, .pointer none] 58) none
  have hs := g.size
  refine ⟨_, rfl, ⟨by simp, by simp, by simp, fun d hd => ?_, (l.kept G).low, fun k hk => ?_, fun d hd => absurd hd (by omega), fun d k hd => absurd hd (by omega), fun d k hd => absurd hd (by omega), fun d e k hd => absurd hd (by omega), fun i => by simp, by simp, ?_⟩, gbTrans g G⟩
  · have : d = 0 ∨ d = 1 ∨ d = 2 ∨ d = 3 := by omega
    rcases this with rfl | rfl | rfl | rfl <;> simp
  · have := l.lt k hk
    refine ⟨?_, by omega, fun d hd => absurd hd (by omega)⟩
    simp; omega
  · simp; omega
set_option maxHeartbeats 2000000 in
theorem snew_yes (w : World) (a : Addr) (n cap : Nat) (T : List (Int × Int)) (h : Hid (Pairs w (some a) T)) (hn : Hid (T.length = n)) (hb : M.ok T = true) (h1 : 1 ≤ n) (h2 : n ≤ 16) :
    Calls Try.prog 8 #[.slice (some a) n cap] w fun e w' => ∃ p, e = .returned (.tuple #[ptr p, .int .i64 0]) ∧ SA w' (fun i => w.heap.size ≤ i ∧ i < w'.heap.size) p T 0 (M.tt T 0) (fun _ => []) ∧ w.grownBy w' none := by
  have HI := hideIt (isSchedule_is w (some a) n cap T h.out hn.out true hb)
  obtain ⟨t, ht⟩ : ∃ t, M.tt T 0 = t := ⟨_, rfl⟩
  have H0 := M.at_lt (T := T) (n := 0) (by rw [hn.out]; omega)
  rw [ht] at H0 ⊢
  obtain ⟨y, e, _, HE⟩ := h.out 0 _ H0
  cases e
  have ez : a.add (0 * 2) = a := by rw [Nat.zero_mul]; unfold Addr.add; simp
  rw [ez] at HE
  simp only at HE
  have hn0 : 0 < n := by omega
  have hn0' : (0 : Int) < (n : Int) := by omega
  clear H0 ht hb ez
  go_enter Try.func8, Try.ntmps8
  go_wp2_with fail
  refine HI.out.mono ?_
  rintro e w1 ⟨rfl, g1⟩
  have E1 := g1.cell HE (by simp)
  have E1d := (gbDrew (gbRefl w1 none)).cell E1 (by simp)
  have HP := hideIt ((h.out.kept g1).kept (gbDrew (gbRefl w1 none)))
  go_upto_region 3 with fail
  go_region_held3 (fun w' => w'.cell? ⟨a.block, a.off + 1, none⟩ = some (.int .i64 t))
    (first | with_reducible exact E1 | with_reducible exact E1d | with_reducible exact E2 | with_reducible exact E3 | fail)
    ((go_at_call 27; refine (cloneT_is _ a n cap T HP hn (by omega)).mono ?_; rintro e w2 ⟨x, c, rfl, l2, g2⟩; have E2 := g2.cell E1d (by simp); obtain ⟨W3, hW3, A3, g3⟩ := SV.made g2 l2 hn.out t (fun _ => []); have E3 := g3.cell E1d (by simp); clear l2))
  rename_i hold
  obtain ⟨p, hp⟩ : ∃ p, w2.heap.size = p := ⟨_, rfl⟩
  rw [hp] at A3
  rw [hp]
  have gd : w.grownBy w1.drew none := gbTrans g1 (gbDrewN _ 1 none)
  have H3 : Hid (SV W3 (fun i => w1.drew.heap.size ≤ i ∧ i < W3.heap.size) p T 0 t (fun _ => []) x c 0 (fun _ => 0) (fun _ _ => False) ∧ (∀ i, (w1.drew.heap.size ≤ i ∧ i < W3.heap.size) → w.heap.size ≤ i ∧ i < W3.heap.size) ∧ w.grownBy W3 none) :=
    hideIt ⟨A3, fun i hi => by have := gd.size; omega, gbTrans gd g3⟩
  clear hold E1 E1d E2 E3 hW3 A3 g2 g3 hp gd HE HP HI
  go_wp2_with fail
  go_loopg [17] 5 (fun y i wr => ∃ (j : Nat) (P : Nat → Prop) (qs : Nat → Nat) (Os : Nat → Nat → Prop), j + y = 5 ∧ j ≤ 4 ∧ i = .int .i64 j ∧ Hid (SV wr P p T 0 t (fun _ => []) x c j qs Os ∧ (∀ i, P i → w.heap.size ≤ i ∧ i < wr.heap.size) ∧ w.grownBy wr none))
  case atStart => exact ⟨0, _, _, _, rfl, by omega, rfl, H3⟩
  case round =>
    obtain ⟨j, P, qs, Os, hj, hj4, rfl, H⟩ := hrel
    clear H3
    by_cases hlt : j < 4
    · have hlt' : (j : Int) < 4 := by omega
      have hj0 : (0 : Int) ≤ (j : Int) := by omega
      have c3 := H.out.1.c3 j hlt
      rw [if_neg (Nat.lt_irrefl j)] at c3
      have f3 := H.out.1.fz (3 + j)
      go_upto_region 7 with fail
      have c3d := (gbDrew (gbRefl wr none)).cell c3 (by simp)
      go_region_held3 (fun w' => True)
        (first | exact trivial | fail)
        ((go_at_call 28; refine (newReady_is _).mono ?_; rintro e w5 ⟨rfl, Z5, s5, g5⟩; have E2 := g5.cell c3d (by simp); have Q5 := hideIt (H.out.1.more hlt (gbTrans (gbDrewN _ 1 none) g5) Z5 (fun i hi => by subst hi; exact ⟨Nat.le_refl _, by omega⟩)); have f5 := Q5.out.2.2.2; have g5 := hideIt g5; clear Z5))
      rename_i hold
      clear hold E2 f5 c3 c3d f3
      have HW : Hid (∀ k, wide P wr w5 k → w.heap.size ≤ k ∧ k < w5.heap.size) := hideIt (fun k hk => by
        have h1 := H.out.2.2.size
        have h2 := g5.out.size
        have h3 : wr.drew.heap.size = wr.heap.size := rfl
        rcases hk with hk | hk
        · have := H.out.2.1 k hk; omega
        · omega)
      have HP2 := hideIt (H.out.2.1 p H.out.1.op).1
      clear s5
      go_wp2
      go_roundg (gk - 1)
      case rel => exact ⟨j + 1, wide P wr w5, _, _, by omega, by omega, by go_num, hideIt ⟨Q5.out.1, fun k hk => by have := HW.out k hk; simp; omega, gbNew (gbTrans (gbAny H.out.2.2 _) Q5.out.2.1) HP2.out⟩⟩
      case measure => omega
    · have hlt' : ¬ (j : Int) < 4 := by omega
      obtain rfl : j = 4 := by omega
      go_wp2
      go_ret2
      obtain ⟨h3, h4, h5⟩ := H.out
      exact ⟨_, rfl, ⟨_, _, _, _, h3.mono h4⟩, h5⟩
theorem snew_is (w : World) (x : Option Addr) (n cap : Nat) (T : List (Int × Int)) (h : Pairs w x T) (hn : T.length = n) (f : Int) (hf : (if M.ok T then 0 else 1) = f) :
    Calls Try.prog 8 #[.slice x n cap] w fun e w' => ∃ q, e = .returned (.tuple #[.pointer q, .int .i64 f]) ∧ w.grownBy w' none ∧ (f = 1 → q = none ∧ M.ok T = false) ∧ (f ≠ 1 → f = 0 ∧ M.Ok T ∧ ∃ p, q = some ⟨p, 0, none⟩ ∧ SA w' (fun i => w.heap.size ≤ i ∧ i < w'.heap.size) p T 0 (M.tt T 0) (fun _ => [])) := by
  subst hf
  cases hb : M.ok T with
  | false =>
    refine (snew_no w x n cap T h hn hb).mono ?_
    rintro e w1 ⟨rfl, g1⟩
    exact ⟨none, rfl, g1, fun _ => ⟨rfl, rfl⟩, fun e => absurd rfl e⟩
  | true =>
    have ho := M.ok_iff.1 hb
    obtain ⟨a, rfl, _⟩ := h 0 _ (M.at_lt ho.l1)
    refine (snew_yes w a n cap T (hideIt h) (hideIt hn) hb (by have := ho.l1; omega) (by have := ho.l2; omega)).mono ?_
    rintro e w1 ⟨p, rfl, h1, g1⟩
    exact ⟨_, rfl, g1, (fun e => by cases e), fun _ => ⟨rfl, ho, p, rfl, h1⟩⟩

section
variable {w : World} {O : Nat → Prop} {p : Nat} {T : List (Int × Int)} {n : Nat} {l : Int} {F : Nat → List (Int × Int)}
/-! ### Now, Domain -/
set_option maxHeartbeats 400000 in
theorem now_is (h : SA w O p T n l F) (hn : n < T.length) :
    Calls Try.prog 21 #[.pointer (some ⟨p, 0, none⟩)] w fun e w' => e = .returned (.tuple #[.int .i64 n, .int .i64 l]) ∧ w.grownBy w' none := by
  obtain ⟨x, cap, qs, Os, h⟩ := h
  have c1 := h.c1
  have c2 := h.c2
  clear h
  go_enter Try.func21, Try.ntmps21
  go_wp2_with fail
  go_region
  all_goals (go_wp2; go_ret2; exact ⟨rfl, gbDrewN _ 1 _⟩)
set_option maxHeartbeats 400000 in
theorem domain_is (h : SA w O p T n l F) (hn : n < T.length) (hl : T.length ≤ 16) :
    Calls Try.prog 23 #[.pointer (some ⟨p, 0, none⟩)] w fun e w' => e = .returned (.int .i64 (M.dm T n)) ∧ w.grownBy w' none := by
  obtain ⟨x, cap, qs, Os, h⟩ := h
  have c1 := h.c1
  have c0 := h.c0
  obtain ⟨a, e, e0, _⟩ := h.tl.pairs n _ (M.at_lt hn)
  subst e
  simp only at e0
  obtain ⟨m, hm⟩ : ∃ m, T.length = m := ⟨_, rfl⟩
  rw [hm] at c0 hn
  have hn' : (n : Int) < (m : Int) := by omega
  clear h hm
  go_enter Try.func23, Try.ntmps23
  go_wp2_with fail
  go_region
  all_goals (go_wp2; go_ret; exact ⟨rfl, gbDrewN _ 1 _⟩)
end
end Go.Proofs.Ytpacgdplbddclaa
