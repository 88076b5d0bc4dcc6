/-
  THE CONTRACTS of the document's schedule: New, Now, Domain, Tick.
-/
import Derived.Test.YtpacgdplbddclaaDca
import Derived.Test.YtpacgdplbddclaaScb
namespace Go.Proofs.Ytpacgdplbddclaa
set_option maxRecDepth 10000
open Go.RowKit
set_option linter.unusedVariables false

/-! ### New -/
set_option maxHeartbeats 1000000 in
theorem tnew_no (w : World) (x : Option Addr) (n cap : Nat) (T : List (Int × Int)) (h : Pairs w x T) (hn : T.length = n) (hb : M.ok T = false) :
    Calls Try.prog 10 #[.slice x n cap] w fun e w' => e = .returned (.tuple #[.pointer none, .int .i64 1]) ∧ w.grownBy w' none := by
  have HP := hideIt h
  have HN := hideIt hn
  by_cases c : 1 ≤ n ∧ n ≤ 16
  · have hb2 : Hid (T.all M.rt = false) := hideIt (by
      unfold M.ok at hb
      rw [decide_eq_true (by omega : 1 ≤ T.length), decide_eq_true (by omega : T.length ≤ 16)] at hb
      simpa using hb)
    obtain ⟨c1, c2⟩ := c
    have c1' : (1 : Int) ≤ (n : Int) := by omega
    have c2' : (n : Int) ≤ 16 := by omega
    clear h hn hb
    go_enter Try.func10, Try.ntmps10
    go_wp2_with fail
    go_loopg [4, 5] (n + 2) (fun y s i wr => ∃ (c : Nat) (b : Bool), c + 1 ≤ n + 1 ∧ (b = true → c + y = n + 2) ∧ (b = false → 1 ≤ y) ∧ i = .int .i64 c ∧ s = .bool b ∧ Hid (b = true → ∀ j o, j < c → T[j]? = some o → M.rt o = true) ∧ wr = w)
    case atStart => exact ⟨0, true, by omega, fun _ => by omega, fun e => (by cases e), rfl, rfl, hideIt (fun _ j o hj => by omega), rfl⟩
    case round =>
      obtain ⟨c, b, hc, hy1, hy2, rfl, rfl, HA, rfl⟩ := hrel
      cases b with
      | false =>
        have hy := hy2 rfl
        clear hy1 hy2
        by_cases hlt : c < n
        · have hlt' : (c : Int) < (n : Int) := by omega
          go_wp2
          go_ret2
          exact ⟨rfl, gbRefl _ _⟩
        · have hlt' : ¬ (c : Int) < (n : Int) := by omega
          go_wp2
          go_ret2
          exact ⟨rfl, gbRefl _ _⟩
      | true =>
        have hy := hy1 rfl
        clear hy1 hy2
        have hlt : c < n := by
          by_cases q : c < n
          · exact q
          · exfalso
            have e := hb2.out
            rw [List.all_eq_false] at e
            obtain ⟨o, ho, hf⟩ := e
            obtain ⟨j, hj⟩ := List.getElem?_of_mem ho
            exact hf (HA.out rfl j o (by have := (List.getElem?_eq_some_iff.1 hj).1; rw [HN.out] at this; omega) hj)
        have hlt' : (c : Int) < (n : Int) := by omega
        obtain ⟨⟨d, t⟩, ho⟩ : ∃ o, T[c]? = some o := ⟨_, List.getElem?_eq_getElem (by rw [HN.out]; exact hlt)⟩
        obtain ⟨a, rfl, e0, e1⟩ := HP.out c _ ho
        simp only at e0 e1
        have HO := hideIt ho
        clear ho
        by_cases k1 : 0 ≤ d
        · by_cases k2 : d ≤ 3
          · by_cases k3 : 1 ≤ t
            · by_cases k4 : t ≤ 1000
              · have hy2 : Hid (M.rt (d, t) = true) := hideIt (M.rt_iff.2 (by simp only; omega))
                go_wp2
                go_roundg (gk - 1)
                case rel =>
                  refine ⟨c + 1, true, by omega, fun _ => by omega, fun e => (by cases e), by go_num, rfl, hideIt (fun _ j o hj hjo => ?_), rfl⟩
                  by_cases q : j = c
                  · subst q; rw [HO.out] at hjo; cases hjo; exact hy2.out
                  · exact HA.out (by trivial) j o (by omega) hjo
                case measure => omega
              · go_wp2
                go_roundg 1
                case rel => exact ⟨c + 1, false, by omega, fun e => (by cases e), fun _ => by omega, by go_num, rfl, hideIt (fun e => by cases e), rfl⟩
                case measure => omega
            · go_wp2
              go_roundg 1
              case rel => exact ⟨c + 1, false, by omega, fun e => (by cases e), fun _ => by omega, by go_num, rfl, hideIt (fun e => by cases e), rfl⟩
              case measure => omega
          · go_wp2
            go_roundg 1
            case rel => exact ⟨c + 1, false, by omega, fun e => (by cases e), fun _ => by omega, by go_num, rfl, hideIt (fun e => by cases e), rfl⟩
            case measure => omega
        · go_wp2
          go_roundg 1
          case rel => exact ⟨c + 1, false, by omega, fun e => (by cases e), fun _ => by omega, by go_num, rfl, hideIt (fun e => by cases e), rfl⟩
          case measure => omega
  · clear h hn hb
    by_cases c1 : 1 ≤ n
    · have c2 : ¬ n ≤ 16 := fun e => c ⟨c1, e⟩
      have c1' : (1 : Int) ≤ (n : Int) := by omega
      have c2' : ¬ (n : Int) ≤ 16 := by omega
      have c3' : (0 : Int) < (n : Int) := by omega
      clear c
      go_enter Try.func10, Try.ntmps10
      go_wp2_with fail
      refine wp_loop_rounds 1 ?_
      rw [rounds_succ]
      go_wp2
      go_ret2
      exact ⟨rfl, gbRefl _ _⟩
    · have c1' : ¬ (1 : Int) ≤ (n : Int) := by omega
      have c3' : ¬ (0 : Int) < (n : Int) := by omega
      clear c
      go_enter Try.func10, Try.ntmps10
      go_wp2_with fail
      refine wp_loop_rounds 1 ?_
      rw [rounds_succ]
      go_wp2
      go_ret2
      exact ⟨rfl, gbRefl _ _⟩
theorem range_app (qs : Nat → Nat) (j q : Nat) : (List.range j).map qs ++ [q] = (List.range (j + 1)).map (upd qs j q) := by
  rw [List.range_succ, List.map_append]
  congr 1
  · apply List.map_congr_left
    intro a ha
    rw [List.mem_range] at ha
    exact (upd_ne _ _ (by omega)).symm
  · simp [upd_at]
theorem rowR (w : World) (x : Nat) : ∀ j u, (cl eR [x])[j]? = some u → (w.alloc (.cells #[ptr x] 63)).cell? ((⟨w.heap.size, 0, none⟩ : Addr).add j) = some u := by
  intro j u h
  have hj : j < 1 := by have := (List.getElem?_eq_some_iff.1 h).1; rwa [cl_len encR] at this
  obtain rfl : j = 0 := by omega
  simp [cl] at h
  subst h
  rw [Addr.add_lit]
  simp
theorem DA.made (w : World) : ∃ W, w.alloc (.cells #[.slice none 0 0] 66) = W ∧ DA W (fun i => i = w.heap.size) w.heap.size [] ∧ w.grownBy W none ∧ W.heap.size = w.heap.size + 1 :=
  ⟨_, rfl, ⟨⟨.slice none 0 0, by simp, Ls.nil _ _ _ _ _, fun k hk => (by cases hk)⟩, fun i => by simp, by simp, rfl⟩, gbAlloc _ _ _, by simp⟩
/-- What a round of New's second loop does: one more Ready. -/
theorem DV.next {w : World} {O : Nat → Prop} {q : Nat} {T : List (Int × Int)} {N : Int} {x : Option Addr} {cap : Nat} {y : Option Addr} {cp : Nat} {j : Nat} {qs : Nat → Nat} {Os : Nat → Nat → Prop} (h : DV w O q T N (fun _ => []) x cap y cp j qs Os) (hj : j < 4) :
    ∃ W1 W2 y' cp' w6, w.alloc (.cells #[.slice none 0 0] 66) = W1 ∧ W1.alloc (.cells #[ptr w.heap.size] 63) = W2 ∧ W1.heap.size = w.heap.size + 1 ∧
      (Builtin.append_ #[60, 60] 60 #[.slice y j cp, .slice (some ⟨W1.heap.size, 0, none⟩) 1 1]).run Try.prog W2 = .ok (.slice y' (j + 1) cp') w6 ∧
      w6.cell? ⟨q, 2, none⟩ = some (.slice y j cp) ∧ w6.frozen? ⟨q, 2, none⟩ = false ∧ W2.cell? ⟨q, 2, none⟩ = some (.slice y j cp) ∧
      Hid (∃ P qs' Os', DV (w6.setCell ⟨q, 2, none⟩ (.slice y' (j + 1) cp')) P q T N (fun _ => []) x cap y' cp' (j + 1) qs' Os' ∧ (∀ i, P i → O i ∨ (w.heap.size ≤ i ∧ i < w6.heap.size)) ∧ Fr O w (w6.setCell ⟨q, 2, none⟩ (.slice y' (j + 1) cp')) ∧ w.heap.size ≤ w6.heap.size) := by
  obtain ⟨W1, hW1, A1, g1, s1⟩ := DA.made w
  have g2 := gbAlloc W1 (.cells #[ptr w.heap.size] 63) none
  have rr := rowR W1 w.heap.size
  have sz2 : (W1.alloc (.cells #[ptr w.heap.size] 63)).heap.size = W1.heap.size + 1 := by simp
  obtain ⟨W2, hW2⟩ : ∃ W2, W1.alloc (.cells #[ptr w.heap.size] 63) = W2 := ⟨_, rfl⟩
  rw [hW2] at g2 rr sz2
  have G : w.grownBy W2 none := gbTrans g1 g2
  obtain ⟨v', w6, hr, l6, G6, o6⟩ := run_append_r W2 0 (.slice y j cp) _ (h.rl.kept G) 60 (some ⟨W1.heap.size, 0, none⟩) 1 1 [w.heap.size] rfl (by simp) (by rintro ad ⟨⟩; exact rr) (by simp; omega) (Nat.zero_le _)
  rw [range_app] at l6
  obtain ⟨y', cp', rfl, _⟩ := l6.arr
  simp only [List.length_map, List.length_range] at hr l6 o6
  obtain ⟨k1, k2, k3, k4, k5⟩ := h.more G (A1.kept g2) (fun i hi => by subst hi; omega) G6 l6 o6
  exact ⟨W1, W2, y', cp', w6, hW1, hW2, s1, hr, k3, k4, (h.kept G).c2, hideIt ⟨_, _, _, k1, fun i hi => hi, k2, k5⟩⟩
set_option maxHeartbeats 2000000 in
theorem tnew_yes (w : World) (a : Addr) (n cap : Nat) (T : List (Int × Int)) (h : Hid (Pairs w (some a) T)) (hn : Hid (T.length = n)) (ok : Hid (M.Ok T)) :
    Calls Try.prog 10 #[.slice (some a) n cap] w fun e w' => ∃ q, e = .returned (.tuple #[ptr q, .int .i64 0]) ∧ TA w' (fun i => w.heap.size ≤ i ∧ i < w'.heap.size) q T 0 (M.tt T 0) (fun _ => []) ∧ w.grownBy w' none := by
  have c1 : 1 ≤ n := by rw [← hn.out]; exact ok.out.l1
  have c2 : n ≤ 16 := by rw [← hn.out]; exact ok.out.l2
  have c1' : (1 : Int) ≤ (n : Int) := by omega
  have c2' : (n : Int) ≤ 16 := by omega
  obtain ⟨v1, w1, hr, l1, g1, o1⟩ := run_append_d (w.alloc (.cells #[] 46)) w.heap.size (.slice (some ⟨w.heap.size, 0, none⟩) 0 0) [] (Ls.empty eP 46 2 w) 22 (some a) n cap T hn.out (by simp) (by rintro ad ⟨⟩ j u hu; exact (gbAlloc w _ none).cell (h.out.row j u hu) (by simp)) (by simp; omega) (by simp)
  rw [List.nil_append] at l1
  obtain ⟨x, c, rfl, _⟩ := l1.arr
  rw [hn.out] at l1 hr
  have HG := gbNew (gbTrans (gbAny (gbAlloc w (.cells #[] 46) none) _) g1) (Nat.le_refl _)
  obtain ⟨W3, hW3, A3, g3⟩ := DV.made HG l1 hn.out (fun _ => [])
  obtain ⟨q, hq⟩ : ∃ q, w1.heap.size = q := ⟨_, rfl⟩
  rw [hq] at A3
  have H3 := hideIt A3
  have G3 := hideIt g3
  clear l1 o1 g1 A3 g3 HG
  go_enter Try.func10, Try.ntmps10
  go_wp2_with fail
  go_loopg [4, 5] (n + 1) (fun y s i wr => ∃ (c : Nat), c + y = n + 1 ∧ c ≤ n ∧ i = .int .i64 c ∧ s = .bool true ∧ wr = w)
  case atStart => exact ⟨0, by omega, by omega, rfl, rfl, rfl⟩
  case round =>
    obtain ⟨c, hc, hcn, rfl, rfl, rfl⟩ := hrel
    by_cases hlt : c < n
    · have hlt' : (c : Int) < (n : Int) := by omega
      have ho := M.at_lt (T := T) (n := c) (by rw [hn.out]; exact hlt)
      obtain ⟨a', e, e0, e1⟩ := h.out c _ ho
      cases e
      simp only at e0 e1
      obtain ⟨b1, b2, b3, b4⟩ := ok.out.dmB (n := c) (by rw [hn.out]; exact hlt)
      have b2' : M.dm T c ≤ 3 := by omega
      obtain ⟨d, hd⟩ : ∃ d, M.dm T c = d := ⟨_, rfl⟩
      obtain ⟨t, ht⟩ : ∃ t, M.tt T c = t := ⟨_, rfl⟩
      rw [hd] at e0 b1 b2 b2'
      rw [ht] at e1 b3 b4
      clear ho hd ht
      go_wp2
      go_roundg (gk - 1)
      case rel => exact ⟨c + 1, by omega, by omega, by go_num, rfl, rfl⟩
      case measure => omega
    · have hlt' : ¬ (c : Int) < (n : Int) := by omega
      go_upto_region 8 with fail
      go_wp2_with (at_builtin; refine wpList_append_run rfl (.tmp 57) (.tmp 58) rfl (.slice (some ⟨wr.heap.size, 0, none⟩) 0 0) (.slice (some a) n cap) rfl rfl (.slice x n _) w1 hr ?_)
      clear hr hW3
      have H3 : Hid (∃ P qs Os, DV W3 P q T 0 (fun _ => []) x _ none 0 0 qs Os ∧ (∀ i, P i → wr.heap.size ≤ i ∧ i < W3.heap.size) ∧ wr.grownBy W3 none) := hideIt ⟨_, _, _, H3.out, fun i hi => hi, G3.out⟩
      obtain ⟨wo, rfl⟩ : ∃ wo, wo = wr := ⟨_, rfl⟩
      go_loopg [7] 5 (fun y i wr => ∃ (j : Nat) (yy : Option Addr) (cp : Nat), j + y = 5 ∧ j ≤ 4 ∧ i = .int .i64 j ∧ Hid (∃ P qs Os, DV wr P q T 0 (fun _ => []) x _ yy cp j qs Os ∧ (∀ i, P i → wo.heap.size ≤ i ∧ i < wr.heap.size) ∧ wo.grownBy wr none))
      case atStart => exact ⟨0, none, 0, rfl, by omega, rfl, H3⟩
      case round =>
        obtain ⟨j, yy, cp, hj, hj4, rfl, H⟩ := hrel
        clear H3
        by_cases hlt : j < 4
        · have hlt' : (j : Int) < 4 := by omega
          obtain ⟨P, qs, Os, h1, h2, h3⟩ := H.out
          have e2 := h1.c2
          obtain ⟨W1, W2, y', cp', w6, hW1, hW2, s1, hr, k3, k4, k5, HN⟩ := h1.next hlt
          have e3 : W1.cell? ⟨q, 2, none⟩ = some (.slice yy j cp) := by rw [← hW1]; exact (gbAlloc _ _ none).cell e2 (by simp)
          have H1 := hideIt h1
          have H2 := hideIt h2
          have HG3 := hideIt h3
          clear h1 h2 h3 s1 H
          go_wp2_with (at_builtin; refine wpList_append_run rfl (.tmp 70) (.tmp 73) rfl (.slice yy j cp) (.slice (some ⟨W1.heap.size, 0, none⟩) 1 1) rfl rfl (.slice y' (j + 1) cp') w6 hr ?_)
          go_roundg (gk - 1)
          case rel =>
            obtain ⟨P', qs', Os', n1, n2, n3, n4⟩ := HN.out
            have n5 := HG3.out.size
            refine ⟨j + 1, y', cp', by omega, by omega, by go_num, hideIt ⟨P', qs', Os', n1, fun i hi => ?_, Fr.since HG3.out n3 (fun i hi => (H2.out i hi).1)⟩⟩
            have n6 : (w6.setCell ⟨q, 2, none⟩ (.slice y' (j + 1) cp')).heap.size = w6.heap.size := by simp [World.setCell]
            rw [n6]
            rcases n2 i hi with hi | hi
            · have := H2.out i hi; omega
            · omega
          case measure => omega
        · have hlt' : ¬ (j : Int) < 4 := by omega
          obtain rfl : j = 4 := by omega
          go_wp2
          go_ret2
          obtain ⟨P, qs, Os, h1, h2, h3⟩ := H.out
          exact ⟨_, rfl, ⟨0, _, _, _, _, _, _, M.Ps.zero ok.out, h1.mono h2⟩, h3⟩
theorem tnew_is (w : World) (x : Option Addr) (n cap : Nat) (T : List (Int × Int)) (h : Pairs w x T) (hn : T.length = n) (f : Int) (hf : (if M.ok T then 0 else 1) = f) :
    Calls Try.prog 10 #[.slice x n cap] w fun e w' => ∃ q, e = .returned (.tuple #[.pointer q, .int .i64 f]) ∧ w.grownBy w' none ∧ (f = 0 → ∃ p, q = some ⟨p, 0, none⟩ ∧ TA w' (fun i => w.heap.size ≤ i ∧ i < w'.heap.size) p T 0 (M.tt T 0) (fun _ => [])) := by
  subst hf
  cases hb : M.ok T with
  | false =>
    refine (tnew_no w x n cap T h hn hb).mono ?_
    rintro e w1 ⟨rfl, g1⟩
    exact ⟨none, rfl, g1, fun e => (by cases e)⟩
  | true =>
    have ho := M.ok_iff.1 hb
    obtain ⟨a, rfl, _⟩ := h 0 _ (M.at_lt ho.l1)
    refine (tnew_yes w a n cap T (hideIt h) (hideIt hn) (hideIt ho)).mono ?_
    rintro e w1 ⟨p, rfl, h1, g1⟩
    exact ⟨_, rfl, g1, fun _ => ⟨p, rfl, h1⟩⟩

section
variable {w : World} {O : Nat → Prop} {q : Nat} {T : List (Int × Int)} {n : Nat} {l N : Int} {F : Nat → List (Int × Int)} {x : Option Addr} {cap : Nat} {y : Option Addr} {cp : Nat} {qs : Nat → Nat} {Os : Nat → Nat → Prop}
/-! ### Now, Domain -/
set_option maxHeartbeats 1000000 in
theorem tnow_row (h : Hid (DV w O q T N F x cap y cp 4 qs Os)) (ok : Hid (M.Ok T)) (ps : Hid (M.Ps T n l N)) :
    Calls Try.prog 22 #[.pointer (some ⟨q, 0, none⟩)] w fun e w' => e = .returned (.tuple #[.int .i64 n, .int .i64 l]) ∧ w.grownBy w' none := by
  have c0 := h.out.c0
  have c1 := h.out.c1
  obtain ⟨k, hk⟩ : ∃ k, T.length = k := ⟨_, rfl⟩
  rw [hk] at c0
  have hnk : n < k := by rw [← hk]; exact ps.out.lt
  have hk16 : k ≤ 16 := by rw [← hk]; exact ok.out.l2
  replace hk := hideIt hk
  obtain ⟨r, hr⟩ : ∃ r, N = r := ⟨_, rfl⟩
  have HN := hideIt hr
  rw [hr] at c1
  clear hr
  go_enter Try.func22, Try.ntmps22
  go_wp2_with fail
  go_loopg [4, 5] (n + 1) (fun g s i wr => ∃ (c : Nat) (m : Int), c + g = n + 1 ∧ c ≤ n ∧ i = .int .i64 c ∧ s = .int .i64 m ∧ Hid (m = N - M.pre T c) ∧ wr = w)
  case atStart => exact ⟨0, r, by omega, by omega, rfl, rfl, hideIt (by rw [M.pre_zero, ← HN.out]; omega), rfl⟩
  case round =>
    obtain ⟨c, m, hc, hcn, rfl, rfl, HM, rfl⟩ := hrel
    have hlt' : (c : Int) < (k : Int) := by omega
    have hck : c < T.length := by rw [hk.out]; omega
    obtain ⟨a, rfl, _, e1⟩ := h.out.tl.pairs c _ (M.at_lt hck)
    simp only at e1
    obtain ⟨t, ht⟩ : ∃ t, M.tt T c = t := ⟨_, rfl⟩
    rw [ht] at e1
    have hb := ok.out.dmB hck
    rw [ht] at hb
    have hs := M.pre_succ hck
    rw [ht] at hs
    have hbd := ps.out.bd ok.out
    have hb2 := ok.out.pre_bd c (by omega)
    have hb3 := ok.out.pre_bd (n + 1) ps.out.lt
    have HS := hideIt hs
    by_cases e : c = n
    · subst e
      have hmt : m < t := by have := HM.out; omega
      obtain ⟨d, hd⟩ : ∃ d, t - m = d := ⟨_, rfl⟩
      obtain rfl : d = l := by have := HM.out; have := hbd.2.2.2.2; omega
      have hd1 := ps.out.l1
      have hd2 : d ≤ 1000 := by have := ps.out.l2; omega
      clear hs hbd hb2 hb3 ht
      go_upto_region 6 with fail
      go_region
      go_wp2
      go_ret2
      exact ⟨rfl, gbDrewN _ 1 _⟩
    · have hmono := ok.out.pre_mono (n - (c + 1)) (c + 1) (by have := ps.out.lt; omega)
      have e2 : c + 1 + (n - (c + 1)) = n := by omega
      rw [e2] at hmono
      have hmt : ¬ m < t := by have := HM.out; omega
      obtain ⟨d, hd⟩ : ∃ d, m - t = d := ⟨_, rfl⟩
      have HD : Hid (d = N - M.pre T (c + 1)) := hideIt (by rw [← hd, HS.out, HM.out]; omega)
      have hbm : -20000 ≤ m ∧ m ≤ 20000 := by have := HM.out; omega
      clear hs hbd hb2 hb3 hmono e2 ht
      go_wp2
      go_roundg (gk - 1)
      case rel => exact ⟨c + 1, d, by omega, by omega, by go_num, by go_num, HD, rfl⟩
      case measure => omega
theorem tnow_is (h : TA w O q T n l F) (ok : M.Ok T) :
    Calls Try.prog 22 #[.pointer (some ⟨q, 0, none⟩)] w fun e w' => e = .returned (.tuple #[.int .i64 n, .int .i64 l]) ∧ w.grownBy w' none := by
  obtain ⟨N, x, c, y, cp, qs, Os, ps, h⟩ := h
  exact tnow_row (hideIt h) (hideIt ok) (hideIt ps)
set_option maxHeartbeats 400000 in
theorem tdomain_is (h : TA w O q T n l F) (ok : M.Ok T) :
    Calls Try.prog 24 #[.pointer (some ⟨q, 0, none⟩)] w fun e w' => e = .returned (.int .i64 (M.dm T n)) ∧ w.grownBy w' none := by
  have HN := hideIt (tnow_is h ok)
  obtain ⟨N, x, c, y, cp, qs, Os, ps, h⟩ := h
  have c0 := h.c0
  obtain ⟨a, e, e0, _⟩ := h.tl.pairs n _ (M.at_lt ps.lt)
  subst e
  simp only at e0
  have hn := ps.lt
  obtain ⟨m, hm⟩ : ∃ m, T.length = m := ⟨_, rfl⟩
  rw [hm] at c0 hn
  have hn' : (n : Int) < (m : Int) := by omega
  clear h hm ps
  go_enter Try.func24, Try.ntmps24
  go_wp2_with fail
  refine HN.out.mono ?_
  rintro e w1 ⟨rfl, g1⟩
  have c0 := g1.cell c0 (by simp)
  have e0 := g1.cell e0 (by simp)
  go_wp2
  go_ret
  exact ⟨rfl, g1⟩

/-! ### Tick -/
set_option maxHeartbeats 1000000 in
theorem ttick_row (h : Hid (DV w O q T N F x cap y cp 4 qs Os)) (ok : Hid (M.Ok T)) (ps : Hid (M.Ps T n l N)) (b : Bool) (hb : Hid (decide (l = 1) = b)) (N2 : Int) (hN2' : Hid ((N + 1) % M.tk T = N2)) :
    Calls Try.prog 18 #[.pointer (some ⟨q, 0, none⟩)] w fun e w' => e = .returned (.bool b) ∧ DV w' (wide O w w') q T N2 F x cap y cp 4 qs Os ∧ Fr O w w' := by
  have c0 := h.out.c0
  obtain ⟨k, hk⟩ : ∃ k, T.length = k := ⟨_, rfl⟩
  rw [hk] at c0
  have hk16 : k ≤ 16 := by rw [← hk]; exact ok.out.l2
  replace hk := hideIt hk
  go_enter Try.func18, Try.ntmps18
  go_wp2_with fail
  go_loopg [3, 4] (k + 1) (fun g s i wr => ∃ (c : Nat) (m : Int), c + g = k + 1 ∧ c ≤ k ∧ i = .int .i64 c ∧ s = .int .i64 m ∧ Hid (m = M.pre T c) ∧ wr = w)
  case atStart => exact ⟨0, 0, by omega, by omega, rfl, rfl, hideIt rfl, rfl⟩
  case round =>
    obtain ⟨c, m, hc, hcn, rfl, rfl, HM, rfl⟩ := hrel
    have hb2 := ok.out.pre_bd c (by rw [hk.out]; omega)
    by_cases hlt : c < k
    · have hlt' : (c : Int) < (k : Int) := by omega
      have hck : c < T.length := by rw [hk.out]; omega
      obtain ⟨a, rfl, _, e1⟩ := h.out.tl.pairs c _ (M.at_lt hck)
      simp only at e1
      obtain ⟨t, ht⟩ : ∃ t, M.tt T c = t := ⟨_, rfl⟩
      rw [ht] at e1
      have hbt := ok.out.dmB hck
      rw [ht] at hbt
      obtain ⟨d, hd⟩ : ∃ d, m + t = d := ⟨_, rfl⟩
      have HD : Hid (d = M.pre T (c + 1)) := hideIt (by rw [M.pre_succ hck, ht, ← HM.out]; omega)
      have hbm : 0 ≤ m ∧ m ≤ 16000 := by have := HM.out; omega
      clear hb2 ht
      go_wp2
      go_roundg (gk - 1)
      case rel => exact ⟨c + 1, d, by omega, by omega, by go_num, by go_num, HD, rfl⟩
      case measure => omega
    · have hlt' : ¬ (c : Int) < (k : Int) := by omega
      obtain rfl : c = k := by omega
      have hall : M.tk T = m := by rw [HM.out, ← M.pre_all, hk.out]
      have hbd := ps.out.bd ok.out
      have htk := ok.out.tk_bd
      have hNb : 0 ≤ N ∧ N < m := by omega
      have hmb : 1 ≤ m ∧ m ≤ 16000 := by omega
      have HN := hideIt (tnow_row h ok ps)
      clear hb2 hbd htk
      go_wp2_with fail
      refine HN.out.mono ?_
      rintro e w2 ⟨rfl, g2⟩
      have H2 := h.out.kept g2
      obtain ⟨N1, hN1⟩ : ∃ N1, N + 1 = N1 := ⟨_, rfl⟩
      have hN2 : N1 % m = N2 := by rw [← hN1, ← hall]; exact hN2'.out
      obtain ⟨W3, hW3, A3, G3⟩ := H2.setN N2
      have d1 := H2.c1
      have d2 := H2.fz 1
      have q3 : N1.tmod m = N2 := by rw [Int.tmod_eq_emod_of_nonneg (by omega)]; exact hN2
      have q4 : ¬ m = 0 := by omega
      have H3 := hideIt (And.intro A3 ((Fr.grown g2).trans (Fr.at G3 h.out.op)))
      obtain ⟨b', hb'⟩ : ∃ b', (l == 1) = b' := ⟨_, rfl⟩
      obtain rfl : b' = b := by rw [← hb', ← hb.out]; rfl
      clear H2 A3 G3 g2 hall
      go_wp2
      go_ret
      exact ⟨rfl, H3.out.1.mono (fun i hi => .inl hi), H3.out.2⟩
theorem ttick_is (h : TA w O q T n l F) (ok : M.Ok T) (b : Bool) (hb : decide (l = 1) = b) :
    Calls Try.prog 18 #[.pointer (some ⟨q, 0, none⟩)] w fun e w' => e = .returned (.bool b) ∧ TA w' (wide O w w') q T (M.tn T n l) (M.tl T n l) F ∧ Fr O w w' := by
  obtain ⟨N, x, c, y, cp, qs, Os, ps, h⟩ := h
  refine (ttick_row (hideIt h) (hideIt ok) (hideIt ps) b (hideIt hb) _ (hideIt rfl)).mono ?_
  rintro e w1 ⟨rfl, A, k⟩
  exact ⟨rfl, ⟨_, _, _, _, _, _, _, ps.tick ok, A⟩, k⟩
end
end Go.Proofs.Ytpacgdplbddclaa
