/-
  THE CONTRACTS of the document's Ready: a list of ids with their levels; Put, List, Next, Levels.
-/
import Derived.Test.YtpacgdplbddclaaRpl
namespace Go.Proofs.Ytpacgdplbddclaa
set_option maxRecDepth 10000
open Go.RowKit
set_option linter.unusedVariables false

abbrev eO (o : Int × Int) : List Value := [.int .i64 o.1, .int .i64 o.2]
theorem encO : Enc eO 2 := ⟨by decide, fun _ => rfl, fun x u hu => by simp at hu; rcases hu with rfl | rfl <;> rfl⟩
abbrev OL (w : World) (B : Nat) (v : Value) (R : List (Int × Int)) : Prop := Ls eO 79 2 w B v R
theorem OL.at {w : World} {B g n cap : Nat} {R : List (Int × Int)} (h : OL w B (.slice (some ⟨g, 0, none⟩) n cap) R) (hn : R.length = n) (j : Nat) (o : Int × Int) (hj : R[j]? = some o) : w.cell? ⟨g, j * 2, none⟩ = some (.int .i64 o.1) ∧ w.cell? ⟨g, j * 2 + 1, none⟩ = some (.int .i64 o.2) :=
  ⟨by have := h.cell encO hn j 0 o _ hj rfl; simpa using this, h.cell encO hn j 1 o _ hj rfl⟩
theorem Try.infoOne : (Try.prog.info? 79).map (fun i => (i.zero, i.size, i.bytes)) = some (some (.agg #[.int .i64 0, .int .i64 0]), 2, 16) := by kernel_rfl
theorem run_append_o (w : World) (B : Nat) (v : Value) (L : List (Int × Int)) (hown : OL w B v L) (ty : TypeId) (ox : Option Addr) (m c : Nat) (D : List (Int × Int)) (hm : D.length = m) (hno : ox = none → m = 0) (hx : ∀ ad, ox = some ad → ∀ j u, (cl eO D)[j]? = some u → w.cell? (ad.add j) = some u) (hn : L.length + m ≤ 100000) (hB : B ≤ w.heap.size) :
    ∃ v' w', (Builtin.append_ #[64, 64] ty #[v, .slice ox m c]).run Try.prog w = .ok v' w' ∧ OL w' B v' (L ++ D) ∧ w.grownBy w' v.ownBlock ∧ (v'.ownBlock = v.ownBlock ∨ v'.ownBlock = some w.heap.size) := by
  obtain ⟨i, hi, hx0⟩ := Option.map_eq_some_iff.1 Try.infoOne
  simp only [Prod.mk.injEq] at hx0
  exact run_append_l encO Try.underlying64 hi hx0.1 hx0.2.1 hx0.2.2 (by kernel_rfl) (by decide) w B v L hown ty ox m c D hm hno hx hn hB
theorem rowO (w : World) (o : Int × Int) : ∀ j u, (cl eO [o])[j]? = some u → (w.alloc (.cells #[.int .i64 o.1, .int .i64 o.2] 79)).cell? ((⟨w.heap.size, 0, none⟩ : Addr).add j) = some u := by
  intro j u h
  have hj : j < 2 := by have := (List.getElem?_eq_some_iff.1 h).1; rwa [cl_len encO] at this
  have : j = 0 ∨ j = 1 := by omega
  rw [Addr.add_lit]
  rcases this with rfl | rfl <;> (simp [cl] at h; subst h; simp)
/-- The document's Ready at q. -/
abbrev DA (w : World) (O : Nat → Prop) (q : Nat) (R : List (Int × Int)) : Prop := HA eO 79 2 w O q R
/-- What a walk reads of it: the list's value, and each of its elements. -/
structure Rd (w : World) (q : Nat) (x : Option Addr) (n cap : Nat) (R : List (Int × Int)) : Prop where
  c0 : w.cell? ⟨q, 0, none⟩ = some (.slice x n cap)
  len : R.length = n
  el : ∀ i o, R[i]? = some o → ∃ g, x = some ⟨g, 0, none⟩ ∧ w.cell? ⟨g, i * 2, none⟩ = some (.int .i64 o.1) ∧ w.cell? ⟨g, i * 2 + 1, none⟩ = some (.int .i64 o.2)
theorem Rd.kept {w w' : World} {q : Nat} {x : Option Addr} {n cap : Nat} {R : List (Int × Int)} (h : Rd w q x n cap R) (g : w.grownBy w' none) : Rd w' q x n cap R :=
  ⟨g.cell h.c0 (by simp), h.len, fun i o ho => by obtain ⟨b, h1, h2, h3⟩ := h.el i o ho; exact ⟨b, h1, g.cell h2 (by simp), g.cell h3 (by simp)⟩⟩
theorem HA.rd {w : World} {O : Nat → Prop} {q : Nat} {R : List (Int × Int)} (h : DA w O q R) : ∃ x n cap, Rd w q x n cap R := by
  obtain ⟨v, c, l, _⟩ := h.ex
  rcases l.form with ⟨rfl, rfl⟩ | ⟨g, cap, rfl, _⟩
  · exact ⟨none, 0, 0, c, rfl, fun i o ho => by simp at ho⟩
  · exact ⟨_, _, cap, c, rfl, fun i o ho => ⟨g, rfl, OL.at l rfl i o ho⟩⟩

/-! ### List -/
set_option maxHeartbeats 2000000 in
theorem rlist_row {w : World} {q : Nat} {x : Option Addr} {n cap : Nat} {R : List (Int × Int)} (h : Hid (Rd w q x n cap R)) (hl : n ≤ 1000) (l : Int) :
    Calls Try.prog 46 #[.pointer (some ⟨q, 0, none⟩), .int .i64 l] w fun e w' => ∃ v', e = .returned v' ∧ IL w' w.heap.size v' (M.lv R l) ∧ w.grownBy w' none := by
  go_enter Try.func46, Try.ntmps46
  go_wp2
  go_loopg [5, 6] (n + 1) (fun y v i wr => ∃ (c : Nat) (xx : Option Addr) (m d : Nat), c + y = n + 1 ∧ c ≤ n ∧ m ≤ c ∧ i = .int .i64 c ∧ v = .slice xx m d ∧ Hid (IL wr w.heap.size (.slice xx m d) (M.lv (R.take c) l) ∧ (M.lv (R.take c) l).length = m) ∧ w.grownBy wr none)
  case atStart => exact ⟨0, none, 0, 0, by omega, by omega, by omega, rfl, rfl, hideIt ⟨Ls.nil _ _ _ _ _, rfl⟩, gbRefl _ _⟩
  case round =>
    obtain ⟨c, xx, m, d, hc, hcn, hmc, rfl, rfl, HL, gw⟩ := hrel
    have hR := h.out.kept gw
    have c0 := hR.c0
    by_cases hlt : c < n
    · have hlt' : (c : Int) < (n : Int) := by omega
      obtain ⟨⟨a, k⟩, ho⟩ : ∃ o, R[c]? = some o := ⟨_, List.getElem?_eq_getElem (by rw [h.out.len]; exact hlt)⟩
      obtain ⟨g, rfl, e0, e1⟩ := hR.el c _ ho
      simp only at e0 e1
      have ht : R.take (c + 1) = R.take c ++ [(a, k)] := by rw [List.take_add_one, ho]; rfl
      replace ht := hideIt ht
      clear ho hR
      by_cases hk : (k == l) = true
      · have hk2 : l = k := by simp at hk; exact hk.symm
        replace hk2 := hideIt hk2
        obtain ⟨v1, w1, hr, l1, g1, o1⟩ := run_append_i (wr.alloc (.cells #[.int .i64 a] 3)) w.heap.size (.slice xx m d) (M.lv (R.take c) l) (HL.out.1.kept (gbAlloc _ _ _)) 44 (some ⟨wr.heap.size, 0, none⟩) 1 1 [a] rfl (by simp) (by rintro ad ⟨⟩; exact rowI wr a) (by rw [HL.out.2]; omega) (by have := gw.size; simp; omega)
        have HF : Hid (IL w1 w.heap.size v1 (M.lv (R.take (c + 1)) l) ∧ (M.lv (R.take (c + 1)) l).length = m + 1) := hideIt (by
          rw [ht.out, M.lv_app, if_pos hk2.out]
          exact ⟨l1, by rw [List.length_append, HL.out.2]; rfl⟩)
        obtain ⟨x1, d1, e3, _⟩ := HF.out.1.arr
        rw [HF.out.2] at e3
        subst e3
        have G1 : w.grownBy w1 none := gbNews (gbTrans (gbAny (gbAllocN gw _) _) g1) (fun k' hk' => (HL.out.1.lt k' hk').1)
        have hq1 : ∀ b i v, wr.cell? ⟨b, i, none⟩ = some v → (wr.alloc (.cells #[.int .i64 a] 3)).cell? ⟨b, i, none⟩ = some v := fun b i v hv => (gbAlloc wr _ none).cell hv (by simp)
        clear l1 g1 o1 hq1
        go_wp2_with (at_builtin; refine wpList_append_run rfl (.tmp 26) (.tmp 35) rfl (.slice xx m d) (.slice (some ⟨wr.heap.size, 0, none⟩) 1 1) rfl rfl (.slice x1 (m + 1) d1) w1 hr ?_)
        go_roundg (gk - 1)
        case rel => exact ⟨c + 1, _, _, _, by omega, by omega, by omega, by go_num, rfl, HF, G1⟩
        case measure => omega
      · have hk : (k == l) = false := by simpa using hk
        have hk2 : ¬ l = k := by simp at hk; exact fun e => hk e.symm
        have HF : Hid (IL wr w.heap.size (.slice xx m d) (M.lv (R.take (c + 1)) l) ∧ (M.lv (R.take (c + 1)) l).length = m) := hideIt (by
          rw [ht.out, M.lv_app, if_neg hk2]
          exact HL.out)
        clear hk2
        go_wp2
        go_roundg (gk - 1)
        case rel => exact ⟨c + 1, _, _, _, by omega, by omega, by omega, by go_num, rfl, HF, gw⟩
        case measure => omega
    · have hlt' : ¬ (c : Int) < (n : Int) := by omega
      obtain rfl : c = n := by omega
      have HT := hideIt (List.take_of_length_le (Nat.le_of_eq h.out.len))
      rw [HT.out] at HL
      go_wp2
      go_ret
      exact ⟨_, rfl, HL.out.1, gw⟩
theorem rlist_is {w : World} {O : Nat → Prop} {q : Nat} {R : List (Int × Int)} (h : DA w O q R) (hl : R.length ≤ 1000) (l : Int) :
    Calls Try.prog 46 #[.pointer (some ⟨q, 0, none⟩), .int .i64 l] w fun e w' => ∃ v', e = .returned v' ∧ IL w' w.heap.size v' (M.lv R l) ∧ w.grownBy w' none := by
  obtain ⟨x, n, cap, hr⟩ := h.rd
  exact rlist_row (hideIt hr) (by rw [← hr.len]; exact hl) l

/-! ### Put -/
set_option maxHeartbeats 400000 in
theorem rput_no1 (w : World) (p : Nat) (a l : Int) (h : ¬ (0 ≤ a ∧ a < 64 ∧ 0 ≤ l ∧ l < 8)) :
    Calls Try.prog 33 #[.pointer (some ⟨p, 0, none⟩), .int .i64 a, .int .i64 l] w fun e w' => e = .returned (.int .i64 1) ∧ w' = w := by
  by_cases h0 : a < 0
  · clear h
    go_enter Try.func33, Try.ntmps33
    go_wp2
    go_ret
    exact ⟨rfl, rfl⟩
  · by_cases h1 : 63 < a
    · clear h
      go_enter Try.func33, Try.ntmps33
      go_wp2
      go_ret
      exact ⟨rfl, rfl⟩
    · by_cases h2 : l < 0
      · clear h
        go_enter Try.func33, Try.ntmps33
        go_wp2
        go_ret
        exact ⟨rfl, rfl⟩
      · have h3 : 7 < l := by omega
        clear h
        go_enter Try.func33, Try.ntmps33
        go_wp2
        go_ret
        exact ⟨rfl, rfl⟩
set_option maxHeartbeats 2000000 in
theorem rput_no4 {w : World} {q : Nat} {x : Option Addr} {n cap : Nat} {R : List (Int × Int)} (h : Hid (Rd w q x n cap R)) (hl : n ≤ 1000) (a l : Int) (h0 : ¬ a < 0) (h1 : ¬ 63 < a) (h2 : ¬ l < 0) (h3 : ¬ 7 < l) (j : Nat) (hj : Hid (∃ y, R[j]? = some (a, y))) (hf : Hid (∀ i o, i < j → R[i]? = some o → o.1 ≠ a)) :
    Calls Try.prog 33 #[.pointer (some ⟨q, 0, none⟩), .int .i64 a, .int .i64 l] w fun e w' => e = .returned (.int .i64 4) ∧ w' = w := by
  have hjn : j < n := by obtain ⟨y, hy⟩ := hj.out; rw [← h.out.len]; exact (List.getElem?_eq_some_iff.1 hy).1
  have c0 := h.out.c0
  go_enter Try.func33, Try.ntmps33
  go_wp2
  go_loopg [7] (j + 1) (fun y i wr => ∃ c : Nat, c + y = j + 1 ∧ c ≤ j ∧ i = .int .i64 c ∧ wr = w)
  case atStart => exact ⟨0, by omega, by omega, rfl, rfl⟩
  case round =>
    obtain ⟨c, hc, hcj, rfl, rfl⟩ := hrel
    have hlt' : (c : Int) < (n : Int) := by omega
    obtain ⟨⟨b, k⟩, hp⟩ : ∃ o, R[c]? = some o := ⟨_, List.getElem?_eq_getElem (by rw [h.out.len]; omega)⟩
    obtain ⟨g, rfl, e0, e1⟩ := h.out.el c _ hp
    simp only at e0 e1
    by_cases ej : c = j
    · subst ej
      obtain rfl : b = a := by obtain ⟨y, hy⟩ := hj.out; rw [hp] at hy; simp at hy; exact hy.1
      clear hp
      go_wp2
      go_ret
      exact ⟨rfl, rfl⟩
    · have hs : (b == a) = false := by simp; exact hf.out c _ (by omega) hp
      clear hp
      go_wp2
      go_roundg (gk - 1)
      case rel => exact ⟨c + 1, by omega, by omega, by go_num, rfl⟩
      case measure => omega
set_option maxHeartbeats 2000000 in
theorem rput_yes {w : World} {O : Nat → Prop} {q : Nat} {R : List (Int × Int)} (h : DA w O q R) (hl : R.length ≤ 999) (a l : Int) (h0 : ¬ a < 0) (h1 : ¬ 63 < a) (h2 : ¬ l < 0) (h3 : ¬ 7 < l) (ha : a ∉ M.ids R) :
    Calls Try.prog 33 #[.pointer (some ⟨q, 0, none⟩), .int .i64 a, .int .i64 l] w fun e w' => e = .returned (.int .i64 0) ∧ DA w' (wide O w w') q (R ++ [(a, l)]) ∧ Fr O w w' := by
  have hp := h.lt
  have hq1 : ¬ q = w.heap.size := by omega
  have hq2 : ¬ w.heap.size = q := by omega
  obtain ⟨x, n, cap, hr⟩ := h.rd
  have hl := hl
  rw [hr.len] at hl
  obtain ⟨x0, c0, y, m, cp, w6, b1, b2, b3, b4, b5⟩ := HA.push h n hr.len run_append_o (gbAlloc w (.cells #[.int .i64 a, .int .i64 l] 79) none) ⟨w.heap.size, 0, none⟩ 1 (a, l) (rowO w (a, l)) (by omega)
  have e := hr.c0
  rw [b1] at e
  obtain ⟨rfl, rfl⟩ : x0 = x ∧ c0 = cap := by simp at e; exact e
  have HR := hideIt hr
  have HA := hideIt ha
  clear e hr ha h
  go_enter Try.func33, Try.ntmps33
  go_wp2
  go_loopg [7] (n + 1) (fun y i wr => ∃ c : Nat, c + y = n + 1 ∧ c ≤ n ∧ i = .int .i64 c ∧ wr = w)
  case atStart => exact ⟨0, by omega, by omega, rfl, rfl⟩
  case round =>
    obtain ⟨c, hc, hcj, rfl, rfl⟩ := hrel
    by_cases hlt : c < n
    · have hlt' : (c : Int) < (n : Int) := by omega
      obtain ⟨⟨b, k⟩, hp⟩ : ∃ o, R[c]? = some o := ⟨_, List.getElem?_eq_getElem (by rw [HR.out.len]; omega)⟩
      obtain ⟨g, rfl, e0, e1⟩ := HR.out.el c _ hp
      simp only at e0 e1
      have hs : (b == a) = false := by simp; rintro rfl; exact HA.out (M.mem_ids.2 ⟨k, List.mem_of_getElem? hp⟩)
      clear hp b2 b3 b4
      go_wp2
      go_roundg (gk - 1)
      case rel => exact ⟨c + 1, by omega, by omega, by go_num, rfl⟩
      case measure => omega
    · have hlt' : ¬ (c : Int) < (n : Int) := by omega
      go_wp2_with (at_builtin; refine wpList_append_run rfl (.tmp 45) (.tmp 49) rfl (.slice x0 n c0) (.slice (some ⟨wr.heap.size, 0, none⟩) 1 1) rfl rfl (.slice y m cp) w6 b2 ?_)
      go_ret
      exact ⟨rfl, b5.out⟩
theorem M.ids_at {R : List (Int × Int)} {a : Int} (h : a ∈ M.ids R) : ∃ j y, R[j]? = some (a, y) ∧ ∀ (i : Nat) (o : Int × Int), i < j → R[i]? = some o → o.1 ≠ a := by
  have h1 := M.idx_at h
  have h2 := @M.idx_first (M.ids R) a
  unfold M.ids at h1 h2
  rw [List.getElem?_map, Option.map_eq_some_iff] at h1
  obtain ⟨⟨b, y⟩, h3, rfl⟩ := h1
  refine ⟨_, y, h3, fun i o hi ho e => h2 i hi ?_⟩
  rw [List.getElem?_map, ho]
  simp only [Option.map_some, e]
theorem rput_is {w : World} {O : Nat → Prop} {q : Nat} {R : List (Int × Int)} (h : DA w O q R) (hl : R.length ≤ 999) (a l f : Int) (hf : M.re R a l = f) :
    Calls Try.prog 33 #[.pointer (some ⟨q, 0, none⟩), .int .i64 a, .int .i64 l] w fun e w' => e = .returned (.int .i64 f) ∧ DA w' (wide O w w') q (M.rl R a l) ∧ Fr O w w' := by
  subst hf
  unfold M.re M.rl
  by_cases h1 : 0 ≤ a ∧ a < 64 ∧ 0 ≤ l ∧ l < 8
  · rw [if_pos h1]
    by_cases h2 : a ∈ M.ids R
    · rw [if_pos h2, if_neg (fun e => e.2 h2)]
      obtain ⟨j, y, h3, h4⟩ := M.ids_at h2
      obtain ⟨x, n, cap, hr⟩ := h.rd
      refine (rput_no4 (hideIt hr) (by rw [← hr.len]; omega) a l (by omega) (by omega) (by omega) (by omega) j (hideIt ⟨y, h3⟩) (hideIt h4)).mono ?_
      rintro e w1 ⟨rfl, rfl⟩
      exact ⟨rfl, h.wider _ _, Fr.refl _ _⟩
    · rw [if_neg h2, if_pos ⟨h1, h2⟩]
      exact rput_yes h hl a l (by omega) (by omega) (by omega) (by omega) h2
  · rw [if_neg h1, if_neg (fun e => h1 e.1)]
    refine (rput_no1 w q a l h1).mono ?_
    rintro e w1 ⟨rfl, rfl⟩
    exact ⟨rfl, h.wider _ _, Fr.refl _ _⟩

/-! ### Levels -/
set_option maxHeartbeats 2000000 in
theorem rnext_is {w : World} {O : Nat → Prop} {q : Nat} {R : List (Int × Int)} (h : DA w O q R) (hl : R.length ≤ 1000) (a : Int) (b : Bool) (ha : M.nx R = a) (hb : M.nb R = b) :
    Calls Try.prog 37 #[.pointer (some ⟨q, 0, none⟩)] w fun e w' => e = .returned (.tuple #[.int .i64 a, .bool b]) ∧ w.grownBy w' none := by
  have H := hideIt h
  have HA := hideIt ha
  have HB := hideIt hb
  clear h ha hb
  go_enter Try.func37, Try.ntmps37
  go_wp2
  go_loopg [4] 9 (fun y i wr => ∃ (c : Nat) (t : Int), c + 1 ≤ y ∧ c ≤ 8 ∧ t = (c : Int) - 1 ∧ i = .int .i64 t ∧ Hid (M.hi (M.bb R) 8 = M.hi (M.bb R) c) ∧ w.grownBy wr none)
  case atStart => exact ⟨8, 7, by omega, by omega, by omega, rfl, hideIt rfl, gbRefl _ _⟩
  case round =>
    obtain ⟨c, t, hc, hc8, ht, rfl, HH, gw⟩ := hrel
    cases c with
    | zero =>
      obtain rfl : t = -1 := by omega
      have e1 : M.hi (M.bb R) 8 = -1 := HH.out
      obtain rfl : a = 0 := by rw [← HA.out]; unfold M.nx; rw [e1]; rfl
      obtain rfl : b = false := by rw [← HB.out]; unfold M.nb; rw [e1]; rfl
      clear e1 HH ht hc hc8
      go_wp2
      go_ret2
      exact ⟨rfl, gw⟩
    | succ c =>
      obtain rfl : t = (c : Int) := by omega
      have h0 : (0 : Int) ≤ (c : Int) := by omega
      have hll := M.lv_len R (c : Int)
      clear ht
      go_wp2_with fail
      refine (rlist_is (H.out.kept gw) hl c).mono ?_
      rintro e w1 ⟨v, rfl, l1, g1⟩
      cases hL : M.lv R (c : Int) with
      | nil =>
        have HN : Hid (M.hi (M.bb R) 8 = M.hi (M.bb R) c) := hideIt (by
          rw [HH.out, M.hi]
          have : M.bb R c = false := by unfold M.bb; rw [hL]; rfl
          rw [this]
          simp)
        rw [hL] at l1
        obtain ⟨x, d, rfl, _⟩ := l1.arr
        clear l1 hL HH hll
        go_wp2
        go_roundg (gk - 1)
        case rel => exact ⟨c, (c : Int) - 1, by omega, by omega, rfl, by go_num, HN, gbTrans gw g1⟩
        case measure => omega
      | cons y L =>
        have e1 : M.hi (M.bb R) 8 = (c : Int) := by
          rw [HH.out, M.hi]
          have : M.bb R c = true := by unfold M.bb; rw [hL]; rfl
          rw [this]
          simp
        have hcn : ¬ (c : Int) < 0 := by omega
        obtain rfl : y = a := by rw [← HA.out]; unfold M.nx; rw [e1, if_neg hcn, hL]; rfl
        obtain rfl : b = true := by rw [← HB.out]; unfold M.nb; rw [e1, if_neg hcn]
        rw [hL] at l1
        obtain ⟨g, d, rfl, _⟩ := l1.has (n := L.length + 1) rfl (by omega)
        have c1 := IL.at l1 rfl 0 y rfl
        obtain ⟨n, hn⟩ : ∃ n, L.length + 1 = n := ⟨_, rfl⟩
        rw [hn]
        have hn0 : 0 < n := by omega
        have hn0' : (0 : Int) < (n : Int) := by omega
        clear l1 hL HH hll e1 hn
        go_wp2
        go_ret2
        exact ⟨rfl, gbTrans gw g1⟩
end Go.Proofs.Ytpacgdplbddclaa
