/-
  THE DOCUMENT'S SIDE (donjonref09): at, end, put.
-/
import Derived.Test.YtboojbnnjbmnoaaRmem
namespace Go.Proofs.Ytboojbnnjbmnoaa
open Go.RowKit
set_option linter.unusedVariables false

theorem Lst3.any {w : World} {B n : Nat} {v : Value} {L : List Kn} (h : Lst3 w B v L) (hn : L.length = n) : ∃ x y, v = .slice x n y := by
  rcases h.form hn with ⟨e, e2⟩ | ⟨g, cap, e, _⟩
  · exact ⟨none, 0, by rw [e, e2]⟩
  · exact ⟨_, _, e⟩
theorem RA.some {w : World} {p n cap j : Nat} {xo : Option Addr} {L : List Kn} (h : RA w p (.slice xo n cap) L) (hn : L.length = n) (hj : j < n) : ∃ g, xo = some ⟨g, 0, none⟩ := by
  rcases h.row.form hn with ⟨e, e2⟩ | ⟨g, c, e, _⟩
  · omega
  · simp only [Value.slice.injEq] at e; exact ⟨g, e.1⟩

set_option maxHeartbeats 1000000 in
theorem rat_yes {w : World} {p n cap j : Nat} {xo : Option Addr} {L : List Kn} (H : Hid (RA w p (.slice xo n cap) L)) (hn : Hid (L.length = n)) (hn2 : n ≤ 1000) (a b : Int) (d : Nat) (hj : Hid (L[j]? = some ((a, b), d))) (hf : Hid (∀ i x, i < j → L[i]? = some x → x.1 ≠ (a, b))) :
    Calls Try.prog 35 #[.pointer (some ⟨p, 0, none⟩), sv a b] w fun e w' => e = .returned (.int .i64 j) ∧ w.grownBy w' none := by
  have qe := eqGuardSlots
  have qq := run_eql_slots
  have hjn : j < n := by rw [← hn.out]; exact (List.getElem?_eq_some_iff.1 hj.out).1
  go_enter Try.func35, Try.ntmps35
  go_upto_region 1 with fail
  obtain ⟨W, hW, X, g0⟩ := sboxNew w a b
  rw [hW]
  clear hW
  go_wp2
  go_loopg [5] (j + 1) (fun y i wr => ∃ c : Nat, c + y = j + 1 ∧ c ≤ j ∧ i = .int .i64 c ∧ W.grownBy wr none)
  case atStart => exact ⟨0, by omega, by omega, rfl, gbRefl _ _⟩
  case round =>
    obtain ⟨c, hc, hcj, rfl, gw⟩ := hrel
    have hlt' : (c : Int) < (n : Int) := by omega
    obtain ⟨⟨⟨p1, p2⟩, d2⟩, hp⟩ : ∃ q, L[c]? = some q := ⟨_, List.getElem?_eq_getElem (by rw [hn.out]; omega)⟩
    obtain ⟨g, rfl⟩ := H.out.some hn.out (show c < n by omega)
    have c0 := (H.out.kept (gbTrans g0 gw)).cell
    have E := fun y : Gr wr => (H.out.kept (gbTrans (gbTrans g0 gw) y.g)).row.el hn.out c _ hp
    simp only at E
    have k0 : ∀ y : Gr wr, y.w.cell? ⟨p, 0, none⟩ = some (.slice (some ⟨g, 0, none⟩) n cap) := fun y => (H.out.kept (gbTrans (gbTrans g0 gw) y.g)).cell
    have e0 := fun y => (E y).1
    have e1 := fun y => (E y).2.1
    have x0 : ∀ y : Gr wr, y.w.cell? ⟨w.heap.size, 0, none⟩ = some (.int .i64 a) := fun y => ((X.kept gw).kept y.g).at0
    have x1 : ∀ y : Gr wr, y.w.cell? ⟨w.heap.size, 1, none⟩ = some (.int .i64 b) := fun y => ((X.kept gw).kept y.g).at1
    by_cases ej : c = j
    · subst ej
      have hs : M.seq p1 p2 a b = true := M.seq_iff.2 (by have := hj.out; rw [hp] at this; simp at this; rw [this.1.1, this.1.2])
      clear hp E
      go_wp2
      refine wp_region_grown (by kernel_rfl) (by kernel_rfl) fun _ => ?_
      repeat (go_big_quiet_step (fail))
      refine wpQuiet_nil ?_
      rintro w2 ⟨⟨_, g2⟩, rfl⟩
      go_wp2
      go_ret
      exact ⟨rfl, gbTrans g0 (gbTrans gw g2)⟩
    · have hs : M.seq p1 p2 a b = false := M.seq_not.2 (hf.out c _ (by omega) hp)
      clear hp E
      go_wp2
      refine wp_region_grown (by kernel_rfl) (by kernel_rfl) fun _ => ?_
      repeat (go_big_quiet_step (fail))
      refine wpQuiet_nil ?_
      rintro w2 ⟨⟨_, g2⟩, rfl⟩
      go_wp2
      go_roundg (gk - 1)
      case rel => exact ⟨c + 1, by omega, by omega, by go_num, gbTrans gw g2⟩
      case measure => omega

set_option maxHeartbeats 1000000 in
theorem rat_no {w : World} {p n cap : Nat} {xo : Option Addr} {L : List Kn} (H : Hid (RA w p (.slice xo n cap) L)) (hn : Hid (L.length = n)) (hn2 : n ≤ 1000) (a b : Int) (hf : Hid (∀ x ∈ L, x.1 ≠ (a, b))) :
    Calls Try.prog 35 #[.pointer (some ⟨p, 0, none⟩), sv a b] w fun e w' => e = .returned (.int .i64 (-1)) ∧ w.grownBy w' none := by
  have qe := eqGuardSlots
  have qq := run_eql_slots
  go_enter Try.func35, Try.ntmps35
  go_upto_region 1 with fail
  obtain ⟨W, hW, X, g0⟩ := sboxNew w a b
  rw [hW]
  clear hW
  go_wp2
  go_loopg [5] n (fun y i wr => ∃ c : Nat, c + y = n ∧ i = .int .i64 c ∧ W.grownBy wr none)
  case atStart => exact ⟨0, by omega, rfl, gbRefl _ _⟩
  case round =>
    obtain ⟨c, hc, rfl, gw⟩ := hrel
    have c0 := (H.out.kept (gbTrans g0 gw)).cell
    by_cases hcn : c < n
    · have hlt' : (c : Int) < (n : Int) := by omega
      obtain ⟨⟨⟨p1, p2⟩, d2⟩, hp⟩ : ∃ q, L[c]? = some q := ⟨_, List.getElem?_eq_getElem (by rw [hn.out]; omega)⟩
      obtain ⟨g, rfl⟩ := H.out.some hn.out hcn
      have E := fun y : Gr wr => (H.out.kept (gbTrans (gbTrans g0 gw) y.g)).row.el hn.out c _ hp
      simp only at E
      have k0 : ∀ y : Gr wr, y.w.cell? ⟨p, 0, none⟩ = some (.slice (some ⟨g, 0, none⟩) n cap) := fun y => (H.out.kept (gbTrans (gbTrans g0 gw) y.g)).cell
      have e0 := fun y => (E y).1
      have e1 := fun y => (E y).2.1
      have x0 : ∀ y : Gr wr, y.w.cell? ⟨w.heap.size, 0, none⟩ = some (.int .i64 a) := fun y => ((X.kept gw).kept y.g).at0
      have x1 : ∀ y : Gr wr, y.w.cell? ⟨w.heap.size, 1, none⟩ = some (.int .i64 b) := fun y => ((X.kept gw).kept y.g).at1
      have hs : M.seq p1 p2 a b = false := M.seq_not.2 (hf.out _ (List.mem_of_getElem? hp))
      clear hp E
      go_wp2
      refine wp_region_grown (by kernel_rfl) (by kernel_rfl) fun _ => ?_
      repeat (go_big_quiet_step (fail))
      refine wpQuiet_nil ?_
      rintro w2 ⟨⟨_, g2⟩, rfl⟩
      go_wp2
      go_roundg (gk - 1)
      case rel => exact ⟨c + 1, by omega, by go_num, gbTrans gw g2⟩
      case measure => omega
    · have hlt' : ¬ (c : Int) < (n : Int) := by omega
      go_wp2
      go_ret
      exact ⟨rfl, gbTrans g0 gw⟩

set_option maxHeartbeats 1000000 in
theorem rend_is {w : World} {p n cap i e : Nat} {xo : Option Addr} {L : List Kn} (H : Hid (RA w p (.slice xo n cap) L)) (hn : Hid (L.length = n)) (hn2 : n ≤ 1000) (s : Int × Int) (j : Nat) (hi : Hid (L[i]? = some (s, j))) (he : i < e) (hen : e ≤ n) (hin : Hid (∀ c x, i < c → c < e → L[c]? = some x → j < x.2)) (hend : Hid (∀ x, L[e]? = some x → x.2 ≤ j)) (hd : Hid (∀ x ∈ L, x.2 ≤ 1000)) :
    Calls Try.prog 37 #[.pointer (some ⟨p, 0, none⟩), .int .i64 i] w fun x w' => x = .returned (.int .i64 e) ∧ w.grownBy w' none := by
  obtain ⟨s1, s2⟩ := s
  have hi1 : i < n := by omega
  obtain ⟨g, rfl⟩ := H.out.some hn.out hi1
  go_enter Try.func37, Try.ntmps37
  go_wp2
  go_loopg [5] (e - (i + 1)) (fun y k wr => ∃ c : Nat, c + y = e ∧ i + 1 ≤ c ∧ c ≤ e ∧ k = .int .i64 c ∧ w.grownBy wr none)
  case atStart => exact ⟨i + 1, by omega, by omega, by omega, by go_num, gbRefl _ _⟩
  case round =>
    obtain ⟨c, hc, hc1, hc2, rfl, gw⟩ := hrel
    have k0 : ∀ y : Gr wr, y.w.cell? ⟨p, 0, none⟩ = some (.slice (some ⟨g, 0, none⟩) n cap) := fun y => (H.out.kept (gbTrans gw y.g)).cell
    have i0 := fun y : Gr wr => ((H.out.kept (gbTrans gw y.g)).row.el hn.out i _ hi.out).2.2
    simp only at i0
    have hil : (i : Int) < (n : Int) := by omega
    by_cases hce : c < e
    · have hlt' : (c : Int) < (n : Int) := by omega
      obtain ⟨⟨⟨p1, p2⟩, d2⟩, hp⟩ : ∃ q, L[c]? = some q := ⟨_, List.getElem?_eq_getElem (by rw [hn.out]; omega)⟩
      have hjd := hin.out c _ (by omega) hce hp
      have e0 := fun y : Gr wr => ((H.out.kept (gbTrans gw y.g)).row.el hn.out c _ hp).2.2
      simp only at e0 hjd
      have q1 : decide ((c : Int) < (n : Int)) = true := decide_eq_true hlt'
      have q2 : decide ((j : Int) < (d2 : Int)) = true := decide_eq_true (by omega)
      have q2' : (j : Int) < (d2 : Int) := by omega
      clear hp
      go_wp2
      refine wp_region_grown (by kernel_rfl) (by kernel_rfl) fun _ => ?_
      repeat (go_big_quiet_step (fail))
      refine wpQuiet_nil ?_
      rintro w2 ⟨⟨_, g2⟩, rfl⟩
      go_wp2
      go_roundg (gk - 1)
      case rel => exact ⟨c + 1, by omega, by omega, by omega, by go_num, gbTrans gw g2⟩
      case measure => omega
    · obtain rfl : c = e := by omega
      by_cases hcn : c < n
      · have hlt' : (c : Int) < (n : Int) := by omega
        obtain ⟨⟨⟨p1, p2⟩, d2⟩, hp⟩ : ∃ q, L[c]? = some q := ⟨_, List.getElem?_eq_getElem (by rw [hn.out]; omega)⟩
        have hjd := hend.out _ hp
        have e0 := fun y : Gr wr => ((H.out.kept (gbTrans gw y.g)).row.el hn.out c _ hp).2.2
        simp only at e0 hjd
        have q1 : decide ((c : Int) < (n : Int)) = true := decide_eq_true hlt'
        have q2 : decide ((j : Int) < (d2 : Int)) = false := decide_eq_false (by omega)
        have q2' : ¬ (j : Int) < (d2 : Int) := by omega
        clear hp
        go_wp2
        refine wp_region_grown (by kernel_rfl) (by kernel_rfl) fun _ => ?_
        repeat (go_big_quiet_step (fail))
        refine wpQuiet_nil ?_
        rintro w2 ⟨⟨_, g2⟩, rfl⟩
        go_wp2
        go_ret
        exact ⟨rfl, gbTrans gw g2⟩
      · have hlt' : ¬ (c : Int) < (n : Int) := by omega
        have q1 : decide ((c : Int) < (n : Int)) = false := decide_eq_false hlt'
        go_wp2
        refine wp_region_grown (by kernel_rfl) (by kernel_rfl) fun _ => ?_
        repeat (go_big_quiet_step (fail))
        refine wpQuiet_nil ?_
        rintro w2 ⟨⟨_, g2⟩, rfl⟩
        go_wp2
        go_ret
        exact ⟨rfl, gbTrans gw g2⟩

set_option maxHeartbeats 1000000 in
theorem rput_row {w : World} {p n cap g i : Nat} {L : List Kn} (H : Hid (RA w p (.slice (some ⟨g, 0, none⟩) n cap) L)) (hn : Hid (L.length = n)) (hn2 : n ≤ 1000) (hi : i ≤ n) (hcap : n ≤ cap) (hci : ¬ cap = i) (a b : Int) (d : Nat) :
    Calls Try.prog 36 #[.pointer (some ⟨p, 0, none⟩), .int .i64 i, .agg #[.int .i64 a, .int .i64 b, .int .i64 d]] w fun e w' => e = .returned (.tuple #[]) ∧ ∃ v', RA w' p v' (L.take i ++ (((a, b), d) :: L.drop i)) ∧ Fr (fun x => x = p) w w' ∧ ∀ g, v'.ownBlock = some g → w.heap.size ≤ g ∧ g < w'.heap.size := by
  have hli : (L.take i).length = i := by rw [List.length_take, hn.out]; omega
  obtain ⟨kk, hkk⟩ : ∃ kk, (L.take i ++ [((a, b), d)] ++ L.drop i).length = kk := ⟨_, rfl⟩
  have Hkk := hideIt hkk
  obtain ⟨m, hm⟩ : ∃ m, n - i = m := ⟨_, rfl⟩
  have Hld : Hid ((L.drop i).length = m) := hideIt (by rw [List.length_drop, hn.out]; exact hm)
  have hic : (i : Int) ≤ (cap : Int) := by omega
  have hin : (i : Int) ≤ (n : Int) := by omega
  clear hkk
  go_enter Try.func36, Try.ntmps36
  go_upto_region 1 with fail
  obtain ⟨W, hW, K0, g0, z0⟩ : ∃ W, w.alloc (.cells #[.int .i64 a, .int .i64 b, .int .i64 d] 36) = W ∧ (W.cell? ⟨w.heap.size, 0, none⟩ = some (.int .i64 a) ∧ W.cell? ⟨w.heap.size, 1, none⟩ = some (.int .i64 b) ∧ W.cell? ⟨w.heap.size, 2, none⟩ = some (.int .i64 d)) ∧ w.grownBy W none ∧ w.heap.size < W.heap.size := ⟨_, rfl, ⟨by simp, by simp, by simp⟩, gbAlloc _ _ _, by simp⟩
  rw [hW]
  clear hW
  have H1 := hideIt (H.out.kept g0)
  have ga := gbAlloc W (.cells #[] 36) none
  have c0 := (H1.out.kept ga).cell
  have HE := hideIt (Lst3.empty W)
  have HF : Hid (∀ ad, some (⟨g, 0, none⟩ : Addr) = some ad → Row3 (W.alloc (.cells #[] 36)) ad (L.take i)) := hideIt (by rintro ad ⟨⟩; exact (H1.out.kept ga).row.front hn.out i)
  have hB : Hid (W.heap.size ≤ (W.alloc (.cells #[] 36)).heap.size) := hideIt (by simp)
  have Hli := hideIt hli
  have Hno1 : Hid (some (⟨g, 0, none⟩ : Addr) = none → i = 0) := hideIt (by simp)
  have hz1 : Hid (([] : List Kn).length + i ≤ 100000) := hideIt (by simp; omega)
  go_upto_region 2 with (at_builtin; refine wpList_append3 rfl (.tmp 7) (.tmp 13) rfl W.heap.size (.slice (some ⟨W.heap.size, 0, none⟩) 0 0) [] rfl HE.out (some (⟨g, 0, none⟩ : Addr)) i cap (L.take i) rfl Hli.out Hno1.out HF.out hz1.out hB.out ?_; intro v1 w1 l1 g1 o1)
  have gg1 : W.grownBy w1 none := gbNew (gbTrans (gbAny ga _) g1) (Nat.le_refl _)
  have HL1 : Hid (Lst3 w1 W.heap.size v1 (L.take i)) := hideIt l1
  have k0 := gg1.cell K0.1 (by simp)
  have k1 := gg1.cell K0.2.1 (by simp)
  have k2 := gg1.cell K0.2.2 (by simp)
  have ga2 := gbAlloc w1 (.cells #[.int .i64 a, .int .i64 b, .int .i64 d] 36) none
  have HL1' := hideIt (HL1.out.kept ga2)
  have HR1 : Hid (∀ ad, some (⟨w1.heap.size, 0, none⟩ : Addr) = some ad → Row3 (w1.alloc (.cells #[.int .i64 a, .int .i64 b, .int .i64 d] 36)) ad [((a, b), d)]) := hideIt (by rintro ad ⟨⟩; exact row3One w1 a b d)
  have hB2 : Hid (W.heap.size ≤ (w1.alloc (.cells #[.int .i64 a, .int .i64 b, .int .i64 d] 36)).heap.size) := hideIt (gbTrans gg1 ga2).size
  have hz2 : Hid ((L.take i).length + 1 ≤ 100000) := hideIt (by rw [Hli.out]; omega)
  have Hno2 : Hid (some (⟨w1.heap.size, 0, none⟩ : Addr) = none → 1 = 0) := hideIt (by simp)
  have hown1 := HL1.out.lt
  clear l1 c0
  go_upto_region 3 with (at_builtin; refine wpList_append3 rfl (.tmp 15) (.tmp 17) rfl W.heap.size v1 (L.take i) rfl HL1'.out (some ⟨w1.heap.size, 0, none⟩) 1 1 [((a, b), d)] rfl rfl Hno2.out HR1.out hz2.out hB2.out ?_; intro v2 w2 l2 g2 o2)
  have gg2 : W.grownBy w2 none := gbNews (gbTrans (gbAny (gbTrans gg1 ga2) _) g2) (fun k e => (hown1 k e).1)
  have HL2 : Hid (Lst3 w2 W.heap.size v2 (L.take i ++ [((a, b), d)])) := hideIt l2
  have H2 := hideIt (H1.out.kept gg2)
  have c2 := H2.out.cell
  have f2 := H2.out.frz
  have hown2 := HL2.out.lt
  have hB3 : Hid (W.heap.size ≤ w2.heap.size) := hideIt gg2.size
  have hz3 : Hid ((L.take i ++ [((a, b), d)]).length + m ≤ 100000) := hideIt (by rw [List.length_append, Hli.out]; simp; omega)
  have Hno3 : Hid (some (⟨g, i * 3, none⟩ : Addr) = none → m = 0) := hideIt (by simp)
  have HR3 : Hid (∀ ad, some (⟨g, i * 3, none⟩ : Addr) = some ad → Row3 w2 ad (L.drop i)) := hideIt (by rintro ad ⟨⟩; exact H2.out.row.back hn.out i)
  clear l2 k0 k1 k2
  go_wp2_with (at_builtin; refine wpList_append3 rfl (.tmp 20) (.tmp 26) rfl W.heap.size v2 (L.take i ++ [((a, b), d)]) rfl HL2.out (some (⟨g, i * 3, none⟩ : Addr)) m (cap - i) (L.drop i) rfl Hld.out Hno3.out HR3.out hz3.out hB3.out ?_; intro v3 w3 l3 g3 o3; have HL3 : Hid (Lst3 w3 W.heap.size v3 (L.take i ++ [((a, b), d)] ++ L.drop i)) := hideIt l3; have gg3 : W.grownBy w3 none := gbNews (gbTrans (gbAny gg2 _) g3) (fun k e => (hown2 k e).1); obtain ⟨x3, y3, rfl⟩ : ∃ x3 y3, v3 = .slice x3 kk y3 := HL3.out.any Hkk.out; have c3 := (H1.out.kept gg3).cell; have f3 := (H1.out.kept gg3).frz; clear l3)
  obtain ⟨T, gT⟩ := H1.out.store gg3 HL3.out.zero (fun g' e => (HL3.out.lt g' e).1)
  refine bodyPost_end (results_none rfl _ _ _) rfl ⟨rfl, .slice x3 kk y3, ?_, ?_, ?_⟩
  · have e : L.take i ++ (((a, b), d) :: L.drop i) = L.take i ++ [((a, b), d)] ++ L.drop i := by simp
    rw [e]; exact T
  · exact (Fr.grown (gbTrans g0 gg3)).trans (Fr.at gT rfl)
  · intro g' hg'
    have h1 := (HL3.out.lt g' hg').1
    have h2 := (HL3.out.lt g' hg').2
    have h3 : (w3.setCell ⟨p, 0, none⟩ (.slice x3 kk y3)).heap.size = w3.heap.size := by simp [World.setCell]
    omega

set_option maxHeartbeats 1000000 in
theorem rput_full {w : World} {p g i : Nat} {L : List Kn} (H : Hid (RA w p (.slice (some ⟨g, 0, none⟩) i i) L)) (hn : Hid (L.length = i)) (hn2 : i ≤ 1000) (a b : Int) (d : Nat) :
    Calls Try.prog 36 #[.pointer (some ⟨p, 0, none⟩), .int .i64 i, .agg #[.int .i64 a, .int .i64 b, .int .i64 d]] w fun e w' => e = .returned (.tuple #[]) ∧ ∃ v', RA w' p v' (L.take i ++ (((a, b), d) :: L.drop i)) ∧ Fr (fun x => x = p) w w' ∧ ∀ g, v'.ownBlock = some g → w.heap.size ≤ g ∧ g < w'.heap.size := by
  have hli : (L.take i).length = i := by rw [List.length_take, hn.out]; omega
  obtain ⟨kk, hkk⟩ : ∃ kk, (L.take i ++ [((a, b), d)] ++ L.drop i).length = kk := ⟨_, rfl⟩
  have Hkk := hideIt hkk
  have Hld : Hid ((L.drop i).length = 0) := hideIt (by rw [List.length_drop, hn.out]; omega)
  clear hkk
  go_enter Try.func36, Try.ntmps36
  go_upto_region 1 with fail
  obtain ⟨W, hW, K0, g0, z0⟩ : ∃ W, w.alloc (.cells #[.int .i64 a, .int .i64 b, .int .i64 d] 36) = W ∧ (W.cell? ⟨w.heap.size, 0, none⟩ = some (.int .i64 a) ∧ W.cell? ⟨w.heap.size, 1, none⟩ = some (.int .i64 b) ∧ W.cell? ⟨w.heap.size, 2, none⟩ = some (.int .i64 d)) ∧ w.grownBy W none ∧ w.heap.size < W.heap.size := ⟨_, rfl, ⟨by simp, by simp, by simp⟩, gbAlloc _ _ _, by simp⟩
  rw [hW]
  clear hW
  have H1 := hideIt (H.out.kept g0)
  have ga := gbAlloc W (.cells #[] 36) none
  have c0 := (H1.out.kept ga).cell
  have HE := hideIt (Lst3.empty W)
  have HF : Hid (∀ ad, some (⟨g, 0, none⟩ : Addr) = some ad → Row3 (W.alloc (.cells #[] 36)) ad (L.take i)) := hideIt (by rintro ad ⟨⟩; exact (H1.out.kept ga).row.front hn.out i)
  have hB : Hid (W.heap.size ≤ (W.alloc (.cells #[] 36)).heap.size) := hideIt (by simp)
  have Hli := hideIt hli
  have Hno1 : Hid (some (⟨g, 0, none⟩ : Addr) = none → i = 0) := hideIt (by simp)
  have hz1 : Hid (([] : List Kn).length + i ≤ 100000) := hideIt (by simp; omega)
  go_upto_region 2 with (at_builtin; refine wpList_append3 rfl (.tmp 7) (.tmp 13) rfl W.heap.size (.slice (some ⟨W.heap.size, 0, none⟩) 0 0) [] rfl HE.out (some (⟨g, 0, none⟩ : Addr)) i i (L.take i) rfl Hli.out Hno1.out HF.out hz1.out hB.out ?_; intro v1 w1 l1 g1 o1)
  have gg1 : W.grownBy w1 none := gbNew (gbTrans (gbAny ga _) g1) (Nat.le_refl _)
  have HL1 : Hid (Lst3 w1 W.heap.size v1 (L.take i)) := hideIt l1
  have k0 := gg1.cell K0.1 (by simp)
  have k1 := gg1.cell K0.2.1 (by simp)
  have k2 := gg1.cell K0.2.2 (by simp)
  have ga2 := gbAlloc w1 (.cells #[.int .i64 a, .int .i64 b, .int .i64 d] 36) none
  have HL1' := hideIt (HL1.out.kept ga2)
  have HR1 : Hid (∀ ad, some (⟨w1.heap.size, 0, none⟩ : Addr) = some ad → Row3 (w1.alloc (.cells #[.int .i64 a, .int .i64 b, .int .i64 d] 36)) ad [((a, b), d)]) := hideIt (by rintro ad ⟨⟩; exact row3One w1 a b d)
  have hB2 : Hid (W.heap.size ≤ (w1.alloc (.cells #[.int .i64 a, .int .i64 b, .int .i64 d] 36)).heap.size) := hideIt (gbTrans gg1 ga2).size
  have hz2 : Hid ((L.take i).length + 1 ≤ 100000) := hideIt (by rw [Hli.out]; omega)
  have Hno2 : Hid (some (⟨w1.heap.size, 0, none⟩ : Addr) = none → 1 = 0) := hideIt (by simp)
  have hown1 := HL1.out.lt
  clear l1 c0
  go_upto_region 3 with (at_builtin; refine wpList_append3 rfl (.tmp 15) (.tmp 17) rfl W.heap.size v1 (L.take i) rfl HL1'.out (some ⟨w1.heap.size, 0, none⟩) 1 1 [((a, b), d)] rfl rfl Hno2.out HR1.out hz2.out hB2.out ?_; intro v2 w2 l2 g2 o2)
  have gg2 : W.grownBy w2 none := gbNews (gbTrans (gbAny (gbTrans gg1 ga2) _) g2) (fun k e => (hown1 k e).1)
  have HL2 : Hid (Lst3 w2 W.heap.size v2 (L.take i ++ [((a, b), d)])) := hideIt l2
  have H2 := hideIt (H1.out.kept gg2)
  have c2 := H2.out.cell
  have f2 := H2.out.frz
  have hown2 := HL2.out.lt
  have hB3 : Hid (W.heap.size ≤ w2.heap.size) := hideIt gg2.size
  have hz3 : Hid ((L.take i ++ [((a, b), d)]).length + 0 ≤ 100000) := hideIt (by rw [List.length_append, Hli.out]; simp; omega)
  have Hno3 : Hid (some (⟨g, 0, none⟩ : Addr) = none → 0 = 0) := hideIt (by simp)
  have HR3 : Hid (∀ ad, some (⟨g, 0, none⟩ : Addr) = some ad → Row3 w2 ad (L.drop i)) := hideIt (by rintro ad ⟨⟩; rw [List.drop_eq_nil_of_le (by rw [hn.out]; exact Nat.le_refl _)]; intro j u hu; simp [cells3] at hu)
  clear l2 k0 k1 k2
  go_wp2_with (at_builtin; refine wpList_append3 rfl (.tmp 20) (.tmp 26) rfl W.heap.size v2 (L.take i ++ [((a, b), d)]) rfl HL2.out (some (⟨g, 0, none⟩ : Addr)) 0 0 (L.drop i) rfl Hld.out Hno3.out HR3.out hz3.out hB3.out ?_; intro v3 w3 l3 g3 o3; have HL3 : Hid (Lst3 w3 W.heap.size v3 (L.take i ++ [((a, b), d)] ++ L.drop i)) := hideIt l3; have gg3 : W.grownBy w3 none := gbNews (gbTrans (gbAny gg2 _) g3) (fun k e => (hown2 k e).1); obtain ⟨x3, y3, rfl⟩ : ∃ x3 y3, v3 = .slice x3 kk y3 := HL3.out.any Hkk.out; have c3 := (H1.out.kept gg3).cell; have f3 := (H1.out.kept gg3).frz; clear l3)
  obtain ⟨T, gT⟩ := H1.out.store gg3 HL3.out.zero (fun g' e => (HL3.out.lt g' e).1)
  refine bodyPost_end (results_none rfl _ _ _) rfl ⟨rfl, .slice x3 kk y3, ?_, ?_, ?_⟩
  · have e : L.take i ++ (((a, b), d) :: L.drop i) = L.take i ++ [((a, b), d)] ++ L.drop i := by simp
    rw [e]; exact T
  · exact (Fr.grown (gbTrans g0 gg3)).trans (Fr.at gT rfl)
  · intro g' hg'
    have h1 := (HL3.out.lt g' hg').1
    have h2 := (HL3.out.lt g' hg').2
    have h3 : (w3.setCell ⟨p, 0, none⟩ (.slice x3 kk y3)).heap.size = w3.heap.size := by simp [World.setCell]
    omega

set_option maxHeartbeats 1000000 in
theorem rput_nil {w : World} {p i : Nat} {L : List Kn} (H : Hid (RA w p (.slice none 0 0) L)) (hL : L = []) (hi : i = 0) (a b : Int) (d : Nat) :
    Calls Try.prog 36 #[.pointer (some ⟨p, 0, none⟩), .int .i64 i, .agg #[.int .i64 a, .int .i64 b, .int .i64 d]] w fun e w' => e = .returned (.tuple #[]) ∧ ∃ v', RA w' p v' (L.take i ++ (((a, b), d) :: L.drop i)) ∧ Fr (fun x => x = p) w w' ∧ ∀ g, v'.ownBlock = some g → w.heap.size ≤ g ∧ g < w'.heap.size := by
  subst hi
  have hli : (L.take 0).length = 0 := rfl
  obtain ⟨kk, hkk⟩ : ∃ kk, (L.take 0 ++ [((a, b), d)] ++ L.drop 0).length = kk := ⟨_, rfl⟩
  have Hkk := hideIt hkk
  have Hld : Hid ((L.drop 0).length = 0) := hideIt (by rw [hL]; rfl)
  clear hkk hL
  go_enter Try.func36, Try.ntmps36
  go_upto_region 1 with fail
  obtain ⟨W, hW, K0, g0, z0⟩ : ∃ W, w.alloc (.cells #[.int .i64 a, .int .i64 b, .int .i64 d] 36) = W ∧ (W.cell? ⟨w.heap.size, 0, none⟩ = some (.int .i64 a) ∧ W.cell? ⟨w.heap.size, 1, none⟩ = some (.int .i64 b) ∧ W.cell? ⟨w.heap.size, 2, none⟩ = some (.int .i64 d)) ∧ w.grownBy W none ∧ w.heap.size < W.heap.size := ⟨_, rfl, ⟨by simp, by simp, by simp⟩, gbAlloc _ _ _, by simp⟩
  rw [hW]
  clear hW
  have H1 := hideIt (H.out.kept g0)
  have ga := gbAlloc W (.cells #[] 36) none
  have c0 := (H1.out.kept ga).cell
  have HE := hideIt (Lst3.empty W)
  have HF : Hid (∀ ad, (none : Option Addr) = some ad → Row3 (W.alloc (.cells #[] 36)) ad (L.take 0)) := hideIt (by simp)
  have hB : Hid (W.heap.size ≤ (W.alloc (.cells #[] 36)).heap.size) := hideIt (by simp)
  have Hli := hideIt hli
  have Hno1 : Hid ((none : Option Addr) = none → 0 = 0) := hideIt (by simp)
  have hz1 : Hid (([] : List Kn).length + 0 ≤ 100000) := hideIt (by simp)
  go_upto_region 2 with (at_builtin; refine wpList_append3 rfl (.tmp 7) (.tmp 13) rfl W.heap.size (.slice (some ⟨W.heap.size, 0, none⟩) 0 0) [] rfl HE.out ((none : Option Addr)) 0 0 (L.take 0) rfl Hli.out Hno1.out HF.out hz1.out hB.out ?_; intro v1 w1 l1 g1 o1)
  have gg1 : W.grownBy w1 none := gbNew (gbTrans (gbAny ga _) g1) (Nat.le_refl _)
  have HL1 : Hid (Lst3 w1 W.heap.size v1 (L.take 0)) := hideIt l1
  have k0 := gg1.cell K0.1 (by simp)
  have k1 := gg1.cell K0.2.1 (by simp)
  have k2 := gg1.cell K0.2.2 (by simp)
  have ga2 := gbAlloc w1 (.cells #[.int .i64 a, .int .i64 b, .int .i64 d] 36) none
  have HL1' := hideIt (HL1.out.kept ga2)
  have HR1 : Hid (∀ ad, some (⟨w1.heap.size, 0, none⟩ : Addr) = some ad → Row3 (w1.alloc (.cells #[.int .i64 a, .int .i64 b, .int .i64 d] 36)) ad [((a, b), d)]) := hideIt (by rintro ad ⟨⟩; exact row3One w1 a b d)
  have hB2 : Hid (W.heap.size ≤ (w1.alloc (.cells #[.int .i64 a, .int .i64 b, .int .i64 d] 36)).heap.size) := hideIt (gbTrans gg1 ga2).size
  have hz2 : Hid ((L.take 0).length + 1 ≤ 100000) := hideIt (by rw [Hli.out]; omega)
  have Hno2 : Hid (some (⟨w1.heap.size, 0, none⟩ : Addr) = none → 1 = 0) := hideIt (by simp)
  have hown1 := HL1.out.lt
  clear l1 c0
  go_upto_region 3 with (at_builtin; refine wpList_append3 rfl (.tmp 15) (.tmp 17) rfl W.heap.size v1 (L.take 0) rfl HL1'.out (some ⟨w1.heap.size, 0, none⟩) 1 1 [((a, b), d)] rfl rfl Hno2.out HR1.out hz2.out hB2.out ?_; intro v2 w2 l2 g2 o2)
  have gg2 : W.grownBy w2 none := gbNews (gbTrans (gbAny (gbTrans gg1 ga2) _) g2) (fun k e => (hown1 k e).1)
  have HL2 : Hid (Lst3 w2 W.heap.size v2 (L.take 0 ++ [((a, b), d)])) := hideIt l2
  have H2 := hideIt (H1.out.kept gg2)
  have c2 := H2.out.cell
  have f2 := H2.out.frz
  have hown2 := HL2.out.lt
  have hB3 : Hid (W.heap.size ≤ w2.heap.size) := hideIt gg2.size
  have hz3 : Hid ((L.take 0 ++ [((a, b), d)]).length + 0 ≤ 100000) := hideIt (by rw [List.length_append, Hli.out]; simp)
  have Hno3 : Hid ((none : Option Addr) = none → 0 = 0) := hideIt (by simp)
  have HR3 : Hid (∀ ad, (none : Option Addr) = some ad → Row3 w2 ad (L.drop 0)) := hideIt (by simp)
  clear l2 k0 k1 k2
  go_wp2_with (at_builtin; refine wpList_append3 rfl (.tmp 20) (.tmp 26) rfl W.heap.size v2 (L.take 0 ++ [((a, b), d)]) rfl HL2.out ((none : Option Addr)) 0 0 (L.drop 0) rfl Hld.out Hno3.out HR3.out hz3.out hB3.out ?_; intro v3 w3 l3 g3 o3; have HL3 : Hid (Lst3 w3 W.heap.size v3 (L.take 0 ++ [((a, b), d)] ++ L.drop 0)) := hideIt l3; have gg3 : W.grownBy w3 none := gbNews (gbTrans (gbAny gg2 _) g3) (fun k e => (hown2 k e).1); obtain ⟨x3, y3, rfl⟩ : ∃ x3 y3, v3 = .slice x3 kk y3 := HL3.out.any Hkk.out; have c3 := (H1.out.kept gg3).cell; have f3 := (H1.out.kept gg3).frz; clear l3)
  obtain ⟨T, gT⟩ := H1.out.store gg3 HL3.out.zero (fun g' e => (HL3.out.lt g' e).1)
  refine bodyPost_end (results_none rfl _ _ _) rfl ⟨rfl, .slice x3 kk y3, ?_, ?_, ?_⟩
  · have e : L.take 0 ++ [((a, b), d)] ++ L.drop 0 = ((a, b), d) :: L := by simp
    rw [e] at T; simpa using T
  · exact (Fr.grown (gbTrans g0 gg3)).trans (Fr.at gT rfl)
  · intro g' hg'
    have h1 := (HL3.out.lt g' hg').1
    have h2 := (HL3.out.lt g' hg').2
    have h3 : (w3.setCell ⟨p, 0, none⟩ (.slice x3 kk y3)).heap.size = w3.heap.size := by simp [World.setCell]
    omega

theorem rput_is {w : World} {p n i : Nat} {v : Value} {L : List Kn} (H : RA w p v L) (hn : L.length = n) (hn2 : n ≤ 1000) (hi : i ≤ n) (a b : Int) (d : Nat) :
    Calls Try.prog 36 #[.pointer (some ⟨p, 0, none⟩), .int .i64 i, .agg #[.int .i64 a, .int .i64 b, .int .i64 d]] w fun e w' => e = .returned (.tuple #[]) ∧ ∃ v', RA w' p v' (L.take i ++ (((a, b), d) :: L.drop i)) ∧ Fr (fun x => x = p) w w' ∧ ∀ g, v'.ownBlock = some g → w.heap.size ≤ g ∧ g < w'.heap.size := by
  rcases H.row.form hn with ⟨rfl, h0⟩ | ⟨g, cap, rfl, hcap⟩
  · exact rput_nil (hideIt H) (List.eq_nil_of_length_eq_zero (hn.trans h0)) (by omega) a b d
  · by_cases hci : cap = i
    · obtain rfl : n = i := by omega
      subst hci
      exact rput_full (hideIt H) (hideIt hn) hn2 a b d
    · exact rput_row (hideIt H) (hideIt hn) hn2 hi hcap hci a b d

end Go.Proofs.Ytboojbnnjbmnoaa
