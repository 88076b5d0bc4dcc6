/-
  THE CONTRACTS of package thread's inner functions own, isBelow, isCaller, isWithinBounds; their answers as plain functions (written by mkown.py).
-/
import Derived.Test.YtaojiojbpkldkaaOps
namespace Go.Proofs.Ytaojiojbpkldkaa
set_option maxRecDepth 10000
open Go.RowKit
set_option linter.unusedVariables false

/-- A thread without what only those in other states have. -/
def M.own (t : T) : T := ⟨t.s, if t.s = 0 ∨ t.s = 1 ∨ t.s = 4 then 0 else t.o, if t.s = 2 then t.b else 0, if t.s = 2 then t.c else false, t.r, t.l, t.d, t.p, t.f⟩
/-- From 0 to below the limit. -/
def M.bel (n m : Int) : Bool := decide (0 ≤ n) && decide (n < m)
/-- Who may wait for an answer. -/
def M.clr (n : Int) : Bool := n == -1 || M.bel n 64
/-- Within bounds. -/
def M.inb (t : T) : Bool := M.bel t.o 64 && decide (t.b < 268435456) && M.clr t.r && M.bel t.l 8 && M.bel t.d 4 && M.bel t.p 4096

theorem below_is (n m : Int) (v : Bool) (h : M.bel n m = v) (w : World) :
    Calls Try.prog 20 #[.int .i64 n, .int .i64 m] w fun e w' => e = .returned (.bool v) ∧ w.grownBy w' none := by
  subst h
  by_cases c1 : 0 ≤ n
  · by_cases c2 : n < m
    · have h : M.bel n m = true := by simp [M.bel, c1, c2]
      rw [h]
      clear h
      go_enter Try.func20, Try.ntmps20
      go_wp2
      go_ret
      exact ⟨rfl, gbRefl _ _⟩
    · have h : M.bel n m = false := by simp [M.bel, c1, c2]
      rw [h]
      clear h
      go_enter Try.func20, Try.ntmps20
      go_wp2
      go_ret
      exact ⟨rfl, gbRefl _ _⟩
  · have h : M.bel n m = false := by simp [M.bel, c1]
    rw [h]
    clear h
    go_enter Try.func20, Try.ntmps20
    go_wp2
    go_ret
    exact ⟨rfl, gbRefl _ _⟩

theorem caller_is (n : Int) (v : Bool) (h : M.clr n = v) (w : World) :
    Calls Try.prog 18 #[.int .i64 n] w fun e w' => e = .returned (.bool v) ∧ w.grownBy w' none := by
  subst h
  by_cases c1 : n = -1
  · have h : M.clr n = true := by simp [M.clr, c1]
    rw [h]
    clear h
    subst c1
    go_enter Try.func18, Try.ntmps18
    go_wp2
    go_ret
    exact ⟨rfl, gbRefl _ _⟩
  · have c2 : (n == -1) = false := by simpa using c1
    have h : M.clr n = M.bel n 64 := by simp [M.clr, c2]
    rw [h]
    clear h c1
    obtain ⟨v, hv⟩ : ∃ v, M.bel n 64 = v := ⟨_, rfl⟩
    rw [hv]
    go_enter Try.func18, Try.ntmps18
    go_wp2_with fail
    refine (below_is n 64 v hv _).mono ?_
    rintro e w1 ⟨rfl, g1⟩
    go_wp2
    go_ret
    exact ⟨rfl, g1⟩

set_option maxHeartbeats 1000000 in
theorem own_0 (t : T) (w : World) (hs : t.s = 0) :
    Calls Try.prog 16 #[.agg (tc t)] w fun e w' => e = .returned (.agg (tc { t with o := 0, b := 0, c := false })) ∧ w.grownBy w' none := by
  go_enter Try.func16, Try.ntmps16
  go_upto_region 1 with (first | (refine wpList_boxT rfl _ rfl rfl ?_; intro W1 x B g1 l1) | (refine wpList_allocT rfl rfl ?_; intro W2 y C g2 l2))
  have xy := apartT B l2
  have ly : w.heap.size ≤ y := Nat.le_trans g1.size l2
  have G := gbTrans g1 g2
  replace B := B.kept g2
  obtain ⟨a0, a1, a2, a3, _, _, _, _, _⟩ := B.eight
  have bf := B.fr
  go_upto_region 6 with fail
  obtain ⟨W3, e3, B3, g3⟩ := B.set1 0
  rw [e3]
  clear e3 a0 a1 a2 a3
  replace C := C.aside g3 (Ne.symm xy)
  replace G := gbNew (gbTrans (gbAny G _) g3) l1
  obtain ⟨a0, a1, a2, a3, _, _, _, _, _⟩ := B3.eight
  have bf := B3.fr
  go_upto_region 8 with fail
  obtain ⟨W4, e4, B4, g4⟩ := B3.set23z
  rw [e4]
  clear e4 a0 a1 a2 a3
  replace C := C.aside g4 (Ne.symm xy)
  replace G := gbNew (gbTrans (gbAny G _) g4) l1
  obtain ⟨a0, a1, a2, a3, _, _, _, _, _⟩ := B4.eight
  have bf := B4.fr
  clear a1 a2 a3 bf
  go_wp2_with (first | (refine wpList_loadT rfl _ rfl rfl B4 ?_) | (refine wpList_storeT rfl _ _ rfl rfl rfl C ?_; intro W9 C9 g9))
  exact bodyPost_ret (results_T Try.results16 rfl C9) rfl ⟨by first | rfl | rw [hs], gbNew (gbTrans (gbAny G _) g9) ly⟩

set_option maxHeartbeats 1000000 in
theorem own_1 (t : T) (w : World) (hs : t.s = 1) :
    Calls Try.prog 16 #[.agg (tc t)] w fun e w' => e = .returned (.agg (tc { t with o := 0, b := 0, c := false })) ∧ w.grownBy w' none := by
  go_enter Try.func16, Try.ntmps16
  go_upto_region 1 with (first | (refine wpList_boxT rfl _ rfl rfl ?_; intro W1 x B g1 l1) | (refine wpList_allocT rfl rfl ?_; intro W2 y C g2 l2))
  have xy := apartT B l2
  have ly : w.heap.size ≤ y := Nat.le_trans g1.size l2
  have G := gbTrans g1 g2
  replace B := B.kept g2
  obtain ⟨a0, a1, a2, a3, _, _, _, _, _⟩ := B.eight
  have bf := B.fr
  go_upto_region 6 with fail
  obtain ⟨W3, e3, B3, g3⟩ := B.set1 0
  rw [e3]
  clear e3 a0 a1 a2 a3
  replace C := C.aside g3 (Ne.symm xy)
  replace G := gbNew (gbTrans (gbAny G _) g3) l1
  obtain ⟨a0, a1, a2, a3, _, _, _, _, _⟩ := B3.eight
  have bf := B3.fr
  go_upto_region 8 with fail
  obtain ⟨W4, e4, B4, g4⟩ := B3.set23z
  rw [e4]
  clear e4 a0 a1 a2 a3
  replace C := C.aside g4 (Ne.symm xy)
  replace G := gbNew (gbTrans (gbAny G _) g4) l1
  obtain ⟨a0, a1, a2, a3, _, _, _, _, _⟩ := B4.eight
  have bf := B4.fr
  clear a1 a2 a3 bf
  go_wp2_with (first | (refine wpList_loadT rfl _ rfl rfl B4 ?_) | (refine wpList_storeT rfl _ _ rfl rfl rfl C ?_; intro W9 C9 g9))
  exact bodyPost_ret (results_T Try.results16 rfl C9) rfl ⟨by first | rfl | rw [hs], gbNew (gbTrans (gbAny G _) g9) ly⟩

set_option maxHeartbeats 1000000 in
theorem own_4 (t : T) (w : World) (hs : t.s = 4) :
    Calls Try.prog 16 #[.agg (tc t)] w fun e w' => e = .returned (.agg (tc { t with o := 0, b := 0, c := false })) ∧ w.grownBy w' none := by
  go_enter Try.func16, Try.ntmps16
  go_upto_region 1 with (first | (refine wpList_boxT rfl _ rfl rfl ?_; intro W1 x B g1 l1) | (refine wpList_allocT rfl rfl ?_; intro W2 y C g2 l2))
  have xy := apartT B l2
  have ly : w.heap.size ≤ y := Nat.le_trans g1.size l2
  have G := gbTrans g1 g2
  replace B := B.kept g2
  obtain ⟨a0, a1, a2, a3, _, _, _, _, _⟩ := B.eight
  have bf := B.fr
  go_upto_region 6 with fail
  obtain ⟨W3, e3, B3, g3⟩ := B.set1 0
  rw [e3]
  clear e3 a0 a1 a2 a3
  replace C := C.aside g3 (Ne.symm xy)
  replace G := gbNew (gbTrans (gbAny G _) g3) l1
  obtain ⟨a0, a1, a2, a3, _, _, _, _, _⟩ := B3.eight
  have bf := B3.fr
  go_upto_region 8 with fail
  obtain ⟨W4, e4, B4, g4⟩ := B3.set23z
  rw [e4]
  clear e4 a0 a1 a2 a3
  replace C := C.aside g4 (Ne.symm xy)
  replace G := gbNew (gbTrans (gbAny G _) g4) l1
  obtain ⟨a0, a1, a2, a3, _, _, _, _, _⟩ := B4.eight
  have bf := B4.fr
  clear a1 a2 a3 bf
  go_wp2_with (first | (refine wpList_loadT rfl _ rfl rfl B4 ?_) | (refine wpList_storeT rfl _ _ rfl rfl rfl C ?_; intro W9 C9 g9))
  exact bodyPost_ret (results_T Try.results16 rfl C9) rfl ⟨by first | rfl | rw [hs], gbNew (gbTrans (gbAny G _) g9) ly⟩

set_option maxHeartbeats 1000000 in
theorem own_2 (t : T) (w : World) (hs : t.s = 2) :
    Calls Try.prog 16 #[.agg (tc t)] w fun e w' => e = .returned (.agg (tc t)) ∧ w.grownBy w' none := by
  go_enter Try.func16, Try.ntmps16
  go_upto_region 1 with (first | (refine wpList_boxT rfl _ rfl rfl ?_; intro W1 x B g1 l1) | (refine wpList_allocT rfl rfl ?_; intro W2 y C g2 l2))
  have xy := apartT B l2
  have ly : w.heap.size ≤ y := Nat.le_trans g1.size l2
  have G := gbTrans g1 g2
  replace B := B.kept g2
  obtain ⟨a0, a1, a2, a3, _, _, _, _, _⟩ := B.eight
  have bf := B.fr
  clear a1 a2 a3 bf
  go_wp2_with (first | (refine wpList_loadT rfl _ rfl rfl B ?_) | (refine wpList_storeT rfl _ _ rfl rfl rfl C ?_; intro W9 C9 g9))
  exact bodyPost_ret (results_T Try.results16 rfl C9) rfl ⟨by first | rfl | rw [hs], gbNew (gbTrans (gbAny G _) g9) ly⟩

set_option maxHeartbeats 1000000 in
theorem own_no (t : T) (w : World) (h0 : (t.s == 0) = false) (h1 : (t.s == 1) = false) (h4 : (t.s == 4) = false) (h2 : (t.s == 2) = false) :
    Calls Try.prog 16 #[.agg (tc t)] w fun e w' => e = .returned (.agg (tc { t with b := 0, c := false })) ∧ w.grownBy w' none := by
  go_enter Try.func16, Try.ntmps16
  go_upto_region 1 with (first | (refine wpList_boxT rfl _ rfl rfl ?_; intro W1 x B g1 l1) | (refine wpList_allocT rfl rfl ?_; intro W2 y C g2 l2))
  have xy := apartT B l2
  have ly : w.heap.size ≤ y := Nat.le_trans g1.size l2
  have G := gbTrans g1 g2
  replace B := B.kept g2
  obtain ⟨a0, a1, a2, a3, _, _, _, _, _⟩ := B.eight
  have bf := B.fr
  go_upto_region 8 with fail
  obtain ⟨W4, e4, B4, g4⟩ := B.set23z
  rw [e4]
  clear e4 a0 a1 a2 a3
  replace C := C.aside g4 (Ne.symm xy)
  replace G := gbNew (gbTrans (gbAny G _) g4) l1
  obtain ⟨a0, a1, a2, a3, _, _, _, _, _⟩ := B4.eight
  have bf := B4.fr
  clear a1 a2 a3 bf
  go_wp2_with (first | (refine wpList_loadT rfl _ rfl rfl B4 ?_) | (refine wpList_storeT rfl _ _ rfl rfl rfl C ?_; intro W9 C9 g9))
  exact bodyPost_ret (results_T Try.results16 rfl C9) rfl ⟨by first | rfl | rw [hs], gbNew (gbTrans (gbAny G _) g9) ly⟩

theorem own_is (t u : T) (h : M.own t = u) (w : World) :
    Calls Try.prog 16 #[.agg (tc t)] w fun e w' => e = .returned (.agg (tc u)) ∧ w.grownBy w' none := by
  subst h
  by_cases h0 : t.s = 0
  · have e : M.own t = { t with o := 0, b := 0, c := false } := by simp [M.own, h0]
    rw [e]; exact own_0 t w h0
  by_cases h1 : t.s = 1
  · have e : M.own t = { t with o := 0, b := 0, c := false } := by simp [M.own, h1]
    rw [e]; exact own_1 t w h1
  by_cases h4 : t.s = 4
  · have e : M.own t = { t with o := 0, b := 0, c := false } := by simp [M.own, h4]
    rw [e]; exact own_4 t w h4
  by_cases h2 : t.s = 2
  · have e : M.own t = t := by simp [M.own, h2]; rw [← h2]
    rw [e]; exact own_2 t w h2
  · have e : M.own t = { t with b := 0, c := false } := by simp [M.own, h0, h1, h2, h4]
    rw [e]; exact own_no t w (by simpa using h0) (by simpa using h1) (by simpa using h4) (by simpa using h2)

set_option maxHeartbeats 1000000 in
theorem within_0 (t : T) (hb : t.b < 18446744073709551616) (w : World) (h0 : M.bel t.o 64 = false) :
    Calls Try.prog 19 #[.agg (tc t)] w fun e w' => e = .returned (.bool false) ∧ w.grownBy w' none := by
  go_enter Try.func19, Try.ntmps19
  go_upto_region 1 with (refine wpList_boxT rfl _ rfl rfl ?_; intro W1 x B G l1)
  obtain ⟨_, a1, a2, _, a4, a5, a6, a7, _⟩ := B.eight
  go_wp2_with fail
  refine (below_is t.o 64 _ h0 _).mono ?_
  rintro e w2 ⟨rfl, g2⟩
  replace G := gbTrans G g2
  replace B := B.kept g2
  clear a1 a2 a4 a5 a6 a7
  obtain ⟨_, a1, a2, _, a4, a5, a6, a7, _⟩ := B.eight
  go_wp2
  go_ret
  exact ⟨rfl, G⟩

set_option maxHeartbeats 1000000 in
theorem within_1 (t : T) (hb : t.b < 18446744073709551616) (w : World) (h0 : M.bel t.o 64 = true) (h1 : ¬ t.b < 268435456) :
    Calls Try.prog 19 #[.agg (tc t)] w fun e w' => e = .returned (.bool false) ∧ w.grownBy w' none := by
  replace h1 : ((t.b : Int) / 268435456 == 0) = false := by simp only [beq_eq_false_iff_ne]; omega
  go_enter Try.func19, Try.ntmps19
  go_upto_region 1 with (refine wpList_boxT rfl _ rfl rfl ?_; intro W1 x B G l1)
  obtain ⟨_, a1, a2, _, a4, a5, a6, a7, _⟩ := B.eight
  go_wp2_with fail
  refine (below_is t.o 64 _ h0 _).mono ?_
  rintro e w2 ⟨rfl, g2⟩
  replace G := gbTrans G g2
  replace B := B.kept g2
  clear a1 a2 a4 a5 a6 a7
  obtain ⟨_, a1, a2, _, a4, a5, a6, a7, _⟩ := B.eight
  go_wp2
  go_ret
  exact ⟨rfl, G⟩

set_option maxHeartbeats 1000000 in
theorem within_2 (t : T) (hb : t.b < 18446744073709551616) (w : World) (h0 : M.bel t.o 64 = true) (h1 : t.b < 268435456) (h2 : M.clr t.r = false) :
    Calls Try.prog 19 #[.agg (tc t)] w fun e w' => e = .returned (.bool false) ∧ w.grownBy w' none := by
  replace h1 : (t.b : Int) / 268435456 = 0 := by omega
  go_enter Try.func19, Try.ntmps19
  go_upto_region 1 with (refine wpList_boxT rfl _ rfl rfl ?_; intro W1 x B G l1)
  obtain ⟨_, a1, a2, _, a4, a5, a6, a7, _⟩ := B.eight
  go_wp2_with fail
  refine (below_is t.o 64 _ h0 _).mono ?_
  rintro e w2 ⟨rfl, g2⟩
  replace G := gbTrans G g2
  replace B := B.kept g2
  clear a1 a2 a4 a5 a6 a7
  obtain ⟨_, a1, a2, _, a4, a5, a6, a7, _⟩ := B.eight
  go_wp2_with fail
  refine (caller_is t.r _ h2 _).mono ?_
  rintro e w4 ⟨rfl, g4⟩
  replace G := gbTrans G g4
  replace B := B.kept g4
  clear a1 a2 a4 a5 a6 a7
  obtain ⟨_, a1, a2, _, a4, a5, a6, a7, _⟩ := B.eight
  go_wp2
  go_ret
  exact ⟨rfl, G⟩

set_option maxHeartbeats 1000000 in
theorem within_3 (t : T) (hb : t.b < 18446744073709551616) (w : World) (h0 : M.bel t.o 64 = true) (h1 : t.b < 268435456) (h2 : M.clr t.r = true) (h3 : M.bel t.l 8 = false) :
    Calls Try.prog 19 #[.agg (tc t)] w fun e w' => e = .returned (.bool false) ∧ w.grownBy w' none := by
  replace h1 : (t.b : Int) / 268435456 = 0 := by omega
  go_enter Try.func19, Try.ntmps19
  go_upto_region 1 with (refine wpList_boxT rfl _ rfl rfl ?_; intro W1 x B G l1)
  obtain ⟨_, a1, a2, _, a4, a5, a6, a7, _⟩ := B.eight
  go_wp2_with fail
  refine (below_is t.o 64 _ h0 _).mono ?_
  rintro e w2 ⟨rfl, g2⟩
  replace G := gbTrans G g2
  replace B := B.kept g2
  clear a1 a2 a4 a5 a6 a7
  obtain ⟨_, a1, a2, _, a4, a5, a6, a7, _⟩ := B.eight
  go_wp2_with fail
  refine (caller_is t.r _ h2 _).mono ?_
  rintro e w4 ⟨rfl, g4⟩
  replace G := gbTrans G g4
  replace B := B.kept g4
  clear a1 a2 a4 a5 a6 a7
  obtain ⟨_, a1, a2, _, a4, a5, a6, a7, _⟩ := B.eight
  go_wp2_with fail
  refine (below_is t.l 8 _ h3 _).mono ?_
  rintro e w5 ⟨rfl, g5⟩
  replace G := gbTrans G g5
  replace B := B.kept g5
  clear a1 a2 a4 a5 a6 a7
  obtain ⟨_, a1, a2, _, a4, a5, a6, a7, _⟩ := B.eight
  go_wp2
  go_ret
  exact ⟨rfl, G⟩

set_option maxHeartbeats 1000000 in
theorem within_4 (t : T) (hb : t.b < 18446744073709551616) (w : World) (h0 : M.bel t.o 64 = true) (h1 : t.b < 268435456) (h2 : M.clr t.r = true) (h3 : M.bel t.l 8 = true) (h4 : M.bel t.d 4 = false) :
    Calls Try.prog 19 #[.agg (tc t)] w fun e w' => e = .returned (.bool false) ∧ w.grownBy w' none := by
  replace h1 : (t.b : Int) / 268435456 = 0 := by omega
  go_enter Try.func19, Try.ntmps19
  go_upto_region 1 with (refine wpList_boxT rfl _ rfl rfl ?_; intro W1 x B G l1)
  obtain ⟨_, a1, a2, _, a4, a5, a6, a7, _⟩ := B.eight
  go_wp2_with fail
  refine (below_is t.o 64 _ h0 _).mono ?_
  rintro e w2 ⟨rfl, g2⟩
  replace G := gbTrans G g2
  replace B := B.kept g2
  clear a1 a2 a4 a5 a6 a7
  obtain ⟨_, a1, a2, _, a4, a5, a6, a7, _⟩ := B.eight
  go_wp2_with fail
  refine (caller_is t.r _ h2 _).mono ?_
  rintro e w4 ⟨rfl, g4⟩
  replace G := gbTrans G g4
  replace B := B.kept g4
  clear a1 a2 a4 a5 a6 a7
  obtain ⟨_, a1, a2, _, a4, a5, a6, a7, _⟩ := B.eight
  go_wp2_with fail
  refine (below_is t.l 8 _ h3 _).mono ?_
  rintro e w5 ⟨rfl, g5⟩
  replace G := gbTrans G g5
  replace B := B.kept g5
  clear a1 a2 a4 a5 a6 a7
  obtain ⟨_, a1, a2, _, a4, a5, a6, a7, _⟩ := B.eight
  go_wp2_with fail
  refine (below_is t.d 4 _ h4 _).mono ?_
  rintro e w6 ⟨rfl, g6⟩
  replace G := gbTrans G g6
  replace B := B.kept g6
  clear a1 a2 a4 a5 a6 a7
  obtain ⟨_, a1, a2, _, a4, a5, a6, a7, _⟩ := B.eight
  go_wp2
  go_ret
  exact ⟨rfl, G⟩

set_option maxHeartbeats 1000000 in
theorem within_5 (t : T) (hb : t.b < 18446744073709551616) (w : World) (h0 : M.bel t.o 64 = true) (h1 : t.b < 268435456) (h2 : M.clr t.r = true) (h3 : M.bel t.l 8 = true) (h4 : M.bel t.d 4 = true) (h5 : M.bel t.p 4096 = false) :
    Calls Try.prog 19 #[.agg (tc t)] w fun e w' => e = .returned (.bool false) ∧ w.grownBy w' none := by
  replace h1 : (t.b : Int) / 268435456 = 0 := by omega
  go_enter Try.func19, Try.ntmps19
  go_upto_region 1 with (refine wpList_boxT rfl _ rfl rfl ?_; intro W1 x B G l1)
  obtain ⟨_, a1, a2, _, a4, a5, a6, a7, _⟩ := B.eight
  go_wp2_with fail
  refine (below_is t.o 64 _ h0 _).mono ?_
  rintro e w2 ⟨rfl, g2⟩
  replace G := gbTrans G g2
  replace B := B.kept g2
  clear a1 a2 a4 a5 a6 a7
  obtain ⟨_, a1, a2, _, a4, a5, a6, a7, _⟩ := B.eight
  go_wp2_with fail
  refine (caller_is t.r _ h2 _).mono ?_
  rintro e w4 ⟨rfl, g4⟩
  replace G := gbTrans G g4
  replace B := B.kept g4
  clear a1 a2 a4 a5 a6 a7
  obtain ⟨_, a1, a2, _, a4, a5, a6, a7, _⟩ := B.eight
  go_wp2_with fail
  refine (below_is t.l 8 _ h3 _).mono ?_
  rintro e w5 ⟨rfl, g5⟩
  replace G := gbTrans G g5
  replace B := B.kept g5
  clear a1 a2 a4 a5 a6 a7
  obtain ⟨_, a1, a2, _, a4, a5, a6, a7, _⟩ := B.eight
  go_wp2_with fail
  refine (below_is t.d 4 _ h4 _).mono ?_
  rintro e w6 ⟨rfl, g6⟩
  replace G := gbTrans G g6
  replace B := B.kept g6
  clear a1 a2 a4 a5 a6 a7
  obtain ⟨_, a1, a2, _, a4, a5, a6, a7, _⟩ := B.eight
  go_wp2_with fail
  refine (below_is t.p 4096 _ h5 _).mono ?_
  rintro e w7 ⟨rfl, g7⟩
  replace G := gbTrans G g7
  replace B := B.kept g7
  clear a1 a2 a4 a5 a6 a7
  obtain ⟨_, a1, a2, _, a4, a5, a6, a7, _⟩ := B.eight
  go_wp2
  go_ret
  exact ⟨rfl, G⟩

set_option maxHeartbeats 1000000 in
theorem within_6 (t : T) (hb : t.b < 18446744073709551616) (w : World) (h0 : M.bel t.o 64 = true) (h1 : t.b < 268435456) (h2 : M.clr t.r = true) (h3 : M.bel t.l 8 = true) (h4 : M.bel t.d 4 = true) (h5 : M.bel t.p 4096 = true) :
    Calls Try.prog 19 #[.agg (tc t)] w fun e w' => e = .returned (.bool true) ∧ w.grownBy w' none := by
  replace h1 : (t.b : Int) / 268435456 = 0 := by omega
  go_enter Try.func19, Try.ntmps19
  go_upto_region 1 with (refine wpList_boxT rfl _ rfl rfl ?_; intro W1 x B G l1)
  obtain ⟨_, a1, a2, _, a4, a5, a6, a7, _⟩ := B.eight
  go_wp2_with fail
  refine (below_is t.o 64 _ h0 _).mono ?_
  rintro e w2 ⟨rfl, g2⟩
  replace G := gbTrans G g2
  replace B := B.kept g2
  clear a1 a2 a4 a5 a6 a7
  obtain ⟨_, a1, a2, _, a4, a5, a6, a7, _⟩ := B.eight
  go_wp2_with fail
  refine (caller_is t.r _ h2 _).mono ?_
  rintro e w4 ⟨rfl, g4⟩
  replace G := gbTrans G g4
  replace B := B.kept g4
  clear a1 a2 a4 a5 a6 a7
  obtain ⟨_, a1, a2, _, a4, a5, a6, a7, _⟩ := B.eight
  go_wp2_with fail
  refine (below_is t.l 8 _ h3 _).mono ?_
  rintro e w5 ⟨rfl, g5⟩
  replace G := gbTrans G g5
  replace B := B.kept g5
  clear a1 a2 a4 a5 a6 a7
  obtain ⟨_, a1, a2, _, a4, a5, a6, a7, _⟩ := B.eight
  go_wp2_with fail
  refine (below_is t.d 4 _ h4 _).mono ?_
  rintro e w6 ⟨rfl, g6⟩
  replace G := gbTrans G g6
  replace B := B.kept g6
  clear a1 a2 a4 a5 a6 a7
  obtain ⟨_, a1, a2, _, a4, a5, a6, a7, _⟩ := B.eight
  go_wp2_with fail
  refine (below_is t.p 4096 _ h5 _).mono ?_
  rintro e w7 ⟨rfl, g7⟩
  replace G := gbTrans G g7
  replace B := B.kept g7
  clear a1 a2 a4 a5 a6 a7
  obtain ⟨_, a1, a2, _, a4, a5, a6, a7, _⟩ := B.eight
  go_wp2
  go_ret
  exact ⟨rfl, G⟩

theorem within_is (t : T) (hb : t.b < 18446744073709551616) (v : Bool) (h : M.inb t = v) (w : World) :
    Calls Try.prog 19 #[.agg (tc t)] w fun e w' => e = .returned (.bool v) ∧ w.grownBy w' none := by
  subst h
  cases h0 : M.bel t.o 64
  · rw [show M.inb t = false by simp [M.inb, h0]]; exact within_0 t hb w h0
  by_cases h1 : t.b < 268435456
  · cases h2 : M.clr t.r
    · rw [show M.inb t = false by simp [M.inb, h2]]; exact within_2 t hb w h0 h1 h2
    cases h3 : M.bel t.l 8
    · rw [show M.inb t = false by simp [M.inb, h3]]; exact within_3 t hb w h0 h1 h2 h3
    cases h4 : M.bel t.d 4
    · rw [show M.inb t = false by simp [M.inb, h4]]; exact within_4 t hb w h0 h1 h2 h3 h4
    cases h5 : M.bel t.p 4096
    · rw [show M.inb t = false by simp [M.inb, h5]]; exact within_5 t hb w h0 h1 h2 h3 h4 h5
    · rw [show M.inb t = true by simp [M.inb, h0, h1, h2, h3, h4, h5]]; exact within_6 t hb w h0 h1 h2 h3 h4 h5
  · rw [show M.inb t = false by simp [M.inb, h1]]; exact within_1 t hb w h0 h1
end Go.Proofs.Ytaojiojbpkldkaa
