/-
  THE CONTRACTS of package thread's New, Start, Stop, Block, Wake, Ask; their answers as plain functions (written by mkchk.py).
-/
import Derived.Test.YtaojiojbpkldkaaChk
namespace Go.Proofs.Ytaojiojbpkldkaa
set_option maxRecDepth 10000
open Go.RowKit
set_option linter.unusedVariables false

/-- One that is inactive. -/
def tn (l d : Int) : T := ⟨0, 0, 0, false, -1, l, d, 0, nil8⟩
def M.nw (l d : Int) : T × Int := if M.ck (tn l d) = 0 then (tn l d, 0) else (T0, 1)
def M.st (t : T) : T × Int := if M.ck t = 0 then (if t.s = 0 then ({ t with s := 1 }, 0) else (T0, 8)) else (T0, M.ck t)
def M.sp (t : T) : T := M.own { t with s := 0 }
def M.bl (t : T) (s o : Int) (b : Nat) (c : Bool) : T × Int :=
  if M.ck t = 0 then (if t.s = 1 then (if M.cw { t with s := s, o := o, b := b, c := c } = 0 then ({ t with s := s, o := o, b := b, c := c }, 0) else (T0, M.cw { t with s := s, o := o, b := b, c := c })) else (T0, 8)) else (T0, M.ck t)
def M.wk (t : T) (f : Nat → Int) : T × Int := if M.cw t = 0 then (M.own { t with s := 1, f := f }, 0) else (T0, M.cw t)
def M.ak (t : T) (r : Int) : T × Int := if M.ck t = 0 then (if M.clr r then (if r = -1 ∨ t.r = -1 then ({ t with r := r }, 0) else (T0, 4)) else (T0, 1)) else (T0, M.ck t)

set_option maxHeartbeats 1000000 in
theorem start_no (t : T) (v : Int) (hne : (v != 0) = true) (HC : ∀ w, Calls Try.prog 14 #[.agg (tc t)] w fun e w' => e = .returned (.int .i64 v) ∧ w.grownBy w' none) (w : World) :
    Calls Try.prog 9 #[.agg (tc t)] w fun e w' => e = .returned (.tuple #[.agg (tc T0), .int .i64 v]) ∧ w.grownBy w' none := by
  go_enter Try.func9, Try.ntmps9
  go_upto_region 1 with (first | (refine wpList_boxT rfl _ rfl rfl ?_; intro W1 x B g1 l1) | (refine wpList_allocT rfl rfl ?_; intro W2 y C g2 l2))
  have xy := apartT B l2
  have ly : w.heap.size ≤ y := Nat.le_trans g1.size l2
  have G := gbTrans g1 g2
  replace B := B.kept g2
  clear g1 g2 l2
  go_wp2_with (refine wpList_loadT rfl _ rfl rfl B ?_)
  refine (HC _).mono ?_
  rintro e w3 ⟨rfl, g3⟩
  replace B := B.kept g3
  replace C := C.kept g3
  replace G := gbTrans G g3
  clear g3
  go_wp2_with (first | (refine wpList_nilT rfl rfl ?_) | (refine wpList_loadT rfl _ rfl rfl B ?_) | (refine wpList_storeT rfl _ _ rfl rfl rfl C ?_; intro W9 C9 g9))
  exact bodyPost_ret (results_Te Try.results9 rfl rfl C9) rfl ⟨rfl, gbNew (gbTrans (gbAny G _) g9) ly⟩

set_option maxHeartbeats 1000000 in
theorem start_st (t : T) (hs : (t.s != 0) = true) (HC : ∀ w, Calls Try.prog 14 #[.agg (tc t)] w fun e w' => e = .returned (.int .i64 0) ∧ w.grownBy w' none) (w : World) :
    Calls Try.prog 9 #[.agg (tc t)] w fun e w' => e = .returned (.tuple #[.agg (tc T0), .int .i64 8]) ∧ w.grownBy w' none := by
  go_enter Try.func9, Try.ntmps9
  go_upto_region 1 with (first | (refine wpList_boxT rfl _ rfl rfl ?_; intro W1 x B g1 l1) | (refine wpList_allocT rfl rfl ?_; intro W2 y C g2 l2))
  have xy := apartT B l2
  have ly : w.heap.size ≤ y := Nat.le_trans g1.size l2
  have G := gbTrans g1 g2
  replace B := B.kept g2
  clear g1 g2 l2
  go_wp2_with (refine wpList_loadT rfl _ rfl rfl B ?_)
  refine (HC _).mono ?_
  rintro e w3 ⟨rfl, g3⟩
  replace B := B.kept g3
  replace C := C.kept g3
  replace G := gbTrans G g3
  clear g3
  have a0 := B.eight.at0
  go_wp2_with (first | (refine wpList_nilT rfl rfl ?_) | (refine wpList_loadT rfl _ rfl rfl B ?_) | (refine wpList_storeT rfl _ _ rfl rfl rfl C ?_; intro W9 C9 g9))
  exact bodyPost_ret (results_Te Try.results9 rfl rfl C9) rfl ⟨rfl, gbNew (gbTrans (gbAny G _) g9) ly⟩

set_option maxHeartbeats 1000000 in
theorem start_yes (t : T) (hs : t.s = 0) (HC : ∀ w, Calls Try.prog 14 #[.agg (tc t)] w fun e w' => e = .returned (.int .i64 0) ∧ w.grownBy w' none) (w : World) :
    Calls Try.prog 9 #[.agg (tc t)] w fun e w' => e = .returned (.tuple #[.agg (tc { t with s := 1 }), .int .i64 0]) ∧ w.grownBy w' none := by
  go_enter Try.func9, Try.ntmps9
  go_upto_region 1 with (first | (refine wpList_boxT rfl _ rfl rfl ?_; intro W1 x B g1 l1) | (refine wpList_allocT rfl rfl ?_; intro W2 y C g2 l2))
  have xy := apartT B l2
  have ly : w.heap.size ≤ y := Nat.le_trans g1.size l2
  have G := gbTrans g1 g2
  replace B := B.kept g2
  clear g1 g2 l2
  go_wp2_with (refine wpList_loadT rfl _ rfl rfl B ?_)
  refine (HC _).mono ?_
  rintro e w3 ⟨rfl, g3⟩
  replace B := B.kept g3
  replace C := C.kept g3
  replace G := gbTrans G g3
  clear g3
  have bf := B.fr
  have a0 := B.eight.at0
  go_upto_region 7 with fail
  obtain ⟨W5, e5, B5, g5⟩ := B.set0 1
  rw [e5]
  clear e5 bf a0
  replace C := C.aside g5 (Ne.symm xy)
  replace G := gbNew (gbTrans (gbAny G _) g5) l1
  clear g5
  go_wp2_with (first | (refine wpList_nilT rfl rfl ?_) | (refine wpList_loadT rfl _ rfl rfl B5 ?_) | (refine wpList_storeT rfl _ _ rfl rfl rfl C ?_; intro W9 C9 g9))
  exact bodyPost_ret (results_Te Try.results9 rfl rfl C9) rfl ⟨rfl, gbNew (gbTrans (gbAny G _) g9) ly⟩

theorem start_is (t u : T) (v : Int) (hb : t.b < 18446744073709551616) (h : M.st t = (u, v)) (w : World) :
    Calls Try.prog 9 #[.agg (tc t)] w fun e w' => e = .returned (.tuple #[.agg (tc u), .int .i64 v]) ∧ w.grownBy w' none := by
  unfold M.st at h
  by_cases c : M.ck t = 0
  · rw [if_pos c] at h
    by_cases c0 : t.s = 0
    · rw [if_pos c0] at h; cases h; exact start_yes t c0 (check_is t hb 0 c) w
    · rw [if_neg c0] at h; cases h; exact start_st t (by simpa using c0) (check_is t hb 0 c) w
  · rw [if_neg c] at h; cases h; exact start_no t _ (by simpa using c) (check_is t hb _ rfl) w

set_option maxHeartbeats 1000000 in
theorem stop_is (t u : T) (h : M.sp t = u) (w : World) :
    Calls Try.prog 10 #[.agg (tc t)] w fun e w' => e = .returned (.agg (tc u)) ∧ w.grownBy w' none := by
  have HO := own_is { t with s := 0 } u h
  go_enter Try.func10, Try.ntmps10
  go_upto_region 1 with (first | (refine wpList_boxT rfl _ rfl rfl ?_; intro W1 x B g1 l1) | (refine wpList_allocT rfl rfl ?_; intro W2 y C g2 l2))
  have xy := apartT B l2
  have ly : w.heap.size ≤ y := Nat.le_trans g1.size l2
  have G := gbTrans g1 g2
  replace B := B.kept g2
  clear g1 g2 l2
  have bf := B.fr
  have a0 := B.eight.at0
  go_upto_region 2 with fail
  obtain ⟨W5, e5, B5, g5⟩ := B.set0 0
  rw [e5]
  clear e5 bf a0
  replace C := C.aside g5 (Ne.symm xy)
  replace G := gbNew (gbTrans (gbAny G _) g5) l1
  clear g5
  replace B := B5
  go_wp2_with (refine wpList_loadT rfl _ rfl rfl B ?_)
  refine (HO _).mono ?_
  rintro e w3 ⟨rfl, g3⟩
  replace B := B.kept g3
  replace C := C.kept g3
  replace G := gbTrans G g3
  clear g3
  go_wp2_with (refine wpList_storeT rfl _ _ rfl rfl rfl C ?_; intro W9 C9 g9)
  exact bodyPost_ret (results_T Try.results10 rfl C9) rfl ⟨rfl, gbNew (gbTrans (gbAny G _) g9) ly⟩

set_option maxHeartbeats 1000000 in
theorem ask_no (t : T) (r v : Int) (hne : (v != 0) = true) (HC : ∀ w, Calls Try.prog 14 #[.agg (tc t)] w fun e w' => e = .returned (.int .i64 v) ∧ w.grownBy w' none) (w : World) :
    Calls Try.prog 13 #[.agg (tc t), .int .i64 r] w fun e w' => e = .returned (.tuple #[.agg (tc T0), .int .i64 v]) ∧ w.grownBy w' none := by
  go_enter Try.func13, Try.ntmps13
  go_upto_region 1 with (first | (refine wpList_boxT rfl _ rfl rfl ?_; intro W1 x B g1 l1) | (refine wpList_allocT rfl rfl ?_; intro W2 y C g2 l2))
  have xy := apartT B l2
  have ly : w.heap.size ≤ y := Nat.le_trans g1.size l2
  have G := gbTrans g1 g2
  replace B := B.kept g2
  clear g1 g2 l2
  go_wp2_with (refine wpList_loadT rfl _ rfl rfl B ?_)
  refine (HC _).mono ?_
  rintro e w3 ⟨rfl, g3⟩
  replace B := B.kept g3
  replace C := C.kept g3
  replace G := gbTrans G g3
  clear g3
  go_wp2_with (first | (refine wpList_nilT rfl rfl ?_) | (refine wpList_loadT rfl _ rfl rfl B ?_) | (refine wpList_storeT rfl _ _ rfl rfl rfl C ?_; intro W9 C9 g9))
  exact bodyPost_ret (results_Te Try.results13 rfl rfl C9) rfl ⟨rfl, gbNew (gbTrans (gbAny G _) g9) ly⟩

set_option maxHeartbeats 1000000 in
theorem ask_range (t : T) (r : Int) (HC : ∀ w, Calls Try.prog 14 #[.agg (tc t)] w fun e w' => e = .returned (.int .i64 0) ∧ w.grownBy w' none) (HB : ∀ w, Calls Try.prog 18 #[.int .i64 r] w fun e w' => e = .returned (.bool false) ∧ w.grownBy w' none) (w : World) :
    Calls Try.prog 13 #[.agg (tc t), .int .i64 r] w fun e w' => e = .returned (.tuple #[.agg (tc T0), .int .i64 1]) ∧ w.grownBy w' none := by
  go_enter Try.func13, Try.ntmps13
  go_upto_region 1 with (first | (refine wpList_boxT rfl _ rfl rfl ?_; intro W1 x B g1 l1) | (refine wpList_allocT rfl rfl ?_; intro W2 y C g2 l2))
  have xy := apartT B l2
  have ly : w.heap.size ≤ y := Nat.le_trans g1.size l2
  have G := gbTrans g1 g2
  replace B := B.kept g2
  clear g1 g2 l2
  go_wp2_with (refine wpList_loadT rfl _ rfl rfl B ?_)
  refine (HC _).mono ?_
  rintro e w3 ⟨rfl, g3⟩
  replace B := B.kept g3
  replace C := C.kept g3
  replace G := gbTrans G g3
  clear g3
  go_wp2_with fail
  refine (HB _).mono ?_
  rintro e w4 ⟨rfl, g4⟩
  replace B := B.kept g4
  replace C := C.kept g4
  replace G := gbTrans G g4
  clear g4
  go_wp2_with (first | (refine wpList_nilT rfl rfl ?_) | (refine wpList_loadT rfl _ rfl rfl B ?_) | (refine wpList_storeT rfl _ _ rfl rfl rfl C ?_; intro W9 C9 g9))
  exact bodyPost_ret (results_Te Try.results13 rfl rfl C9) rfl ⟨rfl, gbNew (gbTrans (gbAny G _) g9) ly⟩

set_option maxHeartbeats 1000000 in
theorem ask_twice (t : T) (r : Int) (h1 : (r != -1) = true) (h2 : (t.r != -1) = true) (HC : ∀ w, Calls Try.prog 14 #[.agg (tc t)] w fun e w' => e = .returned (.int .i64 0) ∧ w.grownBy w' none) (HB : ∀ w, Calls Try.prog 18 #[.int .i64 r] w fun e w' => e = .returned (.bool true) ∧ w.grownBy w' none) (w : World) :
    Calls Try.prog 13 #[.agg (tc t), .int .i64 r] w fun e w' => e = .returned (.tuple #[.agg (tc T0), .int .i64 4]) ∧ w.grownBy w' none := by
  go_enter Try.func13, Try.ntmps13
  go_upto_region 1 with (first | (refine wpList_boxT rfl _ rfl rfl ?_; intro W1 x B g1 l1) | (refine wpList_allocT rfl rfl ?_; intro W2 y C g2 l2))
  have xy := apartT B l2
  have ly : w.heap.size ≤ y := Nat.le_trans g1.size l2
  have G := gbTrans g1 g2
  replace B := B.kept g2
  clear g1 g2 l2
  go_wp2_with (refine wpList_loadT rfl _ rfl rfl B ?_)
  refine (HC _).mono ?_
  rintro e w3 ⟨rfl, g3⟩
  replace B := B.kept g3
  replace C := C.kept g3
  replace G := gbTrans G g3
  clear g3
  go_wp2_with fail
  refine (HB _).mono ?_
  rintro e w4 ⟨rfl, g4⟩
  replace B := B.kept g4
  replace C := C.kept g4
  replace G := gbTrans G g4
  clear g4
  have a4 := B.eight.at4
  go_wp2_with (first | (refine wpList_nilT rfl rfl ?_) | (refine wpList_loadT rfl _ rfl rfl B ?_) | (refine wpList_storeT rfl _ _ rfl rfl rfl C ?_; intro W9 C9 g9))
  exact bodyPost_ret (results_Te Try.results13 rfl rfl C9) rfl ⟨rfl, gbNew (gbTrans (gbAny G _) g9) ly⟩

set_option maxHeartbeats 1000000 in
theorem ask_nobody (t : T) (HC : ∀ w, Calls Try.prog 14 #[.agg (tc t)] w fun e w' => e = .returned (.int .i64 0) ∧ w.grownBy w' none) (HB : ∀ w, Calls Try.prog 18 #[.int .i64 (-1)] w fun e w' => e = .returned (.bool true) ∧ w.grownBy w' none) (w : World) :
    Calls Try.prog 13 #[.agg (tc t), .int .i64 (-1)] w fun e w' => e = .returned (.tuple #[.agg (tc { t with r := -1 }), .int .i64 0]) ∧ w.grownBy w' none := by
  go_enter Try.func13, Try.ntmps13
  go_upto_region 1 with (first | (refine wpList_boxT rfl _ rfl rfl ?_; intro W1 x B g1 l1) | (refine wpList_allocT rfl rfl ?_; intro W2 y C g2 l2))
  have xy := apartT B l2
  have ly : w.heap.size ≤ y := Nat.le_trans g1.size l2
  have G := gbTrans g1 g2
  replace B := B.kept g2
  clear g1 g2 l2
  go_wp2_with (refine wpList_loadT rfl _ rfl rfl B ?_)
  refine (HC _).mono ?_
  rintro e w3 ⟨rfl, g3⟩
  replace B := B.kept g3
  replace C := C.kept g3
  replace G := gbTrans G g3
  clear g3
  go_wp2_with fail
  refine (HB _).mono ?_
  rintro e w4 ⟨rfl, g4⟩
  replace B := B.kept g4
  replace C := C.kept g4
  replace G := gbTrans G g4
  clear g4
  have bf := B.fr
  have a4 := B.eight.at4
  go_upto_region 9 with fail
  obtain ⟨W5, e5, B5, g5⟩ := B.set4 (-1)
  rw [e5]
  clear e5 bf a4
  replace C := C.aside g5 (Ne.symm xy)
  replace G := gbNew (gbTrans (gbAny G _) g5) l1
  clear g5
  go_wp2_with (first | (refine wpList_nilT rfl rfl ?_) | (refine wpList_loadT rfl _ rfl rfl B5 ?_) | (refine wpList_storeT rfl _ _ rfl rfl rfl C ?_; intro W9 C9 g9))
  exact bodyPost_ret (results_Te Try.results13 rfl rfl C9) rfl ⟨rfl, gbNew (gbTrans (gbAny G _) g9) ly⟩

set_option maxHeartbeats 1000000 in
theorem ask_yes (t : T) (r : Int) (h1 : (r != -1) = true) (h2 : t.r = -1) (HC : ∀ w, Calls Try.prog 14 #[.agg (tc t)] w fun e w' => e = .returned (.int .i64 0) ∧ w.grownBy w' none) (HB : ∀ w, Calls Try.prog 18 #[.int .i64 r] w fun e w' => e = .returned (.bool true) ∧ w.grownBy w' none) (w : World) :
    Calls Try.prog 13 #[.agg (tc t), .int .i64 r] w fun e w' => e = .returned (.tuple #[.agg (tc { t with r := r }), .int .i64 0]) ∧ w.grownBy w' none := by
  go_enter Try.func13, Try.ntmps13
  go_upto_region 1 with (first | (refine wpList_boxT rfl _ rfl rfl ?_; intro W1 x B g1 l1) | (refine wpList_allocT rfl rfl ?_; intro W2 y C g2 l2))
  have xy := apartT B l2
  have ly : w.heap.size ≤ y := Nat.le_trans g1.size l2
  have G := gbTrans g1 g2
  replace B := B.kept g2
  clear g1 g2 l2
  go_wp2_with (refine wpList_loadT rfl _ rfl rfl B ?_)
  refine (HC _).mono ?_
  rintro e w3 ⟨rfl, g3⟩
  replace B := B.kept g3
  replace C := C.kept g3
  replace G := gbTrans G g3
  clear g3
  go_wp2_with fail
  refine (HB _).mono ?_
  rintro e w4 ⟨rfl, g4⟩
  replace B := B.kept g4
  replace C := C.kept g4
  replace G := gbTrans G g4
  clear g4
  have bf := B.fr
  have a4 := B.eight.at4
  go_upto_region 9 with fail
  obtain ⟨W5, e5, B5, g5⟩ := B.set4 r
  rw [e5]
  clear e5 bf a4
  replace C := C.aside g5 (Ne.symm xy)
  replace G := gbNew (gbTrans (gbAny G _) g5) l1
  clear g5
  go_wp2_with (first | (refine wpList_nilT rfl rfl ?_) | (refine wpList_loadT rfl _ rfl rfl B5 ?_) | (refine wpList_storeT rfl _ _ rfl rfl rfl C ?_; intro W9 C9 g9))
  exact bodyPost_ret (results_Te Try.results13 rfl rfl C9) rfl ⟨rfl, gbNew (gbTrans (gbAny G _) g9) ly⟩

theorem ask_is (t u : T) (r v : Int) (hb : t.b < 18446744073709551616) (h : M.ak t r = (u, v)) (w : World) :
    Calls Try.prog 13 #[.agg (tc t), .int .i64 r] w fun e w' => e = .returned (.tuple #[.agg (tc u), .int .i64 v]) ∧ w.grownBy w' none := by
  unfold M.ak at h
  by_cases c : M.ck t = 0
  · rw [if_pos c] at h
    have HC := check_is t hb 0 c
    cases cr : M.clr r
    · rw [cr, if_neg (by decide)] at h; cases h; exact ask_range t r HC (caller_is r _ cr) w
    · rw [cr, if_pos rfl] at h
      by_cases c1 : r = -1
      · rw [if_pos (.inl c1)] at h; cases h; subst c1; exact ask_nobody t HC (caller_is (-1) _ cr) w
      by_cases c2 : t.r = -1
      · rw [if_pos (.inr c2)] at h; cases h; exact ask_yes t r (by simpa using c1) c2 HC (caller_is r _ cr) w
      · rw [if_neg (by simp [c1, c2])] at h; cases h; exact ask_twice t r (by simpa using c1) (by simpa using c2) HC (caller_is r _ cr) w
  · rw [if_neg c] at h; cases h; exact ask_no t r _ (by simpa using c) (check_is t hb _ rfl) w

set_option maxHeartbeats 1000000 in
theorem block_no (t : T) (s o : Int) (b : Nat) (c : Bool) (v : Int) (hne : (v != 0) = true) (HC : ∀ w, Calls Try.prog 14 #[.agg (tc t)] w fun e w' => e = .returned (.int .i64 v) ∧ w.grownBy w' none) (w : World) :
    Calls Try.prog 11 #[.agg (tc t), .int .i64 s, .int .i64 o, .int .u64 (b : Int), .bool c] w fun e w' => e = .returned (.tuple #[.agg (tc T0), .int .i64 v]) ∧ w.grownBy w' none := by
  go_enter Try.func11, Try.ntmps11
  go_upto_region 1 with (first | (refine wpList_boxT rfl _ rfl rfl ?_; intro W1 x B g1 l1) | (refine wpList_allocT rfl rfl ?_; intro W2 y C g2 l2))
  have xy := apartT B l2
  have ly : w.heap.size ≤ y := Nat.le_trans g1.size l2
  have G := gbTrans g1 g2
  replace B := B.kept g2
  clear g1 g2 l2
  go_wp2_with (refine wpList_loadT rfl _ rfl rfl B ?_)
  refine (HC _).mono ?_
  rintro e w3 ⟨rfl, g3⟩
  replace B := B.kept g3
  replace C := C.kept g3
  replace G := gbTrans G g3
  clear g3
  go_wp2_with (first | (refine wpList_nilT rfl rfl ?_) | (refine wpList_loadT rfl _ rfl rfl B ?_) | (refine wpList_storeT rfl _ _ rfl rfl rfl C ?_; intro W9 C9 g9))
  exact bodyPost_ret (results_Te Try.results11 rfl rfl C9) rfl ⟨rfl, gbNew (gbTrans (gbAny G _) g9) ly⟩

set_option maxHeartbeats 1000000 in
theorem block_st (t : T) (s o : Int) (b : Nat) (c : Bool) (hs : (t.s != 1) = true) (HC : ∀ w, Calls Try.prog 14 #[.agg (tc t)] w fun e w' => e = .returned (.int .i64 0) ∧ w.grownBy w' none) (w : World) :
    Calls Try.prog 11 #[.agg (tc t), .int .i64 s, .int .i64 o, .int .u64 (b : Int), .bool c] w fun e w' => e = .returned (.tuple #[.agg (tc T0), .int .i64 8]) ∧ w.grownBy w' none := by
  go_enter Try.func11, Try.ntmps11
  go_upto_region 1 with (first | (refine wpList_boxT rfl _ rfl rfl ?_; intro W1 x B g1 l1) | (refine wpList_allocT rfl rfl ?_; intro W2 y C g2 l2))
  have xy := apartT B l2
  have ly : w.heap.size ≤ y := Nat.le_trans g1.size l2
  have G := gbTrans g1 g2
  replace B := B.kept g2
  clear g1 g2 l2
  go_wp2_with (refine wpList_loadT rfl _ rfl rfl B ?_)
  refine (HC _).mono ?_
  rintro e w3 ⟨rfl, g3⟩
  replace B := B.kept g3
  replace C := C.kept g3
  replace G := gbTrans G g3
  clear g3
  have a0 := B.eight.at0
  go_wp2_with (first | (refine wpList_nilT rfl rfl ?_) | (refine wpList_loadT rfl _ rfl rfl B ?_) | (refine wpList_storeT rfl _ _ rfl rfl rfl C ?_; intro W9 C9 g9))
  exact bodyPost_ret (results_Te Try.results11 rfl rfl C9) rfl ⟨rfl, gbNew (gbTrans (gbAny G _) g9) ly⟩

set_option maxHeartbeats 1000000 in
theorem block_bad (t : T) (s o : Int) (b : Nat) (c : Bool) (v : Int) (hne : (v != 0) = true) (hs : t.s = 1) (HC : ∀ w, Calls Try.prog 14 #[.agg (tc t)] w fun e w' => e = .returned (.int .i64 0) ∧ w.grownBy w' none) (HW : ∀ w, Calls Try.prog 17 #[.agg (tc { t with s := s, o := o, b := b, c := c })] w fun e w' => e = .returned (.int .i64 v) ∧ w.grownBy w' none) (w : World) :
    Calls Try.prog 11 #[.agg (tc t), .int .i64 s, .int .i64 o, .int .u64 (b : Int), .bool c] w fun e w' => e = .returned (.tuple #[.agg (tc T0), .int .i64 v]) ∧ w.grownBy w' none := by
  go_enter Try.func11, Try.ntmps11
  go_upto_region 1 with (first | (refine wpList_boxT rfl _ rfl rfl ?_; intro W1 x B g1 l1) | (refine wpList_allocT rfl rfl ?_; intro W2 y C g2 l2))
  have xy := apartT B l2
  have ly : w.heap.size ≤ y := Nat.le_trans g1.size l2
  have G := gbTrans g1 g2
  replace B := B.kept g2
  clear g1 g2 l2
  go_wp2_with (refine wpList_loadT rfl _ rfl rfl B ?_)
  refine (HC _).mono ?_
  rintro e w3 ⟨rfl, g3⟩
  replace B := B.kept g3
  replace C := C.kept g3
  replace G := gbTrans G g3
  clear g3
  have bf := B.fr
  have a0 := B.eight.at0
  have a1 := B.eight.at1
  have a2 := B.eight.at2
  have a3 := B.eight.at3
  go_upto_region 7 with fail
  obtain ⟨W5, e5, B5, g5⟩ := B.set0123 s o b c
  rw [e5]
  clear e5 bf a0 a1 a2 a3
  replace C := C.aside g5 (Ne.symm xy)
  replace G := gbNew (gbTrans (gbAny G _) g5) l1
  clear g5
  replace B := B5
  go_wp2_with (refine wpList_loadT rfl _ rfl rfl B ?_)
  refine (HW _).mono ?_
  rintro e w6 ⟨rfl, g6⟩
  replace B := B.kept g6
  replace C := C.kept g6
  replace G := gbTrans G g6
  clear g6
  go_wp2_with (first | (refine wpList_nilT rfl rfl ?_) | (refine wpList_loadT rfl _ rfl rfl B ?_) | (refine wpList_storeT rfl _ _ rfl rfl rfl C ?_; intro W9 C9 g9))
  exact bodyPost_ret (results_Te Try.results11 rfl rfl C9) rfl ⟨rfl, gbNew (gbTrans (gbAny G _) g9) ly⟩

set_option maxHeartbeats 1000000 in
theorem block_yes (t : T) (s o : Int) (b : Nat) (c : Bool) (hs : t.s = 1) (HC : ∀ w, Calls Try.prog 14 #[.agg (tc t)] w fun e w' => e = .returned (.int .i64 0) ∧ w.grownBy w' none) (HW : ∀ w, Calls Try.prog 17 #[.agg (tc { t with s := s, o := o, b := b, c := c })] w fun e w' => e = .returned (.int .i64 0) ∧ w.grownBy w' none) (w : World) :
    Calls Try.prog 11 #[.agg (tc t), .int .i64 s, .int .i64 o, .int .u64 (b : Int), .bool c] w fun e w' => e = .returned (.tuple #[.agg (tc { t with s := s, o := o, b := b, c := c }), .int .i64 0]) ∧ w.grownBy w' none := by
  go_enter Try.func11, Try.ntmps11
  go_upto_region 1 with (first | (refine wpList_boxT rfl _ rfl rfl ?_; intro W1 x B g1 l1) | (refine wpList_allocT rfl rfl ?_; intro W2 y C g2 l2))
  have xy := apartT B l2
  have ly : w.heap.size ≤ y := Nat.le_trans g1.size l2
  have G := gbTrans g1 g2
  replace B := B.kept g2
  clear g1 g2 l2
  go_wp2_with (refine wpList_loadT rfl _ rfl rfl B ?_)
  refine (HC _).mono ?_
  rintro e w3 ⟨rfl, g3⟩
  replace B := B.kept g3
  replace C := C.kept g3
  replace G := gbTrans G g3
  clear g3
  have bf := B.fr
  have a0 := B.eight.at0
  have a1 := B.eight.at1
  have a2 := B.eight.at2
  have a3 := B.eight.at3
  go_upto_region 7 with fail
  obtain ⟨W5, e5, B5, g5⟩ := B.set0123 s o b c
  rw [e5]
  clear e5 bf a0 a1 a2 a3
  replace C := C.aside g5 (Ne.symm xy)
  replace G := gbNew (gbTrans (gbAny G _) g5) l1
  clear g5
  replace B := B5
  go_wp2_with (refine wpList_loadT rfl _ rfl rfl B ?_)
  refine (HW _).mono ?_
  rintro e w6 ⟨rfl, g6⟩
  replace B := B.kept g6
  replace C := C.kept g6
  replace G := gbTrans G g6
  clear g6
  go_wp2_with (first | (refine wpList_nilT rfl rfl ?_) | (refine wpList_loadT rfl _ rfl rfl B ?_) | (refine wpList_storeT rfl _ _ rfl rfl rfl C ?_; intro W9 C9 g9))
  exact bodyPost_ret (results_Te Try.results11 rfl rfl C9) rfl ⟨rfl, gbNew (gbTrans (gbAny G _) g9) ly⟩

theorem block_is (t u : T) (s o : Int) (b : Nat) (c : Bool) (v : Int) (hb : t.b < 18446744073709551616) (hb' : b < 18446744073709551616) (h : M.bl t s o b c = (u, v)) (w : World) :
    Calls Try.prog 11 #[.agg (tc t), .int .i64 s, .int .i64 o, .int .u64 (b : Int), .bool c] w fun e w' => e = .returned (.tuple #[.agg (tc u), .int .i64 v]) ∧ w.grownBy w' none := by
  unfold M.bl at h
  by_cases q : M.ck t = 0
  · rw [if_pos q] at h
    have HC := check_is t hb 0 q
    by_cases c1 : t.s = 1
    · rw [if_pos c1] at h
      by_cases c2 : M.cw { t with s := s, o := o, b := b, c := c } = 0
      · rw [if_pos c2] at h; cases h; exact block_yes t s o b c c1 HC (waits_is _ hb' 0 c2) w
      · rw [if_neg c2] at h; cases h; exact block_bad t s o b c _ (by simpa using c2) c1 HC (waits_is _ hb' _ rfl) w
    · rw [if_neg c1] at h; cases h; exact block_st t s o b c (by simpa using c1) HC w
  · rw [if_neg q] at h; cases h; exact block_no t s o b c _ (by simpa using q) (check_is t hb _ rfl) w

end Go.Proofs.Ytaojiojbpkldkaa
