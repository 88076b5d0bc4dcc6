/-
  THE CONTRACTS of package code's isBelow, isRight, field, fields, Pack and Unpack (written by mkwds.py).
-/
import Derived.Test.YteekgfdffofnaaaPla
namespace Go.Proofs.Yteekgfdffofnaaa
set_option maxRecDepth 10000
open Go.RowKit
set_option linter.unusedVariables false

theorem below_is (n m : Int) (v : Bool) (h : M.bel n m = v) (w : World) :
    Calls Try.prog 24 #[.int .i64 n, .int .i64 m] w fun e w' => e = .returned (.bool v) ∧ w' = w := by
  subst h
  by_cases c1 : 0 ≤ n
  · by_cases c2 : n < m
    · have h : M.bel n m = true := by simp [M.bel, c1, c2]
      rw [h]
      clear h
      go_enter Try.func24, Try.ntmps24
      go_wp2
      go_ret
      exact ⟨rfl, rfl⟩
    · have h : M.bel n m = false := by simp [M.bel, c1, c2]
      rw [h]
      clear h
      go_enter Try.func24, Try.ntmps24
      go_wp2
      go_ret
      exact ⟨rfl, rfl⟩
  · have h : M.bel n m = false := by simp [M.bel, c1]
    rw [h]
    clear h
    go_enter Try.func24, Try.ntmps24
    go_wp2
    go_ret
    exact ⟨rfl, rfl⟩

set_option maxHeartbeats 400000 in
theorem right_0 (o a b m : Int) (h0 : M.bel o 18 = false) (w : World) :
    Calls Try.prog 20 #[iv ⟨o, a, b, m⟩] w fun e w' => e = .returned (.bool false) ∧ w.grownBy w' none := by
  replace h0 := hideIt h0
  go_enter Try.func20, Try.ntmps20
  go_wp2_with fail
  refine (below_is _ _ _ h0.out _).mono ?_
  rintro e w' ⟨rfl, rfl⟩
  go_wp2
  go_ret
  exact ⟨rfl, gbAlloc _ _ _⟩

set_option maxHeartbeats 400000 in
theorem right_1 (o a b m : Int) (h0 : M.bel o 18 = true) (h1 : M.bel a 8 = false) (w : World) :
    Calls Try.prog 20 #[iv ⟨o, a, b, m⟩] w fun e w' => e = .returned (.bool false) ∧ w.grownBy w' none := by
  replace h0 := hideIt h0
  replace h1 := hideIt h1
  go_enter Try.func20, Try.ntmps20
  go_wp2_with fail
  refine (below_is _ _ _ h0.out _).mono ?_
  rintro e w' ⟨rfl, rfl⟩
  go_wp2_with fail
  refine (below_is _ _ _ h1.out _).mono ?_
  rintro e w' ⟨rfl, rfl⟩
  go_wp2
  go_ret
  exact ⟨rfl, gbAlloc _ _ _⟩

set_option maxHeartbeats 400000 in
theorem right_2 (o a b m : Int) (h0 : M.bel o 18 = true) (h1 : M.bel a 8 = true) (h2 : M.bel b 8 = false) (w : World) :
    Calls Try.prog 20 #[iv ⟨o, a, b, m⟩] w fun e w' => e = .returned (.bool false) ∧ w.grownBy w' none := by
  replace h0 := hideIt h0
  replace h1 := hideIt h1
  replace h2 := hideIt h2
  go_enter Try.func20, Try.ntmps20
  go_wp2_with fail
  refine (below_is _ _ _ h0.out _).mono ?_
  rintro e w' ⟨rfl, rfl⟩
  go_wp2_with fail
  refine (below_is _ _ _ h1.out _).mono ?_
  rintro e w' ⟨rfl, rfl⟩
  go_wp2_with fail
  refine (below_is _ _ _ h2.out _).mono ?_
  rintro e w' ⟨rfl, rfl⟩
  go_wp2
  go_ret
  exact ⟨rfl, gbAlloc _ _ _⟩

set_option maxHeartbeats 400000 in
theorem right_3 (o a b m : Int) (h0 : M.bel o 18 = true) (h1 : M.bel a 8 = true) (h2 : M.bel b 8 = true) (h3 : M.bel m 4096 = false) (w : World) :
    Calls Try.prog 20 #[iv ⟨o, a, b, m⟩] w fun e w' => e = .returned (.bool false) ∧ w.grownBy w' none := by
  replace h0 := hideIt h0
  replace h1 := hideIt h1
  replace h2 := hideIt h2
  replace h3 := hideIt h3
  go_enter Try.func20, Try.ntmps20
  go_wp2_with fail
  refine (below_is _ _ _ h0.out _).mono ?_
  rintro e w' ⟨rfl, rfl⟩
  go_wp2_with fail
  refine (below_is _ _ _ h1.out _).mono ?_
  rintro e w' ⟨rfl, rfl⟩
  go_wp2_with fail
  refine (below_is _ _ _ h2.out _).mono ?_
  rintro e w' ⟨rfl, rfl⟩
  go_wp2_with fail
  refine (below_is _ _ _ h3.out _).mono ?_
  rintro e w' ⟨rfl, rfl⟩
  go_wp2
  go_ret
  exact ⟨rfl, gbAlloc _ _ _⟩

set_option maxHeartbeats 400000 in
theorem right_4 (o a b m : Int) (h0 : M.bel o 18 = true) (h1 : M.bel a 8 = true) (h2 : M.bel b 8 = true) (h3 : M.bel m 4096 = true) (w : World) :
    Calls Try.prog 20 #[iv ⟨o, a, b, m⟩] w fun e w' => e = .returned (.bool true) ∧ w.grownBy w' none := by
  replace h0 := hideIt h0
  replace h1 := hideIt h1
  replace h2 := hideIt h2
  replace h3 := hideIt h3
  go_enter Try.func20, Try.ntmps20
  go_wp2_with fail
  refine (below_is _ _ _ h0.out _).mono ?_
  rintro e w' ⟨rfl, rfl⟩
  go_wp2_with fail
  refine (below_is _ _ _ h1.out _).mono ?_
  rintro e w' ⟨rfl, rfl⟩
  go_wp2_with fail
  refine (below_is _ _ _ h2.out _).mono ?_
  rintro e w' ⟨rfl, rfl⟩
  go_wp2_with fail
  refine (below_is _ _ _ h3.out _).mono ?_
  rintro e w' ⟨rfl, rfl⟩
  go_wp2
  go_ret
  exact ⟨rfl, gbAlloc _ _ _⟩

theorem isRight_is (i : I) (v : Bool) (h : M.rt i = v) (w : World) :
    Calls Try.prog 20 #[iv i] w fun e w' => e = .returned (.bool v) ∧ w.grownBy w' none := by
  obtain ⟨o, a, b, m⟩ := i
  subst h
  unfold M.rt
  simp only
  cases h0 : M.bel o 18
  · exact right_0 o a b m h0 w
  · cases h1 : M.bel a 8
    · exact right_1 o a b m h0 h1 w
    · cases h2 : M.bel b 8
      · exact right_2 o a b m h0 h1 h2 w
      · cases h3 : M.bel m 4096
        · exact right_3 o a b m h0 h1 h2 h3 w
        · exact right_4 o a b m h0 h1 h2 h3 w

set_option maxHeartbeats 400000 in
theorem field_is (W a n v : Nat) (w : World) (hW : W < 18446744073709551616) (h0 : 1 ≤ n) (h1 : a + n ≤ 64) (h : M.getN W a n = v) (hv : v < 4096) :
    Calls Try.prog 30 #[.int .u64 W, .int .i64 a, .int .i64 n] w fun e w' => e = .returned (.int .i64 v) ∧ w.grownBy w' none := by
  have H := fun w => getW W a n w hW h0 h1
  rw [h] at H
  clear h
  go_enter Try.func30, Try.ntmps30
  go_wp2_with fail
  refine (H _).mono ?_
  rintro e w1 ⟨rfl, g1⟩
  go_wp2
  go_ret
  exact ⟨rfl, g1⟩

set_option maxHeartbeats 800000 in
theorem fields_in (W : Int) (o a b m : Int)
    (H0 : ∀ w, Calls Try.prog 30 #[.int .u64 W, .int .i64 0, .int .i64 5] w fun e w' => e = .returned (.int .i64 o) ∧ w.grownBy w' none)
    (H1 : ∀ w, Calls Try.prog 30 #[.int .u64 W, .int .i64 5, .int .i64 3] w fun e w' => e = .returned (.int .i64 a) ∧ w.grownBy w' none)
    (H2 : ∀ w, Calls Try.prog 30 #[.int .u64 W, .int .i64 8, .int .i64 3] w fun e w' => e = .returned (.int .i64 b) ∧ w.grownBy w' none)
    (H3 : ∀ w, Calls Try.prog 30 #[.int .u64 W, .int .i64 11, .int .i64 12] w fun e w' => e = .returned (.int .i64 m) ∧ w.grownBy w' none) (w : World) :
    Calls Try.prog 23 #[.int .u64 W] w fun e w' => e = .returned (iv ⟨o, a, b, m⟩) ∧ w.grownBy w' none := by
  go_enter Try.func23, Try.ntmps23
  go_upto_region 1 with (refine wpList_allocW rfl rfl zI ?_; intro W2 z C g2 l2)
  go_wp2_with fail
  refine (H0 _).mono ?_
  rintro e w1 ⟨rfl, g1⟩
  go_wp2_with fail
  refine (H1 _).mono ?_
  rintro e w2 ⟨rfl, g3⟩
  go_wp2_with fail
  refine (H2 _).mono ?_
  rintro e w3 ⟨rfl, g4⟩
  go_wp2_with fail
  refine (H3 _).mono ?_
  rintro e w4 ⟨rfl, g5⟩
  replace C := (((C.kept g1).kept g3).kept g4).kept g5
  have G := gbTrans (gbTrans (gbTrans (gbTrans g2 g1) g3) g4) g5
  clear g1 g2 g3 g4 g5
  go_wp2_with (first | (refine wpList_buildW rfl [(0, .tmp 4), (1, .tmp 6), (2, .tmp 8), (3, .tmp 10)] rfl [(0, .int .i64 o), (1, .int .i64 a), (2, .int .i64 b), (3, .int .i64 m)] rfl (ic ⟨o, a, b, m⟩) (by kernel_rfl) ?_) | (refine wpList_storeW rfl _ _ rfl rfl rfl C tkI rfl rfl (ic_one _) ?_; intro W9 C9 g9))
  exact bodyPost_ret (results_W Try.results23 rfl C9 tkI rfl) rfl ⟨rfl, gbNew (gbTrans (gbAny G _) g9) l2⟩

theorem fields_any (W : Nat) (hW : W < 18446744073709551616) (w : World) :
    Calls Try.prog 23 #[.int .u64 W] w fun e w' => e = .returned (iv (M.fe W)) ∧ w.grownBy w' none :=
  fields_in W _ _ _ _ (fun w => field_is W 0 5 _ w hW (by omega) (by omega) (M.getN_lit _ _ _ _ 1 32 rfl rfl (by rw [Nat.div_one])) (by omega))
    (fun w => field_is W 5 3 _ w hW (by omega) (by omega) (M.getN_lit _ _ _ _ 32 8 rfl rfl rfl) (by omega)) (fun w => field_is W 8 3 _ w hW (by omega) (by omega) (M.getN_lit _ _ _ _ 256 8 rfl rfl rfl) (by omega))
    (fun w => field_is W 11 12 _ w hW (by omega) (by omega) (M.getN_lit _ _ _ _ 2048 4096 rfl rfl rfl) (by omega)) w

theorem putAt (W a n V x : Nat) (w : World) (hW : W < 2 ^ a) (h0 : 1 ≤ n) (h1 : a + n ≤ 64) (hV : V < 2 ^ n) (h64 : W < 18446744073709551616) (hx : W + V * 2 ^ a = x) :
    Calls Try.prog 21 #[.int .u64 W, .int .i64 a, .int .i64 n, .int .u64 V] w fun e w' => e = .returned (.tuple #[.int .u64 x, .int .i64 0]) ∧ w.grownBy w' none :=
  putW W a n V x w ((M.putN_add W a n V hW h1 hV).trans hx) h64 h0 h1 hV

set_option maxHeartbeats 400000 in
theorem pack_no (i : I) (h : M.rt i = false) (w : World) :
    Calls Try.prog 9 #[iv i] w fun e w' => e = .returned (.tuple #[.int .u64 0, .int .i64 10]) ∧ w.grownBy w' none := by
  replace h := hideIt h
  go_enter Try.func9, Try.ntmps9
  go_upto_region 1 with (refine wpList_boxW rfl _ rfl rfl ?_; intro W1 q B g1 l1)
  go_wp2_with (refine wpList_loadW rfl _ rfl rfl B tkI rfl ?_)
  refine (isRight_is i _ h.out _).mono ?_
  rintro e w1 ⟨rfl, g2⟩
  go_wp2
  go_ret2
  exact ⟨rfl, gbTrans g1 g2⟩

set_option maxHeartbeats 800000 in
theorem pack_yes (o a b m x y z : Nat) (ho : o < 18) (ha : a < 8) (hb : b < 8) (hm : m < 4096)
    (H0 : ∀ w, Calls Try.prog 20 #[iv ⟨o, a, b, m⟩] w fun e w' => e = .returned (.bool true) ∧ w.grownBy w' none)
    (H1 : ∀ w, Calls Try.prog 21 #[.int .u64 0, .int .i64 0, .int .i64 5, .int .u64 o] w fun e w' => e = .returned (.tuple #[.int .u64 o, .int .i64 0]) ∧ w.grownBy w' none)
    (H2 : ∀ w, Calls Try.prog 21 #[.int .u64 o, .int .i64 5, .int .i64 3, .int .u64 a] w fun e w' => e = .returned (.tuple #[.int .u64 x, .int .i64 0]) ∧ w.grownBy w' none)
    (H3 : ∀ w, Calls Try.prog 21 #[.int .u64 x, .int .i64 8, .int .i64 3, .int .u64 b] w fun e w' => e = .returned (.tuple #[.int .u64 y, .int .i64 0]) ∧ w.grownBy w' none)
    (H4 : ∀ w, Calls Try.prog 21 #[.int .u64 y, .int .i64 11, .int .i64 12, .int .u64 m] w fun e w' => e = .returned (.tuple #[.int .u64 z, .int .i64 0]) ∧ w.grownBy w' none) (w : World) :
    Calls Try.prog 9 #[iv ⟨o, a, b, m⟩] w fun e w' => e = .returned (.tuple #[.int .u64 z, .int .i64 0]) ∧ w.grownBy w' none := by
  go_enter Try.func9, Try.ntmps9
  go_upto_region 1 with (refine wpList_boxW rfl _ rfl rfl ?_; intro W1 q B g1 l1)
  go_wp2_with (refine wpList_loadW rfl _ rfl rfl B tkI rfl ?_)
  refine (H0 _).mono ?_
  rintro e w1 ⟨rfl, g2⟩
  replace B := B.kept g2
  have G := gbTrans g1 g2
  clear g1 g2 l1 H0
  obtain ⟨a0, a1, a2, a3⟩ := B.four (i := ⟨o, a, b, m⟩)
  go_wp2_with fail
  refine (H1 _).mono ?_
  rintro e w2 ⟨rfl, g1⟩
  replace B := B.kept g1
  replace G := gbTrans G g1
  clear g1 a0 a1 a2 a3 H1
  obtain ⟨a0, a1, a2, a3⟩ := B.four (i := ⟨o, a, b, m⟩)
  go_wp2_with fail
  refine (H2 _).mono ?_
  rintro e w3 ⟨rfl, g1⟩
  replace B := B.kept g1
  replace G := gbTrans G g1
  clear g1 a0 a1 a2 a3 H2
  obtain ⟨a0, a1, a2, a3⟩ := B.four (i := ⟨o, a, b, m⟩)
  go_wp2_with fail
  refine (H3 _).mono ?_
  rintro e w4 ⟨rfl, g1⟩
  replace B := B.kept g1
  replace G := gbTrans G g1
  clear g1 a0 a1 a2 a3 H3
  obtain ⟨a0, a1, a2, a3⟩ := B.four (i := ⟨o, a, b, m⟩)
  go_wp2_with fail
  refine (H4 _).mono ?_
  rintro e w5 ⟨rfl, g1⟩
  replace B := B.kept g1
  replace G := gbTrans G g1
  clear g1 a0 a1 a2 a3 H4
  obtain ⟨a0, a1, a2, a3⟩ := B.four (i := ⟨o, a, b, m⟩)
  go_wp2
  go_ret2
  exact ⟨rfl, G⟩

theorem pack_is (i : I) (x f : Int) (h : M.pk i = (x, f)) (w : World) :
    Calls Try.prog 9 #[iv i] w fun e w' => e = .returned (.tuple #[.int .u64 x, .int .i64 f]) ∧ w.grownBy w' none := by
  unfold M.pk at h
  by_cases c : M.rt i = true
  · rw [if_pos c] at h
    obtain ⟨o, a, b, m, rfl, ho, ha, hb, hm⟩ := M.rt_nat c
    simp only [Prod.mk.injEq] at h
    obtain ⟨rfl, rfl⟩ := h
    have e : M.wd ⟨o, a, b, m⟩ = ((o + a * 2 ^ 5 + b * 2 ^ 8 + m * 2 ^ 11 : Nat) : Int) := by unfold M.wd; simp only; omega
    rw [e]
    exact pack_yes o a b m _ _ _ ho ha hb hm (isRight_is _ _ c) (fun w => putAt 0 0 5 o o w (by decide) (by decide) (by decide) (by omega) (by decide) (by omega)) (fun w => putAt o 5 3 a _ w (by omega) (by decide) (by decide) (by omega) (by omega) rfl)
      (fun w => putAt _ 8 3 b _ w (by omega) (by decide) (by decide) (by omega) (by omega) rfl) (fun w => putAt _ 11 12 m _ w (by omega) (by decide) (by decide) (by omega) (by omega) rfl) w
  · rw [if_neg c] at h
    simp only [Prod.mk.injEq] at h
    obtain ⟨rfl, rfl⟩ := h
    exact pack_no i (by simpa using c) w

set_option maxHeartbeats 1000000 in
theorem unpack_no_e (W : Int) (i : I) (x f : Int) (h : (f != 0) = true)
    (HF : ∀ w, Calls Try.prog 23 #[.int .u64 W] w fun e w' => e = .returned (iv i) ∧ w.grownBy w' none)
    (HW : ∀ w, Calls Try.prog 9 #[iv i] w fun e w' => e = .returned (.tuple #[.int .u64 x, .int .i64 f]) ∧ w.grownBy w' none) (w : World) :
    Calls Try.prog 12 #[.int .u64 W] w fun e w' => e = .returned (.tuple #[iv I.zero, .int .i64 10]) ∧ w.grownBy w' none := by
  go_enter Try.func12, Try.ntmps12
  go_upto_region 1 with (refine wpList_allocW rfl rfl zI ?_; intro W2 z C g2 l2)
  go_wp2_with fail
  refine (HF _).mono ?_
  rintro e w1 ⟨rfl, g1⟩
  replace C := C.kept g1
  have G := gbTrans g2 g1
  clear g1 g2
  go_upto_region 2 with (first | (refine wpList_allocW rfl rfl zI ?_; intro V1 x1 X1 k1 l1) | (refine wpList_storeW rfl _ _ rfl rfl rfl X1 tkI rfl rfl (ic_one _) ?_; intro W1 B1 h1))
  replace C := C.past k1 l1 h1
  replace G := gbMade G k1 l1 h1
  clear k1 l1 h1 X1
  go_wp2_with (refine wpList_loadW rfl _ rfl rfl B1 tkI rfl ?_)
  refine (HW _).mono ?_
  rintro e w3 ⟨rfl, g3⟩
  replace C := C.kept g3
  replace B1 := B1.kept g3
  replace G := gbTrans G g3
  clear g3 HF HW
  go_wp2_with (first | (refine wpList_buildW rfl [] rfl [] rfl (ic I.zero) (by kernel_rfl) ?_) | (refine wpList_loadW rfl _ rfl rfl B1 tkI rfl ?_) | (refine wpList_storeW rfl _ _ rfl rfl rfl C tkI rfl rfl (ic_one _) ?_; intro W9 C9 g9))
  exact bodyPost_ret (results_We Try.results12 rfl rfl C9 tkI rfl) rfl ⟨rfl, gbNew (gbTrans (gbAny G _) g9) l2⟩

set_option maxHeartbeats 1000000 in
theorem unpack_no_w (W : Int) (i : I) (x : Int) (h : (x != W) = true)
    (HF : ∀ w, Calls Try.prog 23 #[.int .u64 W] w fun e w' => e = .returned (iv i) ∧ w.grownBy w' none)
    (HW : ∀ w, Calls Try.prog 9 #[iv i] w fun e w' => e = .returned (.tuple #[.int .u64 x, .int .i64 0]) ∧ w.grownBy w' none) (w : World) :
    Calls Try.prog 12 #[.int .u64 W] w fun e w' => e = .returned (.tuple #[iv I.zero, .int .i64 10]) ∧ w.grownBy w' none := by
  go_enter Try.func12, Try.ntmps12
  go_upto_region 1 with (refine wpList_allocW rfl rfl zI ?_; intro W2 z C g2 l2)
  go_wp2_with fail
  refine (HF _).mono ?_
  rintro e w1 ⟨rfl, g1⟩
  replace C := C.kept g1
  have G := gbTrans g2 g1
  clear g1 g2
  go_upto_region 2 with (first | (refine wpList_allocW rfl rfl zI ?_; intro V1 x1 X1 k1 l1) | (refine wpList_storeW rfl _ _ rfl rfl rfl X1 tkI rfl rfl (ic_one _) ?_; intro W1 B1 h1))
  replace C := C.past k1 l1 h1
  replace G := gbMade G k1 l1 h1
  clear k1 l1 h1 X1
  go_wp2_with (refine wpList_loadW rfl _ rfl rfl B1 tkI rfl ?_)
  refine (HW _).mono ?_
  rintro e w3 ⟨rfl, g3⟩
  replace C := C.kept g3
  replace B1 := B1.kept g3
  replace G := gbTrans G g3
  clear g3 HF HW
  go_wp2_with (first | (refine wpList_buildW rfl [] rfl [] rfl (ic I.zero) (by kernel_rfl) ?_) | (refine wpList_loadW rfl _ rfl rfl B1 tkI rfl ?_) | (refine wpList_storeW rfl _ _ rfl rfl rfl C tkI rfl rfl (ic_one _) ?_; intro W9 C9 g9))
  exact bodyPost_ret (results_We Try.results12 rfl rfl C9 tkI rfl) rfl ⟨rfl, gbNew (gbTrans (gbAny G _) g9) l2⟩

set_option maxHeartbeats 1000000 in
theorem unpack_yes (W : Int) (i : I)
    (HF : ∀ w, Calls Try.prog 23 #[.int .u64 W] w fun e w' => e = .returned (iv i) ∧ w.grownBy w' none)
    (HW : ∀ w, Calls Try.prog 9 #[iv i] w fun e w' => e = .returned (.tuple #[.int .u64 W, .int .i64 0]) ∧ w.grownBy w' none) (w : World) :
    Calls Try.prog 12 #[.int .u64 W] w fun e w' => e = .returned (.tuple #[iv i, .int .i64 0]) ∧ w.grownBy w' none := by
  go_enter Try.func12, Try.ntmps12
  go_upto_region 1 with (refine wpList_allocW rfl rfl zI ?_; intro W2 z C g2 l2)
  go_wp2_with fail
  refine (HF _).mono ?_
  rintro e w1 ⟨rfl, g1⟩
  replace C := C.kept g1
  have G := gbTrans g2 g1
  clear g1 g2
  go_upto_region 2 with (first | (refine wpList_allocW rfl rfl zI ?_; intro V1 x1 X1 k1 l1) | (refine wpList_storeW rfl _ _ rfl rfl rfl X1 tkI rfl rfl (ic_one _) ?_; intro W1 B1 h1))
  replace C := C.past k1 l1 h1
  replace G := gbMade G k1 l1 h1
  clear k1 l1 h1 X1
  go_wp2_with (refine wpList_loadW rfl _ rfl rfl B1 tkI rfl ?_)
  refine (HW _).mono ?_
  rintro e w3 ⟨rfl, g3⟩
  replace C := C.kept g3
  replace B1 := B1.kept g3
  replace G := gbTrans G g3
  clear g3 HF HW
  go_wp2_with (first | (refine wpList_buildW rfl [] rfl [] rfl (ic I.zero) (by kernel_rfl) ?_) | (refine wpList_loadW rfl _ rfl rfl B1 tkI rfl ?_) | (refine wpList_storeW rfl _ _ rfl rfl rfl C tkI rfl rfl (ic_one _) ?_; intro W9 C9 g9))
  exact bodyPost_ret (results_We Try.results12 rfl rfl C9 tkI rfl) rfl ⟨rfl, gbNew (gbTrans (gbAny G _) g9) l2⟩

theorem unpack_is (W : Nat) (c : I) (f : Int) (hW : W < 18446744073709551616) (h : M.up W = (c, f)) (w : World) :
    Calls Try.prog 12 #[.int .u64 W] w fun e w' => e = .returned (.tuple #[iv c, .int .i64 f]) ∧ w.grownBy w' none := by
  have HF := fun w => fields_any W hW w
  unfold M.up at h
  generalize M.fe W = q at HF h
  obtain ⟨⟨x, g⟩, hw⟩ : ∃ p, M.pk q = p := ⟨_, rfl⟩
  have HW := fun w => pack_is q x g hw w
  rw [hw] at h
  by_cases c1 : (x, g) = ((W : Int), (0 : Int))
  · rw [if_pos c1] at h
    simp only [Prod.mk.injEq] at h c1
    obtain ⟨rfl, rfl⟩ := h
    obtain ⟨rfl, rfl⟩ := c1
    exact unpack_yes _ q HF HW w
  · rw [if_neg c1] at h
    simp only [Prod.mk.injEq] at h c1
    obtain ⟨rfl, rfl⟩ := h
    by_cases e1 : g = 0
    · subst e1
      exact unpack_no_w _ q x (by simpa using c1) HF HW w
    · exact unpack_no_e _ q x g (by simpa using e1) HF HW w
end Go.Proofs.Yteekgfdffofnaaa
