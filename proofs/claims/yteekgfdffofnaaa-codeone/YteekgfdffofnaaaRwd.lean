/-
  THE DOCUMENT'S SIDE: donjonref23's right, Pack and Unpack (written by mkrrn.py).
-/
import Derived.Test.YteekgfdffofnaaaPla
namespace Go.Proofs.Yteekgfdffofnaaa
set_option maxRecDepth 10000
open Go.RowKit
set_option linter.unusedVariables false

theorem tkJ : Tk 23 4 := ⟨by kernel_rfl, _, Try.underlying23, rfl⟩
theorem tkQ : Tk 37 8 := ⟨by kernel_rfl, _, Try.underlying37, rfl⟩
theorem tkD : Tk 45 13 := ⟨by kernel_rfl, _, Try.underlying45, rfl⟩
theorem zJ (w : World) : (zeroValue 23).run Try.prog w = .ok (.agg (ic I.zero)) w := by kernel_rfl
theorem zQ (w : World) : (zeroValue 37).run Try.prog w = .ok (.agg (rc nil8)) w := by kernel_rfl
theorem zD (w : World) : (zeroValue 45).run Try.prog w = .ok (.agg (ec E0)) w := by kernel_rfl

set_option maxHeartbeats 400000 in
theorem rright_0 (o a b m : Int) (h0 : ¬ 0 ≤ o) (w : World) :
    Calls Try.prog 22 #[iv ⟨o, a, b, m⟩] w fun e w' => e = .returned (.bool false) ∧ w.grownBy w' none := by
  go_enter Try.func22, Try.ntmps22
  go_wp2
  go_ret
  exact ⟨rfl, gbAlloc _ _ _⟩
set_option maxHeartbeats 400000 in
theorem rright_1 (o a b m : Int) (h0 : 0 ≤ o) (h1 : ¬ o ≤ 17) (w : World) :
    Calls Try.prog 22 #[iv ⟨o, a, b, m⟩] w fun e w' => e = .returned (.bool false) ∧ w.grownBy w' none := by
  go_enter Try.func22, Try.ntmps22
  go_wp2
  go_ret
  exact ⟨rfl, gbAlloc _ _ _⟩
set_option maxHeartbeats 400000 in
theorem rright_2 (o a b m : Int) (h0 : 0 ≤ o) (h1 : o ≤ 17) (h2 : ¬ 0 ≤ a) (w : World) :
    Calls Try.prog 22 #[iv ⟨o, a, b, m⟩] w fun e w' => e = .returned (.bool false) ∧ w.grownBy w' none := by
  go_enter Try.func22, Try.ntmps22
  go_wp2
  go_ret
  exact ⟨rfl, gbAlloc _ _ _⟩
set_option maxHeartbeats 400000 in
theorem rright_3 (o a b m : Int) (h0 : 0 ≤ o) (h1 : o ≤ 17) (h2 : 0 ≤ a) (h3 : ¬ a ≤ 7) (w : World) :
    Calls Try.prog 22 #[iv ⟨o, a, b, m⟩] w fun e w' => e = .returned (.bool false) ∧ w.grownBy w' none := by
  go_enter Try.func22, Try.ntmps22
  go_wp2
  go_ret
  exact ⟨rfl, gbAlloc _ _ _⟩
set_option maxHeartbeats 400000 in
theorem rright_4 (o a b m : Int) (h0 : 0 ≤ o) (h1 : o ≤ 17) (h2 : 0 ≤ a) (h3 : a ≤ 7) (h4 : ¬ 0 ≤ b) (w : World) :
    Calls Try.prog 22 #[iv ⟨o, a, b, m⟩] w fun e w' => e = .returned (.bool false) ∧ w.grownBy w' none := by
  go_enter Try.func22, Try.ntmps22
  go_wp2
  go_ret
  exact ⟨rfl, gbAlloc _ _ _⟩
set_option maxHeartbeats 400000 in
theorem rright_5 (o a b m : Int) (h0 : 0 ≤ o) (h1 : o ≤ 17) (h2 : 0 ≤ a) (h3 : a ≤ 7) (h4 : 0 ≤ b) (h5 : ¬ b ≤ 7) (w : World) :
    Calls Try.prog 22 #[iv ⟨o, a, b, m⟩] w fun e w' => e = .returned (.bool false) ∧ w.grownBy w' none := by
  go_enter Try.func22, Try.ntmps22
  go_wp2
  go_ret
  exact ⟨rfl, gbAlloc _ _ _⟩
set_option maxHeartbeats 400000 in
theorem rright_6 (o a b m : Int) (h0 : 0 ≤ o) (h1 : o ≤ 17) (h2 : 0 ≤ a) (h3 : a ≤ 7) (h4 : 0 ≤ b) (h5 : b ≤ 7) (h6 : ¬ 0 ≤ m) (w : World) :
    Calls Try.prog 22 #[iv ⟨o, a, b, m⟩] w fun e w' => e = .returned (.bool false) ∧ w.grownBy w' none := by
  go_enter Try.func22, Try.ntmps22
  go_wp2
  go_ret
  exact ⟨rfl, gbAlloc _ _ _⟩
set_option maxHeartbeats 400000 in
theorem rright_7 (o a b m : Int) (h0 : 0 ≤ o) (h1 : o ≤ 17) (h2 : 0 ≤ a) (h3 : a ≤ 7) (h4 : 0 ≤ b) (h5 : b ≤ 7) (h6 : 0 ≤ m) (h7 : ¬ m ≤ 4095) (w : World) :
    Calls Try.prog 22 #[iv ⟨o, a, b, m⟩] w fun e w' => e = .returned (.bool false) ∧ w.grownBy w' none := by
  go_enter Try.func22, Try.ntmps22
  go_wp2
  go_ret
  exact ⟨rfl, gbAlloc _ _ _⟩
set_option maxHeartbeats 400000 in
theorem rright_8 (o a b m : Int) (h0 : 0 ≤ o) (h1 : o ≤ 17) (h2 : 0 ≤ a) (h3 : a ≤ 7) (h4 : 0 ≤ b) (h5 : b ≤ 7) (h6 : 0 ≤ m) (h7 : m ≤ 4095) (w : World) :
    Calls Try.prog 22 #[iv ⟨o, a, b, m⟩] w fun e w' => e = .returned (.bool true) ∧ w.grownBy w' none := by
  go_enter Try.func22, Try.ntmps22
  go_wp2
  go_ret
  exact ⟨rfl, gbAlloc _ _ _⟩
theorem rright_is (i : I) (v : Bool) (h : M.rt i = v) (w : World) :
    Calls Try.prog 22 #[iv i] w fun e w' => e = .returned (.bool v) ∧ w.grownBy w' none := by
  obtain ⟨o, a, b, m⟩ := i
  subst h
  by_cases h0 : 0 ≤ o
  case neg =>
    have e : M.rt ⟨o, a, b, m⟩ = false := by simp [M.rt, M.bel]; omega
    rw [e]; exact rright_0 o a b m h0 w
  case pos =>
    by_cases h1 : o ≤ 17
    case neg =>
      have e : M.rt ⟨o, a, b, m⟩ = false := by simp [M.rt, M.bel]; omega
      rw [e]; exact rright_1 o a b m h0 h1 w
    case pos =>
      by_cases h2 : 0 ≤ a
      case neg =>
        have e : M.rt ⟨o, a, b, m⟩ = false := by simp [M.rt, M.bel]; omega
        rw [e]; exact rright_2 o a b m h0 h1 h2 w
      case pos =>
        by_cases h3 : a ≤ 7
        case neg =>
          have e : M.rt ⟨o, a, b, m⟩ = false := by simp [M.rt, M.bel]; omega
          rw [e]; exact rright_3 o a b m h0 h1 h2 h3 w
        case pos =>
          by_cases h4 : 0 ≤ b
          case neg =>
            have e : M.rt ⟨o, a, b, m⟩ = false := by simp [M.rt, M.bel]; omega
            rw [e]; exact rright_4 o a b m h0 h1 h2 h3 h4 w
          case pos =>
            by_cases h5 : b ≤ 7
            case neg =>
              have e : M.rt ⟨o, a, b, m⟩ = false := by simp [M.rt, M.bel]; omega
              rw [e]; exact rright_5 o a b m h0 h1 h2 h3 h4 h5 w
            case pos =>
              by_cases h6 : 0 ≤ m
              case neg =>
                have e : M.rt ⟨o, a, b, m⟩ = false := by simp [M.rt, M.bel]; omega
                rw [e]; exact rright_6 o a b m h0 h1 h2 h3 h4 h5 h6 w
              case pos =>
                by_cases h7 : m ≤ 4095
                case neg =>
                  have e : M.rt ⟨o, a, b, m⟩ = false := by simp [M.rt, M.bel]; omega
                  rw [e]; exact rright_7 o a b m h0 h1 h2 h3 h4 h5 h6 h7 w
                case pos =>
                  have e : M.rt ⟨o, a, b, m⟩ = true := by simp [M.rt, M.bel]; omega
                  rw [e]; exact rright_8 o a b m h0 h1 h2 h3 h4 h5 h6 h7 w

set_option maxHeartbeats 400000 in
theorem rpack_no (i : I) (h : M.rt i = false) (w : World) :
    Calls Try.prog 11 #[iv i] w fun e w' => e = .returned (.tuple #[.int .u64 0, .int .i64 10]) ∧ w.grownBy w' none := by
  replace h := hideIt h
  go_enter Try.func11, Try.ntmps11
  go_upto_region 1 with (refine wpList_boxW rfl _ rfl rfl ?_; intro W1 q B g1 l1)
  go_wp2_with (refine wpList_loadW rfl _ rfl rfl B tkJ rfl ?_)
  refine (rright_is i _ h.out _).mono ?_
  rintro e w1 ⟨rfl, g2⟩
  go_wp2
  go_ret2
  exact ⟨rfl, gbTrans g1 g2⟩
set_option maxHeartbeats 400000 in
theorem rpack_yes (o a b m : Nat) (ho : o < 18) (ha : a < 8) (hb : b < 8) (hm : m < 4096)
    (H0 : ∀ w, Calls Try.prog 22 #[iv ⟨o, a, b, m⟩] w fun e w' => e = .returned (.bool true) ∧ w.grownBy w' none) (w : World) :
    Calls Try.prog 11 #[iv ⟨o, a, b, m⟩] w fun e w' => e = .returned (.tuple #[.int .u64 (M.wd ⟨o, a, b, m⟩), .int .i64 0]) ∧ w.grownBy w' none := by
  go_enter Try.func11, Try.ntmps11
  go_upto_region 1 with (refine wpList_boxW rfl _ rfl rfl ?_; intro W1 q B g1 l1)
  go_wp2_with (refine wpList_loadW rfl _ rfl rfl B tkJ rfl ?_)
  refine (H0 _).mono ?_
  rintro e w1 ⟨rfl, g2⟩
  replace B := B.kept g2
  have G := gbTrans g1 g2
  clear g1 g2 l1 H0
  obtain ⟨a0, a1, a2, a3⟩ := B.four (i := ⟨o, a, b, m⟩)
  simp only at a0 a1 a2 a3
  go_wp2
  go_ret2
  exact ⟨rfl, G⟩
theorem rpack_is (i : I) (x f : Int) (h : M.pk i = (x, f)) (w : World) :
    Calls Try.prog 11 #[iv i] w fun e w' => e = .returned (.tuple #[.int .u64 x, .int .i64 f]) ∧ w.grownBy w' none := by
  unfold M.pk at h
  by_cases c : M.rt i = true
  · rw [if_pos c] at h
    obtain ⟨o, a, b, m, rfl, ho, ha, hb, hm⟩ := M.rt_nat c
    simp only [Prod.mk.injEq] at h
    obtain ⟨rfl, rfl⟩ := h
    exact rpack_yes o a b m ho ha hb hm (rright_is _ _ c) w
  · rw [if_neg c] at h
    simp only [Prod.mk.injEq] at h
    obtain ⟨rfl, rfl⟩ := h
    exact rpack_no i (by simpa using c) w

/-! ### Unpack: what it says of a word -/
theorem M.up_yes {W : Nat} (h1 : W < 8388608) (h2 : W % 32 < 18) : M.up W = (⟨((W % 32 : Nat) : Int), ((W / 32 % 8 : Nat) : Int), ((W / 256 % 8 : Nat) : Int), ((W / 2048 : Nat) : Int)⟩, 0) := by
  have e : M.fe W = ⟨((W % 32 : Nat) : Int), ((W / 32 % 8 : Nat) : Int), ((W / 256 % 8 : Nat) : Int), ((W / 2048 : Nat) : Int)⟩ := by
    simp only [M.fe, I.mk.injEq, true_and]; omega
  have q : M.pk (M.fe W) = ((W : Int), 0) := by
    rw [e]
    unfold M.pk
    rw [if_pos (M.rt_yes h2 (by omega) (by omega) (by omega))]
    simp only [Prod.mk.injEq, and_true, M.wd]
    omega
  unfold M.up
  rw [if_pos q, e]
theorem M.up_no {W : Nat} (h : ¬ (W < 8388608 ∧ W % 32 < 18)) : M.up W = (I.zero, 10) := by
  have q : ¬ M.pk (M.fe W) = ((W : Int), 0) := by
    intro q
    unfold M.pk at q
    by_cases c : M.rt (M.fe W) = true
    · rw [if_pos c] at q
      unfold M.rt at c
      simp only [Bool.and_eq_true, M.bel_iff, M.fe] at c
      simp only [Prod.mk.injEq, and_true, M.wd, M.fe] at q
      omega
    · rw [if_neg c] at q
      simp at q
  unfold M.up
  rw [if_neg q]

set_option maxHeartbeats 1000000 in
theorem runpack_high (W : Nat) (h : ¬ W < 8388608) (w : World) :
    Calls Try.prog 13 #[.int .u64 W] w fun e w' => e = .returned (.tuple #[iv I.zero, .int .i64 10]) ∧ w.grownBy w' none := by
  have h' : (8388608 : Int) ≤ (W : Int) := by omega
  clear h
  go_enter Try.func13, Try.ntmps13
  go_upto_region 1 with (refine wpList_allocW rfl rfl zJ ?_; intro W2 z C g2 l2)
  go_wp2_with (first | (refine wpList_buildW rfl [] rfl [] rfl (ic I.zero) (by kernel_rfl) ?_) | (refine wpList_storeW rfl _ _ rfl rfl rfl C tkJ rfl rfl (ic_one _) ?_; intro W9 C9 g9))
  exact bodyPost_ret (results_We Try.results13 rfl rfl C9 tkJ rfl) rfl ⟨rfl, gbNew (gbTrans (gbAny g2 _) g9) l2⟩

theorem rowNew (w : World) (c : Array Value) (t : TypeId) : ∃ W, w.alloc (.cells c t) = W ∧ Rw W w.heap.size t c ∧ w.grownBy W none := ⟨_, rfl, Rw.made w c t, gbAlloc _ _ _⟩
/-- A word's four fields, the last one not cut. -/
abbrev fe4 (W : Int) : I := ⟨W % 32, W / 32 % 8, W / 256 % 8, W / 2048⟩

set_option maxHeartbeats 1000000 in
theorem runpack_no (W : Nat) (h' : ¬ (8388608 : Int) ≤ (W : Int))
    (HR : ∀ w, Calls Try.prog 22 #[iv (fe4 W)] w fun e w' => e = .returned (.bool false) ∧ w.grownBy w' none) (w : World) :
    Calls Try.prog 13 #[.int .u64 W] w fun e w' => e = .returned (.tuple #[iv I.zero, .int .i64 10]) ∧ w.grownBy w' none := by
  go_enter Try.func13, Try.ntmps13
  go_upto_region 1 with (refine wpList_allocW rfl rfl zJ ?_; intro W2 z C g2 l2)
  go_upto_region 5 with fail
  obtain ⟨W1, hW, B1, k1⟩ := rowNew W2 (ic (fe4 W)) 23
  rw [hW]
  clear hW
  generalize W2.heap.size = x1 at B1
  replace C := C.kept k1
  have G := gbTrans g2 k1
  clear k1 g2
  go_wp2_with (refine wpList_loadW rfl _ rfl rfl B1 tkJ rfl ?_)
  refine (HR _).mono ?_
  rintro e w3 ⟨rfl, g3⟩
  replace C := C.kept g3
  replace B1 := B1.kept g3
  replace G := gbTrans G g3
  clear g3 HR
  go_wp2_with (first | (refine wpList_buildW rfl [] rfl [] rfl (ic I.zero) (by kernel_rfl) ?_) | (refine wpList_loadW rfl _ rfl rfl B1 tkJ rfl ?_) | (refine wpList_storeW rfl _ _ rfl rfl rfl C tkJ rfl rfl (ic_one _) ?_; intro W9 C9 g9))
  exact bodyPost_ret (results_We Try.results13 rfl rfl C9 tkJ rfl) rfl ⟨rfl, gbNew (gbTrans (gbAny G _) g9) l2⟩

set_option maxHeartbeats 1000000 in
theorem runpack_yes (W : Nat) (h' : ¬ (8388608 : Int) ≤ (W : Int))
    (HR : ∀ w, Calls Try.prog 22 #[iv (fe4 W)] w fun e w' => e = .returned (.bool true) ∧ w.grownBy w' none) (w : World) :
    Calls Try.prog 13 #[.int .u64 W] w fun e w' => e = .returned (.tuple #[iv (fe4 W), .int .i64 0]) ∧ w.grownBy w' none := by
  go_enter Try.func13, Try.ntmps13
  go_upto_region 1 with (refine wpList_allocW rfl rfl zJ ?_; intro W2 z C g2 l2)
  go_upto_region 5 with fail
  obtain ⟨W1, hW, B1, k1⟩ := rowNew W2 (ic (fe4 W)) 23
  rw [hW]
  clear hW
  generalize W2.heap.size = x1 at B1
  replace C := C.kept k1
  have G := gbTrans g2 k1
  clear k1 g2
  go_wp2_with (refine wpList_loadW rfl _ rfl rfl B1 tkJ rfl ?_)
  refine (HR _).mono ?_
  rintro e w3 ⟨rfl, g3⟩
  replace C := C.kept g3
  replace B1 := B1.kept g3
  replace G := gbTrans G g3
  clear g3 HR
  go_wp2_with (first | (refine wpList_buildW rfl [] rfl [] rfl (ic I.zero) (by kernel_rfl) ?_) | (refine wpList_loadW rfl _ rfl rfl B1 tkJ rfl ?_) | (refine wpList_storeW rfl _ _ rfl rfl rfl C tkJ rfl rfl (ic_one _) ?_; intro W9 C9 g9))
  exact bodyPost_ret (results_We Try.results13 rfl rfl C9 tkJ rfl) rfl ⟨rfl, gbNew (gbTrans (gbAny G _) g9) l2⟩

theorem runpack_is (W : Nat) (c : I) (f : Int) (h : M.up W = (c, f)) (w : World) :
    Calls Try.prog 13 #[.int .u64 W] w fun e w' => e = .returned (.tuple #[iv c, .int .i64 f]) ∧ w.grownBy w' none := by
  by_cases c1 : W < 8388608
  · by_cases c2 : W % 32 < 18
    · rw [M.up_yes c1 c2] at h
      simp only [Prod.mk.injEq] at h
      obtain ⟨rfl, rfl⟩ := h
      have k : M.rt (fe4 W) = true := by simp [M.rt, M.bel]; omega
      exact runpack_yes W (by omega) (rright_is _ _ k) w
    · rw [M.up_no (by omega)] at h
      simp only [Prod.mk.injEq] at h
      obtain ⟨rfl, rfl⟩ := h
      have k : M.rt (fe4 W) = false := by simp [M.rt, M.bel]; omega
      exact runpack_no W (by omega) (rright_is _ _ k) w
  · rw [M.up_no (by omega)] at h
    simp only [Prod.mk.injEq] at h
    obtain ⟨rfl, rfl⟩ := h
    exact runpack_high W c1 w
end Go.Proofs.Yteekgfdffofnaaa
