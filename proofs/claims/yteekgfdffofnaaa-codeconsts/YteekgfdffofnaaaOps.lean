/-
  THE CONTRACTS of package code's inner functions result, after, asked (written by mkops.py).
-/
import Derived.Test.YteekgfdffofnaaaPla
namespace Go.Proofs.Yteekgfdffofnaaa
set_option maxRecDepth 10000
open Go.RowKit
set_option linter.unusedVariables false

set_option maxHeartbeats 400000 in
theorem res_0 (a b x v : Int) (m y : Nat) (hm : m < 4096) (h : M.re 0 m x y = v) (w : World) :
    Calls Try.prog 26 #[iv ⟨0, a, b, (m : Int)⟩, .int .u64 x, .int .u64 y] w fun e w' => e = .returned (.int .u64 v) ∧ w.grownBy w' none := by
  subst h
  go_enter Try.func26, Try.ntmps26
  go_wp2
  go_ret
  exact ⟨rfl, gbAlloc _ _ _⟩

set_option maxHeartbeats 400000 in
theorem res_1 (a b x v : Int) (m y : Nat) (hm : m < 4096) (h : M.re 1 m x y = v) (w : World) :
    Calls Try.prog 26 #[iv ⟨1, a, b, (m : Int)⟩, .int .u64 x, .int .u64 y] w fun e w' => e = .returned (.int .u64 v) ∧ w.grownBy w' none := by
  subst h
  go_enter Try.func26, Try.ntmps26
  go_wp2
  go_ret
  exact ⟨rfl, gbAlloc _ _ _⟩

set_option maxHeartbeats 400000 in
theorem res_2 (a b x v : Int) (m y : Nat) (hm : m < 4096) (h : M.re 2 m x y = v) (w : World) :
    Calls Try.prog 26 #[iv ⟨2, a, b, (m : Int)⟩, .int .u64 x, .int .u64 y] w fun e w' => e = .returned (.int .u64 v) ∧ w.grownBy w' none := by
  subst h
  go_enter Try.func26, Try.ntmps26
  go_wp2
  go_ret
  exact ⟨rfl, gbAlloc _ _ _⟩

set_option maxHeartbeats 400000 in
theorem res_3 (a b x v : Int) (m y : Nat) (hm : m < 4096) (h : M.re 3 m x y = v) (w : World) :
    Calls Try.prog 26 #[iv ⟨3, a, b, (m : Int)⟩, .int .u64 x, .int .u64 y] w fun e w' => e = .returned (.int .u64 v) ∧ w.grownBy w' none := by
  subst h
  go_enter Try.func26, Try.ntmps26
  go_wp2
  go_ret
  exact ⟨rfl, gbAlloc _ _ _⟩

set_option maxHeartbeats 400000 in
theorem res_4 (a b x v : Int) (m y : Nat) (hm : m < 4096) (h : M.re 4 m x y = v) (w : World) :
    Calls Try.prog 26 #[iv ⟨4, a, b, (m : Int)⟩, .int .u64 x, .int .u64 y] w fun e w' => e = .returned (.int .u64 v) ∧ w.grownBy w' none := by
  subst h
  go_enter Try.func26, Try.ntmps26
  go_wp2
  go_ret
  exact ⟨rfl, gbAlloc _ _ _⟩

set_option maxHeartbeats 400000 in
theorem res_5 (a b x v : Int) (m y : Nat) (hm : m < 4096) (h : M.re 5 m x y = v) (w : World) :
    Calls Try.prog 26 #[iv ⟨5, a, b, (m : Int)⟩, .int .u64 x, .int .u64 y] w fun e w' => e = .returned (.int .u64 v) ∧ w.grownBy w' none := by
  subst h
  go_enter Try.func26, Try.ntmps26
  go_wp2
  go_ret
  exact ⟨rfl, gbAlloc _ _ _⟩

set_option maxHeartbeats 400000 in
theorem res_6 (a b x v : Int) (m y : Nat) (hm : m < 4096) (h : M.re 6 m x y = v) (w : World) :
    Calls Try.prog 26 #[iv ⟨6, a, b, (m : Int)⟩, .int .u64 x, .int .u64 y] w fun e w' => e = .returned (.int .u64 v) ∧ w.grownBy w' none := by
  subst h
  go_enter Try.func26, Try.ntmps26
  go_wp2
  go_ret
  exact ⟨rfl, gbAlloc _ _ _⟩

set_option maxHeartbeats 400000 in
theorem res_7 (a b x v : Int) (m y : Nat) (hm : m < 4096) (h : M.re 7 m x y = v) (w : World) :
    Calls Try.prog 26 #[iv ⟨7, a, b, (m : Int)⟩, .int .u64 x, .int .u64 y] w fun e w' => e = .returned (.int .u64 v) ∧ w.grownBy w' none := by
  subst h
  go_enter Try.func26, Try.ntmps26
  go_wp2
  go_ret
  exact ⟨rfl, gbAlloc _ _ _⟩

set_option maxHeartbeats 400000 in
theorem res_8 (a b x v : Int) (m y : Nat) (hm : m < 4096) (h : M.re 8 m x y = v) (w : World) :
    Calls Try.prog 26 #[iv ⟨8, a, b, (m : Int)⟩, .int .u64 x, .int .u64 y] w fun e w' => e = .returned (.int .u64 v) ∧ w.grownBy w' none := by
  subst h
  go_enter Try.func26, Try.ntmps26
  go_wp2
  go_ret
  exact ⟨rfl, gbAlloc _ _ _⟩

set_option maxHeartbeats 400000 in
theorem res_9 (a b x v : Int) (m y : Nat) (hm : m < 4096) (h : M.re 9 m x y = v) (w : World) :
    Calls Try.prog 26 #[iv ⟨9, a, b, (m : Int)⟩, .int .u64 x, .int .u64 y] w fun e w' => e = .returned (.int .u64 v) ∧ w.grownBy w' none := by
  subst h
  go_enter Try.func26, Try.ntmps26
  go_wp2
  go_ret
  exact ⟨rfl, gbAlloc _ _ _⟩

set_option maxHeartbeats 400000 in
theorem res_10 (a b x v : Int) (m y : Nat) (hm : m < 4096) (h : M.re 10 m x y = v) (w : World) :
    Calls Try.prog 26 #[iv ⟨10, a, b, (m : Int)⟩, .int .u64 x, .int .u64 y] w fun e w' => e = .returned (.int .u64 v) ∧ w.grownBy w' none := by
  subst h
  go_enter Try.func26, Try.ntmps26
  go_wp2
  go_ret
  exact ⟨rfl, gbAlloc _ _ _⟩

set_option maxHeartbeats 400000 in
theorem res_11 (a b x v : Int) (m y : Nat) (hm : m < 4096) (h : M.re 11 m x y = v) (w : World) :
    Calls Try.prog 26 #[iv ⟨11, a, b, (m : Int)⟩, .int .u64 x, .int .u64 y] w fun e w' => e = .returned (.int .u64 v) ∧ w.grownBy w' none := by
  subst h
  go_enter Try.func26, Try.ntmps26
  go_wp2
  go_ret
  exact ⟨rfl, gbAlloc _ _ _⟩

set_option maxHeartbeats 400000 in
theorem res_12 (a b x v : Int) (m y : Nat) (hm : m < 4096) (h : M.re 12 m x y = v) (w : World) :
    Calls Try.prog 26 #[iv ⟨12, a, b, (m : Int)⟩, .int .u64 x, .int .u64 y] w fun e w' => e = .returned (.int .u64 v) ∧ w.grownBy w' none := by
  subst h
  go_enter Try.func26, Try.ntmps26
  go_wp2
  go_ret
  exact ⟨rfl, gbAlloc _ _ _⟩

set_option maxHeartbeats 400000 in
theorem res_13 (a b x v : Int) (m y : Nat) (hm : m < 4096) (h : M.re 13 m x y = v) (w : World) :
    Calls Try.prog 26 #[iv ⟨13, a, b, (m : Int)⟩, .int .u64 x, .int .u64 y] w fun e w' => e = .returned (.int .u64 v) ∧ w.grownBy w' none := by
  subst h
  go_enter Try.func26, Try.ntmps26
  go_wp2
  go_ret
  exact ⟨rfl, gbAlloc _ _ _⟩

set_option maxHeartbeats 400000 in
theorem res_14 (a b x v : Int) (m y : Nat) (hm : m < 4096) (h : M.re 14 m x y = v) (w : World) :
    Calls Try.prog 26 #[iv ⟨14, a, b, (m : Int)⟩, .int .u64 x, .int .u64 y] w fun e w' => e = .returned (.int .u64 v) ∧ w.grownBy w' none := by
  subst h
  go_enter Try.func26, Try.ntmps26
  go_wp2
  go_ret
  exact ⟨rfl, gbAlloc _ _ _⟩

set_option maxHeartbeats 400000 in
theorem res_15 (a b x v : Int) (m y : Nat) (hm : m < 4096) (h : M.re 15 m x y = v) (w : World) :
    Calls Try.prog 26 #[iv ⟨15, a, b, (m : Int)⟩, .int .u64 x, .int .u64 y] w fun e w' => e = .returned (.int .u64 v) ∧ w.grownBy w' none := by
  subst h
  go_enter Try.func26, Try.ntmps26
  go_wp2
  go_ret
  exact ⟨rfl, gbAlloc _ _ _⟩

set_option maxHeartbeats 400000 in
theorem res_16 (a b x v : Int) (m y : Nat) (hm : m < 4096) (h : M.re 16 m x y = v) (w : World) :
    Calls Try.prog 26 #[iv ⟨16, a, b, (m : Int)⟩, .int .u64 x, .int .u64 y] w fun e w' => e = .returned (.int .u64 v) ∧ w.grownBy w' none := by
  subst h
  go_enter Try.func26, Try.ntmps26
  go_wp2
  go_ret
  exact ⟨rfl, gbAlloc _ _ _⟩

set_option maxHeartbeats 400000 in
theorem res_17 (a b x v : Int) (m y : Nat) (hm : m < 4096) (h : M.re 17 m x y = v) (w : World) :
    Calls Try.prog 26 #[iv ⟨17, a, b, (m : Int)⟩, .int .u64 x, .int .u64 y] w fun e w' => e = .returned (.int .u64 v) ∧ w.grownBy w' none := by
  subst h
  go_enter Try.func26, Try.ntmps26
  go_wp2
  go_ret
  exact ⟨rfl, gbAlloc _ _ _⟩

theorem result_is (o a b m : Nat) (x y v : Int) (ho : o < 18) (hm : m < 4096) (hy : 0 ≤ y) (h : M.re o m x y = v) (w : World) :
    Calls Try.prog 26 #[iv ⟨o, a, b, m⟩, .int .u64 x, .int .u64 y] w fun e w' => e = .returned (.int .u64 v) ∧ w.grownBy w' none := by
  obtain ⟨y, rfl⟩ : ∃ Y : Nat, y = Y := ⟨y.toNat, by omega⟩
  have e : o = 0 ∨ o = 1 ∨ o = 2 ∨ o = 3 ∨ o = 4 ∨ o = 5 ∨ o = 6 ∨ o = 7 ∨ o = 8 ∨ o = 9 ∨ o = 10 ∨ o = 11 ∨ o = 12 ∨ o = 13 ∨ o = 14 ∨ o = 15 ∨ o = 16 ∨ o = 17 := by omega
  rcases e with rfl | rfl | rfl | rfl | rfl | rfl | rfl | rfl | rfl | rfl | rfl | rfl | rfl | rfl | rfl | rfl | rfl | rfl
  · exact res_0 a b x v m y hm h w
  · exact res_1 a b x v m y hm h w
  · exact res_2 a b x v m y hm h w
  · exact res_3 a b x v m y hm h w
  · exact res_4 a b x v m y hm h w
  · exact res_5 a b x v m y hm h w
  · exact res_6 a b x v m y hm h w
  · exact res_7 a b x v m y hm h w
  · exact res_8 a b x v m y hm h w
  · exact res_9 a b x v m y hm h w
  · exact res_10 a b x v m y hm h w
  · exact res_11 a b x v m y hm h w
  · exact res_12 a b x v m y hm h w
  · exact res_13 a b x v m y hm h w
  · exact res_14 a b x v m y hm h w
  · exact res_15 a b x v m y hm h w
  · exact res_16 a b x v m y hm h w
  · exact res_17 a b x v m y hm h w

set_option maxHeartbeats 400000 in
theorem aft_0 (a b x y m : Int) (p : Nat) (hp : p < 4096) (w : World) :
    Calls Try.prog 27 #[iv ⟨0, a, b, m⟩, .int .u64 x, .int .u64 y, .int .i64 p] w fun e w' => e = .returned (.int .i64 ((p : Int))) ∧ w.grownBy w' none := by
  go_enter Try.func27, Try.ntmps27
  go_wp2
  go_ret
  exact ⟨rfl, gbAlloc _ _ _⟩

set_option maxHeartbeats 400000 in
theorem aft_1 (a b x y m : Int) (p : Nat) (hp : p < 4096) (w : World) :
    Calls Try.prog 27 #[iv ⟨1, a, b, m⟩, .int .u64 x, .int .u64 y, .int .i64 p] w fun e w' => e = .returned (.int .i64 (((p : Int) + 1) % 4096)) ∧ w.grownBy w' none := by
  go_enter Try.func27, Try.ntmps27
  go_wp2
  go_ret
  exact ⟨rfl, gbAlloc _ _ _⟩

set_option maxHeartbeats 400000 in
theorem aft_2 (a b x y m : Int) (p : Nat) (hp : p < 4096) (w : World) :
    Calls Try.prog 27 #[iv ⟨2, a, b, m⟩, .int .u64 x, .int .u64 y, .int .i64 p] w fun e w' => e = .returned (.int .i64 (((p : Int) + 1) % 4096)) ∧ w.grownBy w' none := by
  go_enter Try.func27, Try.ntmps27
  go_wp2
  go_ret
  exact ⟨rfl, gbAlloc _ _ _⟩

set_option maxHeartbeats 400000 in
theorem aft_3 (a b x y m : Int) (p : Nat) (hp : p < 4096) (w : World) :
    Calls Try.prog 27 #[iv ⟨3, a, b, m⟩, .int .u64 x, .int .u64 y, .int .i64 p] w fun e w' => e = .returned (.int .i64 (((p : Int) + 1) % 4096)) ∧ w.grownBy w' none := by
  go_enter Try.func27, Try.ntmps27
  go_wp2
  go_ret
  exact ⟨rfl, gbAlloc _ _ _⟩

set_option maxHeartbeats 400000 in
theorem aft_4 (a b x y m : Int) (p : Nat) (hp : p < 4096) (w : World) :
    Calls Try.prog 27 #[iv ⟨4, a, b, m⟩, .int .u64 x, .int .u64 y, .int .i64 p] w fun e w' => e = .returned (.int .i64 (((p : Int) + 1) % 4096)) ∧ w.grownBy w' none := by
  go_enter Try.func27, Try.ntmps27
  go_wp2
  go_ret
  exact ⟨rfl, gbAlloc _ _ _⟩

set_option maxHeartbeats 400000 in
theorem aft_5 (a b x y m : Int) (p : Nat) (hp : p < 4096) (w : World) :
    Calls Try.prog 27 #[iv ⟨5, a, b, m⟩, .int .u64 x, .int .u64 y, .int .i64 p] w fun e w' => e = .returned (.int .i64 (((p : Int) + 1) % 4096)) ∧ w.grownBy w' none := by
  go_enter Try.func27, Try.ntmps27
  go_wp2
  go_ret
  exact ⟨rfl, gbAlloc _ _ _⟩

set_option maxHeartbeats 400000 in
theorem aft_6 (a b x y m : Int) (p : Nat) (hp : p < 4096) (w : World) :
    Calls Try.prog 27 #[iv ⟨6, a, b, m⟩, .int .u64 x, .int .u64 y, .int .i64 p] w fun e w' => e = .returned (.int .i64 (((p : Int) + 1) % 4096)) ∧ w.grownBy w' none := by
  go_enter Try.func27, Try.ntmps27
  go_wp2
  go_ret
  exact ⟨rfl, gbAlloc _ _ _⟩

set_option maxHeartbeats 400000 in
theorem aft_7 (a b x y m : Int) (p : Nat) (hp : p < 4096) (w : World) :
    Calls Try.prog 27 #[iv ⟨7, a, b, m⟩, .int .u64 x, .int .u64 y, .int .i64 p] w fun e w' => e = .returned (.int .i64 (((p : Int) + 1) % 4096)) ∧ w.grownBy w' none := by
  go_enter Try.func27, Try.ntmps27
  go_wp2
  go_ret
  exact ⟨rfl, gbAlloc _ _ _⟩

set_option maxHeartbeats 400000 in
theorem aft_8 (a b x y m : Int) (p : Nat) (hp : p < 4096) (w : World) :
    Calls Try.prog 27 #[iv ⟨8, a, b, m⟩, .int .u64 x, .int .u64 y, .int .i64 p] w fun e w' => e = .returned (.int .i64 (((p : Int) + 1) % 4096)) ∧ w.grownBy w' none := by
  go_enter Try.func27, Try.ntmps27
  go_wp2
  go_ret
  exact ⟨rfl, gbAlloc _ _ _⟩

set_option maxHeartbeats 400000 in
theorem aft_9 (a b x y m : Int) (p : Nat) (hp : p < 4096) (w : World) :
    Calls Try.prog 27 #[iv ⟨9, a, b, m⟩, .int .u64 x, .int .u64 y, .int .i64 p] w fun e w' => e = .returned (.int .i64 (((p : Int) + 1) % 4096)) ∧ w.grownBy w' none := by
  go_enter Try.func27, Try.ntmps27
  go_wp2
  go_ret
  exact ⟨rfl, gbAlloc _ _ _⟩

set_option maxHeartbeats 400000 in
theorem aft_10 (a b x y m : Int) (p : Nat) (hp : p < 4096) (w : World) :
    Calls Try.prog 27 #[iv ⟨10, a, b, m⟩, .int .u64 x, .int .u64 y, .int .i64 p] w fun e w' => e = .returned (.int .i64 (((p : Int) + 1) % 4096)) ∧ w.grownBy w' none := by
  go_enter Try.func27, Try.ntmps27
  go_wp2
  go_ret
  exact ⟨rfl, gbAlloc _ _ _⟩

set_option maxHeartbeats 400000 in
theorem aft_11 (a b x y m : Int) (p : Nat) (hp : p < 4096) (w : World) :
    Calls Try.prog 27 #[iv ⟨11, a, b, m⟩, .int .u64 x, .int .u64 y, .int .i64 p] w fun e w' => e = .returned (.int .i64 (((p : Int) + 1) % 4096)) ∧ w.grownBy w' none := by
  go_enter Try.func27, Try.ntmps27
  go_wp2
  go_ret
  exact ⟨rfl, gbAlloc _ _ _⟩

set_option maxHeartbeats 400000 in
theorem aft_12 (a b x y m : Int) (p : Nat) (hp : p < 4096) (w : World) :
    Calls Try.prog 27 #[iv ⟨12, a, b, m⟩, .int .u64 x, .int .u64 y, .int .i64 p] w fun e w' => e = .returned (.int .i64 (((p : Int) + 1) % 4096)) ∧ w.grownBy w' none := by
  go_enter Try.func27, Try.ntmps27
  go_wp2
  go_ret
  exact ⟨rfl, gbAlloc _ _ _⟩

set_option maxHeartbeats 400000 in
theorem aft_13 (a b x y m : Int) (p : Nat) (hp : p < 4096) (w : World) :
    Calls Try.prog 27 #[iv ⟨13, a, b, m⟩, .int .u64 x, .int .u64 y, .int .i64 p] w fun e w' => e = .returned (.int .i64 (m)) ∧ w.grownBy w' none := by
  go_enter Try.func27, Try.ntmps27
  go_wp2
  go_ret
  exact ⟨rfl, gbAlloc _ _ _⟩

set_option maxHeartbeats 400000 in
theorem aft_14y (a b x y m : Int) (p : Nat) (hp : p < 4096) (h : x = 0) (w : World) :
    Calls Try.prog 27 #[iv ⟨14, a, b, m⟩, .int .u64 x, .int .u64 y, .int .i64 p] w fun e w' => e = .returned (.int .i64 (m)) ∧ w.grownBy w' none := by
  go_enter Try.func27, Try.ntmps27
  go_wp2
  go_ret
  exact ⟨rfl, gbAlloc _ _ _⟩

set_option maxHeartbeats 400000 in
theorem aft_14n (a b x y m : Int) (p : Nat) (hp : p < 4096) (h : ¬ x = 0) (w : World) :
    Calls Try.prog 27 #[iv ⟨14, a, b, m⟩, .int .u64 x, .int .u64 y, .int .i64 p] w fun e w' => e = .returned (.int .i64 (((p : Int) + 1) % 4096)) ∧ w.grownBy w' none := by
  go_enter Try.func27, Try.ntmps27
  go_wp2
  go_ret
  exact ⟨rfl, gbAlloc _ _ _⟩

set_option maxHeartbeats 400000 in
theorem aft_15y (a b x y m : Int) (p : Nat) (hp : p < 4096) (h : x < y) (w : World) :
    Calls Try.prog 27 #[iv ⟨15, a, b, m⟩, .int .u64 x, .int .u64 y, .int .i64 p] w fun e w' => e = .returned (.int .i64 (m)) ∧ w.grownBy w' none := by
  go_enter Try.func27, Try.ntmps27
  go_wp2
  go_ret
  exact ⟨rfl, gbAlloc _ _ _⟩

set_option maxHeartbeats 400000 in
theorem aft_15n (a b x y m : Int) (p : Nat) (hp : p < 4096) (h : ¬ x < y) (w : World) :
    Calls Try.prog 27 #[iv ⟨15, a, b, m⟩, .int .u64 x, .int .u64 y, .int .i64 p] w fun e w' => e = .returned (.int .i64 (((p : Int) + 1) % 4096)) ∧ w.grownBy w' none := by
  go_enter Try.func27, Try.ntmps27
  go_wp2
  go_ret
  exact ⟨rfl, gbAlloc _ _ _⟩

set_option maxHeartbeats 400000 in
theorem aft_16 (a b x y m : Int) (p : Nat) (hp : p < 4096) (w : World) :
    Calls Try.prog 27 #[iv ⟨16, a, b, m⟩, .int .u64 x, .int .u64 y, .int .i64 p] w fun e w' => e = .returned (.int .i64 (((p : Int) + 1) % 4096)) ∧ w.grownBy w' none := by
  go_enter Try.func27, Try.ntmps27
  go_wp2
  go_ret
  exact ⟨rfl, gbAlloc _ _ _⟩

set_option maxHeartbeats 400000 in
theorem aft_17 (a b x y m : Int) (p : Nat) (hp : p < 4096) (w : World) :
    Calls Try.prog 27 #[iv ⟨17, a, b, m⟩, .int .u64 x, .int .u64 y, .int .i64 p] w fun e w' => e = .returned (.int .i64 (((p : Int) + 1) % 4096)) ∧ w.grownBy w' none := by
  go_enter Try.func27, Try.ntmps27
  go_wp2
  go_ret
  exact ⟨rfl, gbAlloc _ _ _⟩

theorem after_is (o : Nat) (a b m x y v : Int) (p : Nat) (ho : o < 18) (hp : p < 4096) (h : M.af o m x y p = v) (w : World) :
    Calls Try.prog 27 #[iv ⟨o, a, b, m⟩, .int .u64 x, .int .u64 y, .int .i64 p] w fun e w' => e = .returned (.int .i64 v) ∧ w.grownBy w' none := by
  have e : o = 0 ∨ o = 1 ∨ o = 2 ∨ o = 3 ∨ o = 4 ∨ o = 5 ∨ o = 6 ∨ o = 7 ∨ o = 8 ∨ o = 9 ∨ o = 10 ∨ o = 11 ∨ o = 12 ∨ o = 13 ∨ o = 14 ∨ o = 15 ∨ o = 16 ∨ o = 17 := by omega
  rcases e with rfl | rfl | rfl | rfl | rfl | rfl | rfl | rfl | rfl | rfl | rfl | rfl | rfl | rfl | rfl | rfl | rfl | rfl
  · subst h; exact aft_0 a b x y m p hp w
  · subst h; exact aft_1 a b x y m p hp w
  · subst h; exact aft_2 a b x y m p hp w
  · subst h; exact aft_3 a b x y m p hp w
  · subst h; exact aft_4 a b x y m p hp w
  · subst h; exact aft_5 a b x y m p hp w
  · subst h; exact aft_6 a b x y m p hp w
  · subst h; exact aft_7 a b x y m p hp w
  · subst h; exact aft_8 a b x y m p hp w
  · subst h; exact aft_9 a b x y m p hp w
  · subst h; exact aft_10 a b x y m p hp w
  · subst h; exact aft_11 a b x y m p hp w
  · subst h; exact aft_12 a b x y m p hp w
  · subst h; exact aft_13 a b x y m p hp w
  · by_cases c : x = 0
    · have e : v = m := by rw [← h]; simp [M.af, c]
      rw [e]; exact aft_14y a b x y m p hp c w
    · have e : v = ((p : Int) + 1) % 4096 := by rw [← h]; simp [M.af, c]
      rw [e]; exact aft_14n a b x y m p hp c w
  · by_cases c : x < y
    · have e : v = m := by rw [← h]; simp [M.af, c]
      rw [e]; exact aft_15y a b x y m p hp c w
    · have e : v = ((p : Int) + 1) % 4096 := by rw [← h]; simp [M.af]; omega
      rw [e]; exact aft_15n a b x y m p hp c w
  · subst h; exact aft_16 a b x y m p hp w
  · subst h; exact aft_17 a b x y m p hp w

set_option maxHeartbeats 400000 in
theorem ask_0 (a b x y : Int) (m : Nat) (hm : m < 4096) (w : World) :
    Calls Try.prog 25 #[iv ⟨0, a, b, (m : Int)⟩, .int .u64 x, .int .u64 y] w fun e w' => e = .returned (.agg (ec (M.as 0 a m x y))) ∧ w.grownBy w' none := by
  go_enter Try.func25, Try.ntmps25
  go_upto_region 1 with (first | (refine wpList_boxW rfl _ rfl rfl ?_; intro W1 q B g1 l1) | (refine wpList_allocW rfl rfl zE ?_; intro W2 z C g2 l2))
  have ly : w.heap.size ≤ z := Nat.le_trans g1.size l2
  have G := gbTrans g1 g2
  replace B := B.kept g2
  clear g1 g2 l1 l2
  obtain ⟨a0, a1, a2, a3⟩ := B.four
  clear B
  go_wp2_with (first | (refine wpList_buildW rfl [(2, .const (.int .i64 4))] rfl [(2, .int .i64 4)] rfl (ec (M.as 0 a m x y)) (by kernel_rfl) ?_) | (refine wpList_storeW rfl _ _ rfl rfl rfl C tkE rfl rfl (ec_one _) ?_; intro W9 C9 g9))
  exact bodyPost_ret (results_W Try.results25 rfl C9 tkE rfl) rfl ⟨rfl, gbNew (gbTrans (gbAny G _) g9) ly⟩

set_option maxHeartbeats 400000 in
theorem ask_1 (a b x y : Int) (m : Nat) (hm : m < 4096) (w : World) :
    Calls Try.prog 25 #[iv ⟨1, a, b, (m : Int)⟩, .int .u64 x, .int .u64 y] w fun e w' => e = .returned (.agg (ec (M.as 1 a m x y))) ∧ w.grownBy w' none := by
  go_enter Try.func25, Try.ntmps25
  go_upto_region 1 with (first | (refine wpList_boxW rfl _ rfl rfl ?_; intro W1 q B g1 l1) | (refine wpList_allocW rfl rfl zE ?_; intro W2 z C g2 l2))
  have ly : w.heap.size ≤ z := Nat.le_trans g1.size l2
  have G := gbTrans g1 g2
  replace B := B.kept g2
  clear g1 g2 l1 l2
  obtain ⟨a0, a1, a2, a3⟩ := B.four
  clear B
  go_wp2_with (first | (refine wpList_buildW rfl [(2, .const (.int .i64 0))] rfl [(2, .int .i64 0)] rfl (ec (M.as 1 a m x y)) (by kernel_rfl) ?_) | (refine wpList_storeW rfl _ _ rfl rfl rfl C tkE rfl rfl (ec_one _) ?_; intro W9 C9 g9))
  exact bodyPost_ret (results_W Try.results25 rfl C9 tkE rfl) rfl ⟨rfl, gbNew (gbTrans (gbAny G _) g9) ly⟩

set_option maxHeartbeats 400000 in
theorem ask_2 (a b x y : Int) (m : Nat) (hm : m < 4096) (w : World) :
    Calls Try.prog 25 #[iv ⟨2, a, b, (m : Int)⟩, .int .u64 x, .int .u64 y] w fun e w' => e = .returned (.agg (ec (M.as 2 a m x y))) ∧ w.grownBy w' none := by
  go_enter Try.func25, Try.ntmps25
  go_upto_region 1 with (first | (refine wpList_boxW rfl _ rfl rfl ?_; intro W1 q B g1 l1) | (refine wpList_allocW rfl rfl zE ?_; intro W2 z C g2 l2))
  have ly : w.heap.size ≤ z := Nat.le_trans g1.size l2
  have G := gbTrans g1 g2
  replace B := B.kept g2
  clear g1 g2 l1 l2
  obtain ⟨a0, a1, a2, a3⟩ := B.four
  clear B
  go_wp2_with (first | (refine wpList_buildW rfl [(2, .const (.int .i64 0))] rfl [(2, .int .i64 0)] rfl (ec (M.as 2 a m x y)) (by kernel_rfl) ?_) | (refine wpList_storeW rfl _ _ rfl rfl rfl C tkE rfl rfl (ec_one _) ?_; intro W9 C9 g9))
  exact bodyPost_ret (results_W Try.results25 rfl C9 tkE rfl) rfl ⟨rfl, gbNew (gbTrans (gbAny G _) g9) ly⟩

set_option maxHeartbeats 400000 in
theorem ask_3 (a b x y : Int) (m : Nat) (hm : m < 4096) (w : World) :
    Calls Try.prog 25 #[iv ⟨3, a, b, (m : Int)⟩, .int .u64 x, .int .u64 y] w fun e w' => e = .returned (.agg (ec (M.as 3 a m x y))) ∧ w.grownBy w' none := by
  go_enter Try.func25, Try.ntmps25
  go_upto_region 1 with (first | (refine wpList_boxW rfl _ rfl rfl ?_; intro W1 q B g1 l1) | (refine wpList_allocW rfl rfl zE ?_; intro W2 z C g2 l2))
  have ly : w.heap.size ≤ z := Nat.le_trans g1.size l2
  have G := gbTrans g1 g2
  replace B := B.kept g2
  clear g1 g2 l1 l2
  obtain ⟨a0, a1, a2, a3⟩ := B.four
  clear B
  go_wp2_with (first | (refine wpList_buildW rfl [(2, .const (.int .i64 0))] rfl [(2, .int .i64 0)] rfl (ec (M.as 3 a m x y)) (by kernel_rfl) ?_) | (refine wpList_storeW rfl _ _ rfl rfl rfl C tkE rfl rfl (ec_one _) ?_; intro W9 C9 g9))
  exact bodyPost_ret (results_W Try.results25 rfl C9 tkE rfl) rfl ⟨rfl, gbNew (gbTrans (gbAny G _) g9) ly⟩

set_option maxHeartbeats 400000 in
theorem ask_4 (a b x y : Int) (m : Nat) (hm : m < 4096) (w : World) :
    Calls Try.prog 25 #[iv ⟨4, a, b, (m : Int)⟩, .int .u64 x, .int .u64 y] w fun e w' => e = .returned (.agg (ec (M.as 4 a m x y))) ∧ w.grownBy w' none := by
  go_enter Try.func25, Try.ntmps25
  go_upto_region 1 with (first | (refine wpList_boxW rfl _ rfl rfl ?_; intro W1 q B g1 l1) | (refine wpList_allocW rfl rfl zE ?_; intro W2 z C g2 l2))
  have ly : w.heap.size ≤ z := Nat.le_trans g1.size l2
  have G := gbTrans g1 g2
  replace B := B.kept g2
  clear g1 g2 l1 l2
  obtain ⟨a0, a1, a2, a3⟩ := B.four
  clear B
  go_wp2_with (first | (refine wpList_buildW rfl [(2, .const (.int .i64 0))] rfl [(2, .int .i64 0)] rfl (ec (M.as 4 a m x y)) (by kernel_rfl) ?_) | (refine wpList_storeW rfl _ _ rfl rfl rfl C tkE rfl rfl (ec_one _) ?_; intro W9 C9 g9))
  exact bodyPost_ret (results_W Try.results25 rfl C9 tkE rfl) rfl ⟨rfl, gbNew (gbTrans (gbAny G _) g9) ly⟩

set_option maxHeartbeats 400000 in
theorem ask_5 (a b x y : Int) (m : Nat) (hm : m < 4096) (w : World) :
    Calls Try.prog 25 #[iv ⟨5, a, b, (m : Int)⟩, .int .u64 x, .int .u64 y] w fun e w' => e = .returned (.agg (ec (M.as 5 a m x y))) ∧ w.grownBy w' none := by
  go_enter Try.func25, Try.ntmps25
  go_upto_region 1 with (first | (refine wpList_boxW rfl _ rfl rfl ?_; intro W1 q B g1 l1) | (refine wpList_allocW rfl rfl zE ?_; intro W2 z C g2 l2))
  have ly : w.heap.size ≤ z := Nat.le_trans g1.size l2
  have G := gbTrans g1 g2
  replace B := B.kept g2
  clear g1 g2 l1 l2
  obtain ⟨a0, a1, a2, a3⟩ := B.four
  clear B
  go_wp2_with (first | (refine wpList_buildW rfl [(2, .const (.int .i64 0))] rfl [(2, .int .i64 0)] rfl (ec (M.as 5 a m x y)) (by kernel_rfl) ?_) | (refine wpList_storeW rfl _ _ rfl rfl rfl C tkE rfl rfl (ec_one _) ?_; intro W9 C9 g9))
  exact bodyPost_ret (results_W Try.results25 rfl C9 tkE rfl) rfl ⟨rfl, gbNew (gbTrans (gbAny G _) g9) ly⟩

set_option maxHeartbeats 400000 in
theorem ask_6 (a b x y : Int) (m : Nat) (hm : m < 4096) (w : World) :
    Calls Try.prog 25 #[iv ⟨6, a, b, (m : Int)⟩, .int .u64 x, .int .u64 y] w fun e w' => e = .returned (.agg (ec (M.as 6 a m x y))) ∧ w.grownBy w' none := by
  go_enter Try.func25, Try.ntmps25
  go_upto_region 1 with (first | (refine wpList_boxW rfl _ rfl rfl ?_; intro W1 q B g1 l1) | (refine wpList_allocW rfl rfl zE ?_; intro W2 z C g2 l2))
  have ly : w.heap.size ≤ z := Nat.le_trans g1.size l2
  have G := gbTrans g1 g2
  replace B := B.kept g2
  clear g1 g2 l1 l2
  obtain ⟨a0, a1, a2, a3⟩ := B.four
  clear B
  go_wp2_with (first | (refine wpList_buildW rfl [(2, .const (.int .i64 0))] rfl [(2, .int .i64 0)] rfl (ec (M.as 6 a m x y)) (by kernel_rfl) ?_) | (refine wpList_storeW rfl _ _ rfl rfl rfl C tkE rfl rfl (ec_one _) ?_; intro W9 C9 g9))
  exact bodyPost_ret (results_W Try.results25 rfl C9 tkE rfl) rfl ⟨rfl, gbNew (gbTrans (gbAny G _) g9) ly⟩

set_option maxHeartbeats 400000 in
theorem ask_7 (a b x y : Int) (m : Nat) (hm : m < 4096) (w : World) :
    Calls Try.prog 25 #[iv ⟨7, a, b, (m : Int)⟩, .int .u64 x, .int .u64 y] w fun e w' => e = .returned (.agg (ec (M.as 7 a m x y))) ∧ w.grownBy w' none := by
  go_enter Try.func25, Try.ntmps25
  go_upto_region 1 with (first | (refine wpList_boxW rfl _ rfl rfl ?_; intro W1 q B g1 l1) | (refine wpList_allocW rfl rfl zE ?_; intro W2 z C g2 l2))
  have ly : w.heap.size ≤ z := Nat.le_trans g1.size l2
  have G := gbTrans g1 g2
  replace B := B.kept g2
  clear g1 g2 l1 l2
  obtain ⟨a0, a1, a2, a3⟩ := B.four
  clear B
  go_wp2_with (first | (refine wpList_buildW rfl [(2, .const (.int .i64 0))] rfl [(2, .int .i64 0)] rfl (ec (M.as 7 a m x y)) (by kernel_rfl) ?_) | (refine wpList_storeW rfl _ _ rfl rfl rfl C tkE rfl rfl (ec_one _) ?_; intro W9 C9 g9))
  exact bodyPost_ret (results_W Try.results25 rfl C9 tkE rfl) rfl ⟨rfl, gbNew (gbTrans (gbAny G _) g9) ly⟩

set_option maxHeartbeats 400000 in
theorem ask_8 (a b x y : Int) (m : Nat) (hm : m < 4096) (w : World) :
    Calls Try.prog 25 #[iv ⟨8, a, b, (m : Int)⟩, .int .u64 x, .int .u64 y] w fun e w' => e = .returned (.agg (ec (M.as 8 a m x y))) ∧ w.grownBy w' none := by
  go_enter Try.func25, Try.ntmps25
  go_upto_region 1 with (first | (refine wpList_boxW rfl _ rfl rfl ?_; intro W1 q B g1 l1) | (refine wpList_allocW rfl rfl zE ?_; intro W2 z C g2 l2))
  have ly : w.heap.size ≤ z := Nat.le_trans g1.size l2
  have G := gbTrans g1 g2
  replace B := B.kept g2
  clear g1 g2 l1 l2
  obtain ⟨a0, a1, a2, a3⟩ := B.four
  clear B
  go_wp2_with (first | (refine wpList_buildW rfl [(2, .const (.int .i64 0))] rfl [(2, .int .i64 0)] rfl (ec (M.as 8 a m x y)) (by kernel_rfl) ?_) | (refine wpList_storeW rfl _ _ rfl rfl rfl C tkE rfl rfl (ec_one _) ?_; intro W9 C9 g9))
  exact bodyPost_ret (results_W Try.results25 rfl C9 tkE rfl) rfl ⟨rfl, gbNew (gbTrans (gbAny G _) g9) ly⟩

set_option maxHeartbeats 400000 in
theorem ask_9 (a b x y : Int) (m : Nat) (hm : m < 4096) (w : World) :
    Calls Try.prog 25 #[iv ⟨9, a, b, (m : Int)⟩, .int .u64 x, .int .u64 y] w fun e w' => e = .returned (.agg (ec (M.as 9 a m x y))) ∧ w.grownBy w' none := by
  go_enter Try.func25, Try.ntmps25
  go_upto_region 1 with (first | (refine wpList_boxW rfl _ rfl rfl ?_; intro W1 q B g1 l1) | (refine wpList_allocW rfl rfl zE ?_; intro W2 z C g2 l2))
  have ly : w.heap.size ≤ z := Nat.le_trans g1.size l2
  have G := gbTrans g1 g2
  replace B := B.kept g2
  clear g1 g2 l1 l2
  obtain ⟨a0, a1, a2, a3⟩ := B.four
  clear B
  go_wp2_with (first | (refine wpList_buildW rfl [(2, .const (.int .i64 0))] rfl [(2, .int .i64 0)] rfl (ec (M.as 9 a m x y)) (by kernel_rfl) ?_) | (refine wpList_storeW rfl _ _ rfl rfl rfl C tkE rfl rfl (ec_one _) ?_; intro W9 C9 g9))
  exact bodyPost_ret (results_W Try.results25 rfl C9 tkE rfl) rfl ⟨rfl, gbNew (gbTrans (gbAny G _) g9) ly⟩

set_option maxHeartbeats 400000 in
theorem ask_10 (a b x y : Int) (m : Nat) (hm : m < 4096) (w : World) :
    Calls Try.prog 25 #[iv ⟨10, a, b, (m : Int)⟩, .int .u64 x, .int .u64 y] w fun e w' => e = .returned (.agg (ec (M.as 10 a m x y))) ∧ w.grownBy w' none := by
  go_enter Try.func25, Try.ntmps25
  go_upto_region 1 with (first | (refine wpList_boxW rfl _ rfl rfl ?_; intro W1 q B g1 l1) | (refine wpList_allocW rfl rfl zE ?_; intro W2 z C g2 l2))
  have ly : w.heap.size ≤ z := Nat.le_trans g1.size l2
  have G := gbTrans g1 g2
  replace B := B.kept g2
  clear g1 g2 l1 l2
  obtain ⟨a0, a1, a2, a3⟩ := B.four
  clear B
  go_wp2_with (first | (refine wpList_buildW rfl [(2, .const (.int .i64 0))] rfl [(2, .int .i64 0)] rfl (ec (M.as 10 a m x y)) (by kernel_rfl) ?_) | (refine wpList_storeW rfl _ _ rfl rfl rfl C tkE rfl rfl (ec_one _) ?_; intro W9 C9 g9))
  exact bodyPost_ret (results_W Try.results25 rfl C9 tkE rfl) rfl ⟨rfl, gbNew (gbTrans (gbAny G _) g9) ly⟩

set_option maxHeartbeats 400000 in
theorem ask_11 (a b x y : Int) (m : Nat) (hm : m < 4096) (w : World) :
    Calls Try.prog 25 #[iv ⟨11, a, b, (m : Int)⟩, .int .u64 x, .int .u64 y] w fun e w' => e = .returned (.agg (ec (M.as 11 a m x y))) ∧ w.grownBy w' none := by
  go_enter Try.func25, Try.ntmps25
  go_upto_region 1 with (first | (refine wpList_boxW rfl _ rfl rfl ?_; intro W1 q B g1 l1) | (refine wpList_allocW rfl rfl zE ?_; intro W2 z C g2 l2))
  have ly : w.heap.size ≤ z := Nat.le_trans g1.size l2
  have G := gbTrans g1 g2
  replace B := B.kept g2
  clear g1 g2 l1 l2
  obtain ⟨a0, a1, a2, a3⟩ := B.four
  clear B
  go_wp2_with (first | (refine wpList_buildW rfl [(2, .const (.int .i64 1)), (3, .tmp 20), (4, .tmp 22)] rfl [(2, .int .i64 1), (3, .int .u64 (IntKind.u64.wrap (y + (m : Int)))), (4, .int .i64 a)] rfl (ec (M.as 11 a m x y)) (by kernel_rfl) ?_) | (refine wpList_storeW rfl _ _ rfl rfl rfl C tkE rfl rfl (ec_one _) ?_; intro W9 C9 g9))
  exact bodyPost_ret (results_W Try.results25 rfl C9 tkE rfl) rfl ⟨rfl, gbNew (gbTrans (gbAny G _) g9) ly⟩

set_option maxHeartbeats 400000 in
theorem ask_12 (a b x y : Int) (m : Nat) (hm : m < 4096) (w : World) :
    Calls Try.prog 25 #[iv ⟨12, a, b, (m : Int)⟩, .int .u64 x, .int .u64 y] w fun e w' => e = .returned (.agg (ec (M.as 12 a m x y))) ∧ w.grownBy w' none := by
  go_enter Try.func25, Try.ntmps25
  go_upto_region 1 with (first | (refine wpList_boxW rfl _ rfl rfl ?_; intro W1 q B g1 l1) | (refine wpList_allocW rfl rfl zE ?_; intro W2 z C g2 l2))
  have ly : w.heap.size ≤ z := Nat.le_trans g1.size l2
  have G := gbTrans g1 g2
  replace B := B.kept g2
  clear g1 g2 l1 l2
  obtain ⟨a0, a1, a2, a3⟩ := B.four
  clear B
  go_wp2_with (first | (refine wpList_buildW rfl [(2, .const (.int .i64 2)), (3, .tmp 26), (5, .tmp 27)] rfl [(2, .int .i64 2), (3, .int .u64 (IntKind.u64.wrap (y + (m : Int)))), (5, .int .u64 x)] rfl (ec (M.as 12 a m x y)) (by kernel_rfl) ?_) | (refine wpList_storeW rfl _ _ rfl rfl rfl C tkE rfl rfl (ec_one _) ?_; intro W9 C9 g9))
  exact bodyPost_ret (results_W Try.results25 rfl C9 tkE rfl) rfl ⟨rfl, gbNew (gbTrans (gbAny G _) g9) ly⟩

set_option maxHeartbeats 400000 in
theorem ask_13 (a b x y : Int) (m : Nat) (hm : m < 4096) (w : World) :
    Calls Try.prog 25 #[iv ⟨13, a, b, (m : Int)⟩, .int .u64 x, .int .u64 y] w fun e w' => e = .returned (.agg (ec (M.as 13 a m x y))) ∧ w.grownBy w' none := by
  go_enter Try.func25, Try.ntmps25
  go_upto_region 1 with (first | (refine wpList_boxW rfl _ rfl rfl ?_; intro W1 q B g1 l1) | (refine wpList_allocW rfl rfl zE ?_; intro W2 z C g2 l2))
  have ly : w.heap.size ≤ z := Nat.le_trans g1.size l2
  have G := gbTrans g1 g2
  replace B := B.kept g2
  clear g1 g2 l1 l2
  obtain ⟨a0, a1, a2, a3⟩ := B.four
  clear B
  go_wp2_with (first | (refine wpList_buildW rfl [(2, .const (.int .i64 0))] rfl [(2, .int .i64 0)] rfl (ec (M.as 13 a m x y)) (by kernel_rfl) ?_) | (refine wpList_storeW rfl _ _ rfl rfl rfl C tkE rfl rfl (ec_one _) ?_; intro W9 C9 g9))
  exact bodyPost_ret (results_W Try.results25 rfl C9 tkE rfl) rfl ⟨rfl, gbNew (gbTrans (gbAny G _) g9) ly⟩

set_option maxHeartbeats 400000 in
theorem ask_14 (a b x y : Int) (m : Nat) (hm : m < 4096) (w : World) :
    Calls Try.prog 25 #[iv ⟨14, a, b, (m : Int)⟩, .int .u64 x, .int .u64 y] w fun e w' => e = .returned (.agg (ec (M.as 14 a m x y))) ∧ w.grownBy w' none := by
  go_enter Try.func25, Try.ntmps25
  go_upto_region 1 with (first | (refine wpList_boxW rfl _ rfl rfl ?_; intro W1 q B g1 l1) | (refine wpList_allocW rfl rfl zE ?_; intro W2 z C g2 l2))
  have ly : w.heap.size ≤ z := Nat.le_trans g1.size l2
  have G := gbTrans g1 g2
  replace B := B.kept g2
  clear g1 g2 l1 l2
  obtain ⟨a0, a1, a2, a3⟩ := B.four
  clear B
  go_wp2_with (first | (refine wpList_buildW rfl [(2, .const (.int .i64 0))] rfl [(2, .int .i64 0)] rfl (ec (M.as 14 a m x y)) (by kernel_rfl) ?_) | (refine wpList_storeW rfl _ _ rfl rfl rfl C tkE rfl rfl (ec_one _) ?_; intro W9 C9 g9))
  exact bodyPost_ret (results_W Try.results25 rfl C9 tkE rfl) rfl ⟨rfl, gbNew (gbTrans (gbAny G _) g9) ly⟩

set_option maxHeartbeats 400000 in
theorem ask_15 (a b x y : Int) (m : Nat) (hm : m < 4096) (w : World) :
    Calls Try.prog 25 #[iv ⟨15, a, b, (m : Int)⟩, .int .u64 x, .int .u64 y] w fun e w' => e = .returned (.agg (ec (M.as 15 a m x y))) ∧ w.grownBy w' none := by
  go_enter Try.func25, Try.ntmps25
  go_upto_region 1 with (first | (refine wpList_boxW rfl _ rfl rfl ?_; intro W1 q B g1 l1) | (refine wpList_allocW rfl rfl zE ?_; intro W2 z C g2 l2))
  have ly : w.heap.size ≤ z := Nat.le_trans g1.size l2
  have G := gbTrans g1 g2
  replace B := B.kept g2
  clear g1 g2 l1 l2
  obtain ⟨a0, a1, a2, a3⟩ := B.four
  clear B
  go_wp2_with (first | (refine wpList_buildW rfl [(2, .const (.int .i64 0))] rfl [(2, .int .i64 0)] rfl (ec (M.as 15 a m x y)) (by kernel_rfl) ?_) | (refine wpList_storeW rfl _ _ rfl rfl rfl C tkE rfl rfl (ec_one _) ?_; intro W9 C9 g9))
  exact bodyPost_ret (results_W Try.results25 rfl C9 tkE rfl) rfl ⟨rfl, gbNew (gbTrans (gbAny G _) g9) ly⟩

set_option maxHeartbeats 400000 in
theorem ask_16 (a b x y : Int) (m : Nat) (hm : m < 4096) (w : World) :
    Calls Try.prog 25 #[iv ⟨16, a, b, (m : Int)⟩, .int .u64 x, .int .u64 y] w fun e w' => e = .returned (.agg (ec (M.as 16 a m x y))) ∧ w.grownBy w' none := by
  go_enter Try.func25, Try.ntmps25
  go_upto_region 1 with (first | (refine wpList_boxW rfl _ rfl rfl ?_; intro W1 q B g1 l1) | (refine wpList_allocW rfl rfl zE ?_; intro W2 z C g2 l2))
  have ly : w.heap.size ≤ z := Nat.le_trans g1.size l2
  have G := gbTrans g1 g2
  replace B := B.kept g2
  clear g1 g2 l1 l2
  obtain ⟨a0, a1, a2, a3⟩ := B.four
  clear B
  go_wp2_with (first | (refine wpList_buildW rfl [(2, .const (.int .i64 3)), (5, .tmp 33)] rfl [(2, .int .i64 3), (5, .int .u64 (m : Int))] rfl (ec (M.as 16 a m x y)) (by kernel_rfl) ?_) | (refine wpList_storeW rfl _ _ rfl rfl rfl C tkE rfl rfl (ec_one _) ?_; intro W9 C9 g9))
  exact bodyPost_ret (results_W Try.results25 rfl C9 tkE rfl) rfl ⟨rfl, gbNew (gbTrans (gbAny G _) g9) ly⟩

set_option maxHeartbeats 400000 in
theorem ask_17 (a b x y : Int) (m : Nat) (hm : m < 4096) (w : World) :
    Calls Try.prog 25 #[iv ⟨17, a, b, (m : Int)⟩, .int .u64 x, .int .u64 y] w fun e w' => e = .returned (.agg (ec (M.as 17 a m x y))) ∧ w.grownBy w' none := by
  go_enter Try.func25, Try.ntmps25
  go_upto_region 1 with (first | (refine wpList_boxW rfl _ rfl rfl ?_; intro W1 q B g1 l1) | (refine wpList_allocW rfl rfl zE ?_; intro W2 z C g2 l2))
  have ly : w.heap.size ≤ z := Nat.le_trans g1.size l2
  have G := gbTrans g1 g2
  replace B := B.kept g2
  clear g1 g2 l1 l2
  obtain ⟨a0, a1, a2, a3⟩ := B.four
  clear B
  go_wp2_with (first | (refine wpList_buildW rfl [(2, .const (.int .i64 0))] rfl [(2, .int .i64 0)] rfl (ec (M.as 17 a m x y)) (by kernel_rfl) ?_) | (refine wpList_storeW rfl _ _ rfl rfl rfl C tkE rfl rfl (ec_one _) ?_; intro W9 C9 g9))
  exact bodyPost_ret (results_W Try.results25 rfl C9 tkE rfl) rfl ⟨rfl, gbNew (gbTrans (gbAny G _) g9) ly⟩

theorem asked_is (o m : Nat) (a b x y : Int) (u : E) (ho : o < 18) (hm : m < 4096) (h : M.as o a m x y = u) (w : World) :
    Calls Try.prog 25 #[iv ⟨o, a, b, m⟩, .int .u64 x, .int .u64 y] w fun e w' => e = .returned (.agg (ec u)) ∧ w.grownBy w' none := by
  subst h
  have e : o = 0 ∨ o = 1 ∨ o = 2 ∨ o = 3 ∨ o = 4 ∨ o = 5 ∨ o = 6 ∨ o = 7 ∨ o = 8 ∨ o = 9 ∨ o = 10 ∨ o = 11 ∨ o = 12 ∨ o = 13 ∨ o = 14 ∨ o = 15 ∨ o = 16 ∨ o = 17 := by omega
  rcases e with rfl | rfl | rfl | rfl | rfl | rfl | rfl | rfl | rfl | rfl | rfl | rfl | rfl | rfl | rfl | rfl | rfl | rfl
  · exact ask_0 a b x y m hm w
  · exact ask_1 a b x y m hm w
  · exact ask_2 a b x y m hm w
  · exact ask_3 a b x y m hm w
  · exact ask_4 a b x y m hm w
  · exact ask_5 a b x y m hm w
  · exact ask_6 a b x y m hm w
  · exact ask_7 a b x y m hm w
  · exact ask_8 a b x y m hm w
  · exact ask_9 a b x y m hm w
  · exact ask_10 a b x y m hm w
  · exact ask_11 a b x y m hm w
  · exact ask_12 a b x y m hm w
  · exact ask_13 a b x y m hm w
  · exact ask_14 a b x y m hm w
  · exact ask_15 a b x y m hm w
  · exact ask_16 a b x y m hm w
  · exact ask_17 a b x y m hm w
end Go.Proofs.Yteekgfdffofnaaa
