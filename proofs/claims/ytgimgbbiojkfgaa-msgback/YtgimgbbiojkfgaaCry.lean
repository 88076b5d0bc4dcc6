/-
  THE CONTRACT of package msg's Carry.
-/
import Derived.Test.YtgimgbbiojkfgaaAns
namespace Go.Proofs.Ytgimgbbiojkfgaa
set_option maxRecDepth 10000
open Go.RowKit
set_option linter.unusedVariables false

/-- Three rows of eight registers, made one behind the other. -/
theorem arrThree (w : World) (f g : Nat → Nat) (t : TypeId) : ∃ W, ((w.alloc (.cells #[.int .u64 (f 0 : Int), .int .u64 (f 1 : Int), .int .u64 (f 2 : Int), .int .u64 (f 3 : Int), .int .u64 (f 4 : Int), .int .u64 (f 5 : Int), .int .u64 (f 6 : Int), .int .u64 (f 7 : Int)] t)).alloc (.cells #[.int .u64 (g 0 : Int), .int .u64 (g 1 : Int), .int .u64 (g 2 : Int), .int .u64 (g 3 : Int), .int .u64 (g 4 : Int), .int .u64 (g 5 : Int), .int .u64 (g 6 : Int), .int .u64 (g 7 : Int)] t)).alloc (.cells #[.int .u64 0, .int .u64 0, .int .u64 0, .int .u64 0, .int .u64 0, .int .u64 0, .int .u64 0, .int .u64 0] t) = W ∧
    RA W w.heap.size t f ∧ RA W (w.heap.size + 1) t g ∧ RA W (w.heap.size + 2) t nil8 ∧ w.grownBy W none := by
  obtain ⟨W1, e1, A, g1, s1⟩ := arrNew w f t
  obtain ⟨W2, e2, B, g2, s2⟩ := arrNew W1 g t
  obtain ⟨W3, e3, C, g3, s3⟩ := arrZero W2 t
  rw [e1, e2, e3]
  rw [s1] at B
  rw [s2, s1] at C
  exact ⟨W3, rfl, (A.kept g2).kept g3, B.kept g3, C, gbTrans (gbTrans g1 g2) g3⟩

/-- What comes of a message. -/
def M.cry (f g : Nat → Nat) (b : Nat) : (Nat → Nat) × Int := match M.up (f 0) with
  | (i, 0) => (upd (cp (upd g 0 (f 0)) (fun j => f (j + 1)) i.n.toNat) 5 b, 0)
  | (_, e) => (nil8, e)

set_option maxHeartbeats 1000000 in
theorem carry_no (f g : Nat → Nat) (b : Nat) (u v : Int) (a : Bool)
    (HU : ∀ w, Calls Try.prog 11 #[.int .u64 (f 0 : Int)] w fun e w' => e = .returned (.tuple #[iv ⟨u, v, a⟩, .int .i64 10]) ∧ w.grownBy w' none) (w : World) :
    Calls Try.prog 14 #[rv f, rv g, .int .u64 (b : Int)] w fun r w' => r = .returned (.tuple #[rv nil8, .int .i64 10]) ∧ w.grownBy w' none := by
  go_enter Try.func14, Try.ntmps14
  go_upto_region 1 with fail
  obtain ⟨W1, e1, A, B, C, G⟩ := arrThree w f g 38
  rw [e1]
  clear e1
  have a0 := A.eight.at0
  go_wp2_with fail
  refine (HU _).mono ?_
  rintro e w2 ⟨rfl, g2⟩
  go_upto_region 2 with fail
  obtain ⟨W3, e3, X, g3⟩ := boxNew w2 ⟨u, v, a⟩ 28
  simp only at e3
  rw [e3]
  clear e3 a0 A B
  replace C := (C.kept g2).kept g3
  replace G := gbTrans (gbTrans G g2) g3
  obtain ⟨b0, b1, b2, b3, b4, b5, b6, b7⟩ := C.eight
  have bf := C.fr
  clear C g2 g3
  go_wp2
  exact bodyPost_ret (v := .tuple #[rv nil8, .int .i64 10]) (by simp [results, Try.results14, go_sem, b0, b1, b2, b3, b4, b5, b6, b7]) rfl ⟨rfl, by repeat (first | with_reducible exact G | refine gbSetNew ?_ _ _ _ (by omega))⟩

theorem run_slice8 (w : World) (b m k : Nat) (h : m = k + 1) (k4 : k ≤ 4) : (Instr.sliceAt 38 (.pointer (some ⟨b, 0, none⟩)) (some (.int .i64 1)) (some (.int .i64 (m : Int))) none).run Try.prog w = .ok (.slice (some ⟨b, 1, none⟩) k 7) w := by
  subst h
  have hj : k = 0 ∨ k = 1 ∨ k = 2 ∨ k = 3 ∨ k = 4 := by omega
  rcases hj with rfl | rfl | rfl | rfl | rfl <;> simp [go_sem, Instr.sliceAt]

set_option maxHeartbeats 2000000 in
theorem carry_yes (f g : Nat → Nat) (b : Nat) (u : Int) (k : Nat) (a : Bool) (k4 : k ≤ 4)
    (HU : ∀ w, Calls Try.prog 11 #[.int .u64 (f 0 : Int)] w fun e w' => e = .returned (.tuple #[iv ⟨u, (k : Int), a⟩, .int .i64 0]) ∧ w.grownBy w' none) (w : World) :
    Calls Try.prog 14 #[rv f, rv g, .int .u64 (b : Int)] w fun r w' => r = .returned (.tuple #[rv (upd (cp (upd g 0 (f 0)) (fun j => f (j + 1)) k) 5 b), .int .i64 0]) ∧ w.grownBy w' none := by
  go_enter Try.func14, Try.ntmps14
  go_upto_region 1 with fail
  obtain ⟨W1, e1, A, B, C, G⟩ := arrThree w f g 38
  rw [e1]
  clear e1
  have a0 := A.eight.at0
  go_wp2_with fail
  refine (HU _).mono ?_
  rintro e w2 ⟨rfl, g2⟩
  go_upto_region 2 with fail
  obtain ⟨W3, e3, X, g3⟩ := boxNew w2 ⟨u, (k : Int), a⟩ 28
  simp only at e3
  rw [e3]
  clear e3 a0
  have hx : w.heap.size + 2 < w2.heap.size := (C.kept g2).lt
  generalize w2.heap.size = x at X hx
  replace A := (A.kept g2).kept g3
  replace B := (B.kept g2).kept g3
  replace C := (C.kept g2).kept g3
  replace G := gbTrans (gbTrans G g2) g3
  clear g2 g3
  have a0 := A.eight.at0
  have b0 := B.eight.at0
  have bf := B.fr 0
  go_upto_region 5 with fail
  obtain ⟨W4, e4, B4, g4⟩ : ∃ W, W3.setCell ⟨w.heap.size + 1, 0, none⟩ (.int .u64 (f 0 : Int)) = W ∧ RA W (w.heap.size + 1) 38 (upd g 0 (f 0)) ∧ W3.grownBy W (some (w.heap.size + 1)) := ⟨_, rfl, B.set 0 (f 0), gbSetCell _ _ _ _⟩
  rw [e4]
  clear e4 a0 b0 bf B
  replace A := A.keep g4 (by simp)
  replace C := C.keep g4 (by simp)
  replace X := X.keep g4 (by simp; omega)
  replace G := gbNew (gbTrans (gbAny G _) g4) (Nat.le_succ _)
  clear g4
  obtain ⟨W5, hrun, B5, g5⟩ := run_copy8 W4.drew 3 (w.heap.size + 1) 7 7 k 7 k (some ⟨w.heap.size, 1, none⟩) 38 (upd g 0 (f 0)) (fun j => f (j + 1)) B4 (Nat.min_eq_left (by omega)) (by omega)
    (fun j hj => ⟨_, rfl, by rw [Addr.add_lit, Nat.add_comm 1 j]; exact A.cell (by omega)⟩)
  have x1 := X.at1
  obtain ⟨m, hm, m1, m8, mk⟩ : ∃ m : Nat, 1 + (k : Int) = (m : Int) ∧ 1 ≤ m ∧ m ≤ 8 ∧ m - 1 = k := ⟨k + 1, by omega, by omega, by omega, by omega⟩
  have hsl := fun w2 => run_slice8 w2 w.heap.size m k (by omega) k4
  go_region
  clear hrun hsl hm m1 m8 mk x1 X
  replace C := (C.kept (gbDrew (gbRefl W4 none))).keep g5 (by simp)
  replace G := gbNew (gbTrans (gbAny (gbDrew G) _) g5) (Nat.le_succ _)
  clear g5 B4 A
  obtain ⟨h, hh⟩ : ∃ h, h = cp (upd g 0 (f 0)) (fun j => f (j + 1)) k := ⟨_, rfl⟩
  rw [← hh] at B5
  replace hh := hideIt hh
  have b5 := B5.eight.at5
  have bf := B5.fr 5
  go_upto_region 7 with fail
  obtain ⟨W6, e6, B6, g6⟩ : ∃ W, W5.setCell ⟨w.heap.size + 1, 5, none⟩ (.int .u64 (b : Int)) = W ∧ RA W (w.heap.size + 1) 38 (upd h 5 b) ∧ W5.grownBy W (some (w.heap.size + 1)) := ⟨_, rfl, B5.set 5 b, gbSetCell _ _ _ _⟩
  rw [e6]
  clear e6 b5 bf B5
  replace C := C.keep g6 (by simp)
  replace G := gbNew (gbTrans (gbAny G _) g6) (Nat.le_succ _)
  clear g6
  obtain ⟨h', hh'⟩ : ∃ h', h' = upd h 5 b := ⟨_, rfl⟩
  rw [← hh'] at B6
  replace hh' := hideIt hh'
  obtain ⟨a0, a1, a2, a3, a4, a5, a6, a7⟩ := B6.eight
  obtain ⟨c0, c1, c2, c3, c4, c5, c6, c7⟩ := C.eight
  have cf := C.fr
  clear B6 C
  go_wp2
  exact bodyPost_ret (v := .tuple #[rv h', .int .i64 0]) (by simp [results, Try.results14, go_sem, c0, c1, c2, c3, c4, c5, c6, c7]) rfl ⟨by rw [hh'.out, hh.out], by repeat (first | with_reducible exact G | refine gbSetNew ?_ _ _ _ (by omega))⟩

theorem carry_is (f g h : Nat → Nat) (b : Nat) (e : Int) (hf : f 0 < 18446744073709551616) (hc : M.cry f g b = (h, e)) (w : World) :
    Calls Try.prog 14 #[rv f, rv g, .int .u64 (b : Int)] w fun r w' => r = .returned (.tuple #[rv h, .int .i64 e]) ∧ w.grownBy w' none := by
  obtain ⟨⟨⟨u, v, a⟩, q⟩, hu⟩ : ∃ p, M.up (f 0) = p := ⟨_, rfl⟩
  have HU := fun w => unpack_is (f 0) _ q hf hu w
  by_cases c : f 0 < 1048576 ∧ f 0 % 8 ≤ 4
  · have hq : q = 0 := by have := M.up_yes c.1 c.2; rw [hu] at this; simp only [Prod.mk.injEq] at this; exact this.2
    subst hq
    obtain ⟨k, hk, k4⟩ := M.up_len hu
    simp only at hk
    subst hk
    unfold M.cry at hc
    rw [hu] at hc
    simp only [Prod.mk.injEq, Int.toNat_natCast] at hc
    obtain ⟨rfl, rfl⟩ := hc
    exact carry_yes f g b u k a k4 HU w
  · have h2 := M.up_no c
    unfold M.cry at hc
    rw [hu] at h2
    simp only [Prod.mk.injEq] at h2
    obtain ⟨_, rfl⟩ := h2
    rw [hu] at hc
    simp only [Prod.mk.injEq] at hc
    obtain ⟨rfl, rfl⟩ := hc
    exact carry_no f g b u v a HU w
end Go.Proofs.Ytgimgbbiojkfgaa
