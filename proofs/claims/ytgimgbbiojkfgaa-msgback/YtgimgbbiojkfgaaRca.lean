/-
  THE CONTRACTS of the document's side: donjonref16's Carry and Answer.
-/
import Derived.Test.YtgimgbbiojkfgaaRef
namespace Go.Proofs.Ytgimgbbiojkfgaa
set_option maxRecDepth 10000
open Go.RowKit
set_option linter.unusedVariables false

theorem cp_step (h V : Nat → Nat) (j : Nat) : ∀ i, upd (cp h V j) (1 + j) (V j) i = cp h V (j + 1) i := by
  intro i
  unfold upd cp
  by_cases c : i = 1 + j
  · subst c; rw [if_pos rfl, if_pos (by omega), Nat.add_sub_cancel_left]
  · rw [if_neg c]
    by_cases k : 1 ≤ i ∧ i < 1 + j
    · rw [if_pos k, if_pos (by omega)]
    · rw [if_neg k, if_neg (by omega)]

set_option maxHeartbeats 1000000 in
theorem ranswer_is (f V : Nat → Nat) (e : Int) (E : Nat) (hE : IntKind.u64.wrap e = (E : Int)) (x : Option Addr) (len cap k : Nat) (hk : Nat.min len 4 = k) (w : World) (L : Wl w x len V) :
    Calls Try.prog 17 #[rv f, .int .i64 e, .slice x len cap] w fun r w' => r = .returned (rv (cp (upd f 0 E) V k)) ∧ w.grownBy w' none := by
  have k4 : k ≤ 4 := hk ▸ Nat.min_le_right _ _
  have kl : k ≤ len := hk ▸ Nat.min_le_left _ _
  have kk : k = len ∨ k = 4 := by rw [← hk]; show min len 4 = len ∨ min len 4 = 4; omega
  replace L := hideIt L
  replace kk := hideIt kk
  clear hk
  go_enter Try.func17, Try.ntmps17
  go_upto_region 1 with fail
  obtain ⟨W1, e1, A, g1, s1⟩ := arrNew w f 36
  rw [e1]
  clear e1
  obtain ⟨W2, e2, B, g2, s2⟩ := arrZero W1 36
  rw [e2]
  clear e2
  rw [s1] at s2 B
  replace A := A.kept g2
  have G := gbTrans g1 g2
  clear g1 g2 s1
  obtain ⟨a0, a1, a2, a3, a4, a5, a6, a7⟩ := A.eight
  go_upto_region 2 with fail
  obtain ⟨W3, e3, C, g3, s3⟩ := arrNew W2 f 36
  rw [e3]
  clear e3 a0 a1 a2 a3 a4 a5 a6 a7 A
  rw [s2] at C
  replace B := B.kept g3
  replace G := gbTrans G g3
  clear g3 s3 s2
  have c0 := C.eight.at0
  have cf := C.fr 0
  go_upto_region 3 with fail
  obtain ⟨W4, e4, C4, g4⟩ : ∃ W, W3.setCell ⟨w.heap.size + 1 + 1, 0, none⟩ (.int .u64 (E : Int)) = W ∧ RA W (w.heap.size + 1 + 1) 36 (upd f 0 E) ∧ W3.grownBy W (some (w.heap.size + 1 + 1)) := ⟨_, rfl, C.set 0 E, gbSetCell _ _ _ _⟩
  rw [e4]
  clear e4 c0 cf C
  replace B := hideIt (B.keep g4 (by simp))
  replace G := gbNew (gbTrans (gbAny G _) g4) (by omega)
  clear g4 hE
  obtain ⟨h, hh⟩ : ∃ h, h = upd f 0 E := ⟨_, rfl⟩
  rw [← hh] at C4
  replace hh := hideIt hh
  replace C4 : Hid (RA W4 (w.heap.size + 1 + 1) 36 (cp h V 0)) := hideIt (C4.congr (fun i _ => by unfold cp; rw [if_neg (by omega)]))
  go_wp2
  go_loopg [8] 4 (fun gk i wr => ∃ j : Nat, j + gk = 4 ∧ j ≤ k ∧ i = .int .i64 j ∧ w.grownBy wr none ∧ Hid (RA wr (w.heap.size + 1 + 1) 36 (cp h V j)) ∧ Hid (RA wr (w.heap.size + 1) 36 nil8))
  case atStart => exact ⟨0, rfl, Nat.zero_le _, rfl, G, C4, B⟩
  case round =>
    clear C4 B G
    obtain ⟨j, hj, jk, rfl, G, C, B⟩ := hrel
    by_cases c1 : j < len
    · by_cases c2 : j < 4
      · obtain ⟨y, rfl, hy, _⟩ := (L.out.kept G) j c1
        have b1 := C.out.cell (i := 1 + j) (by omega)
        have bf := C.out.fr (1 + j)
        obtain ⟨W5, e5, C5, g5⟩ : ∃ W, wr.setCell ⟨w.heap.size + 1 + 1, 1 + j, none⟩ (.int .u64 (V j : Int)) = W ∧ Hid (RA W (w.heap.size + 1 + 1) 36 (cp h V (j + 1))) ∧ wr.grownBy W (some (w.heap.size + 1 + 1)) :=
          ⟨_, rfl, hideIt ((C.out.set (1 + j) (V j)).congr (fun i _ => cp_step h V j i)), gbSetCell _ _ _ _⟩
        have B5 := hideIt (B.out.keep g5 (by simp))
        have G5 := gbNew (gbTrans (gbAny G _) g5) (by omega)
        clear C B g5
        obtain ⟨m, hm, m8⟩ : ∃ m : Nat, 1 + j = m ∧ m < 8 := ⟨_, rfl, by omega⟩
        have hm' : 1 + (j : Int) = (m : Int) := by omega
        rw [hm] at b1 bf e5
        go_wp2
        go_roundg (gk - 1)
        case rel => exact ⟨j + 1, by omega, by have := kk.out; omega, by go_num, G5, C5, B5⟩
        case measure => omega
      · obtain rfl : j = k := by omega
        have C := C.out
        obtain ⟨a0, a1, a2, a3, a4, a5, a6, a7⟩ := C.eight
        obtain ⟨b0, b1, b2, b3, b4, b5, b6, b7⟩ := B.out.eight
        have bf := B.out.fr
        clear B C
        go_wp2
        exact bodyPost_ret (v := rv (cp h V j)) (by simp [results, Try.results17, go_sem, b0, b1, b2, b3, b4, b5, b6, b7]) rfl ⟨by rw [hh.out], by repeat (first | with_reducible exact G | refine gbSetNew ?_ _ _ _ (by omega))⟩
    · obtain rfl : j = k := by omega
      have C := C.out
      obtain ⟨a0, a1, a2, a3, a4, a5, a6, a7⟩ := C.eight
      obtain ⟨b0, b1, b2, b3, b4, b5, b6, b7⟩ := B.out.eight
      have bf := B.out.fr
      clear B C
      go_wp2
      exact bodyPost_ret (v := rv (cp h V j)) (by simp [results, Try.results17, go_sem, b0, b1, b2, b3, b4, b5, b6, b7]) rfl ⟨by rw [hh.out], by repeat (first | with_reducible exact G | refine gbSetNew ?_ _ _ _ (by omega))⟩

/-- The first n registers of f, behind them those of g. -/
def mx (f g : Nat → Nat) (n : Nat) : Nat → Nat := fun i => if i < n then f i else g i
theorem mx_step (f g : Nat → Nat) (j : Nat) : ∀ i, upd (mx f g j) j (f j) i = mx f g (j + 1) i := by
  intro i
  unfold upd mx
  by_cases h : i = j
  · subst h; simp
  · by_cases k : i < j
    · rw [if_neg h, if_pos k, if_pos (by omega)]
    · rw [if_neg h, if_neg k, if_neg (by omega)]
theorem mx_cp (f g : Nat → Nat) (k b : Nat) : ∀ i, upd (mx f g (k + 1)) 5 b i = upd (cp (upd g 0 (f 0)) (fun j => f (j + 1)) k) 5 b i := by
  intro i
  unfold upd mx cp
  by_cases c : i = 5
  · rw [if_pos c, if_pos c]
  · rw [if_neg c, if_neg c]
    by_cases d : i = 0
    · subst d; simp
    · by_cases e : i < k + 1
      · rw [if_pos e, if_pos (by omega)]
        show f i = f (i - 1 + 1)
        rw [Nat.sub_add_cancel (by omega)]
      · rw [if_neg e, if_neg (by omega)]
        show g i = if i = 0 then f 0 else g i
        rw [if_neg d]

set_option maxHeartbeats 1000000 in
theorem rcarry_no (f g : Nat → Nat) (b : Nat) (u v : Int) (a : Bool)
    (HU : ∀ w, Calls Try.prog 12 #[.int .u64 (f 0 : Int)] w fun e w' => e = .returned (.tuple #[iv ⟨u, v, a⟩, .int .i64 10]) ∧ w.grownBy w' none) (w : World) :
    Calls Try.prog 15 #[rv f, rv g, .int .u64 (b : Int)] w fun r w' => r = .returned (.tuple #[rv nil8, .int .i64 10]) ∧ w.grownBy w' none := by
  go_enter Try.func15, Try.ntmps15
  go_upto_region 1 with fail
  obtain ⟨W1, e1, A, B, C, G⟩ := arrThree w f g 36
  rw [e1]
  clear e1
  have a0 := A.eight.at0
  go_wp2_with fail
  refine (HU _).mono ?_
  rintro e w2 ⟨rfl, g2⟩
  go_upto_region 2 with fail
  obtain ⟨W3, e3, X, g3⟩ := boxNew w2 ⟨u, v, a⟩ 24
  simp only at e3
  rw [e3]
  clear e3 a0 A B
  replace C := (C.kept g2).kept g3
  replace G := gbTrans (gbTrans G g2) g3
  obtain ⟨b0, b1, b2, b3, b4, b5, b6, b7⟩ := C.eight
  have bf := C.fr
  clear C g2 g3
  go_wp2
  exact bodyPost_ret (v := .tuple #[rv nil8, .int .i64 10]) (by simp [results, Try.results15, go_sem, b0, b1, b2, b3, b4, b5, b6, b7]) rfl ⟨rfl, by repeat (first | with_reducible exact G | refine gbSetNew ?_ _ _ _ (by omega))⟩

set_option maxHeartbeats 2000000 in
theorem rcarry_yes (f g : Nat → Nat) (b : Nat) (u : Int) (k : Nat) (a : Bool) (k4 : k ≤ 4)
    (HU : ∀ w, Calls Try.prog 12 #[.int .u64 (f 0 : Int)] w fun e w' => e = .returned (.tuple #[iv ⟨u, (k : Int), a⟩, .int .i64 0]) ∧ w.grownBy w' none) (w : World) :
    Calls Try.prog 15 #[rv f, rv g, .int .u64 (b : Int)] w fun r w' => r = .returned (.tuple #[rv (upd (cp (upd g 0 (f 0)) (fun j => f (j + 1)) k) 5 b), .int .i64 0]) ∧ w.grownBy w' none := by
  go_enter Try.func15, Try.ntmps15
  go_upto_region 1 with fail
  obtain ⟨W1, e1, A, B, C, G⟩ := arrThree w f g 36
  rw [e1]
  clear e1
  have a0 := A.eight.at0
  go_wp2_with fail
  refine (HU _).mono ?_
  rintro e w2 ⟨rfl, g2⟩
  go_upto_region 2 with fail
  obtain ⟨W3, e3, X, g3⟩ := boxNew w2 ⟨u, (k : Int), a⟩ 24
  simp only at e3
  rw [e3]
  clear e3 a0
  have hx : w.heap.size + 2 < w2.heap.size := (C.kept g2).lt
  generalize w2.heap.size = x at X hx
  replace A := (A.kept g2).kept g3
  replace B := (B.kept g2).kept g3
  replace C := (C.kept g2).kept g3
  replace G := gbTrans (gbTrans G g2) g3
  clear g2 g3
  obtain ⟨b0, b1, b2, b3, b4, b5, b6, b7⟩ := B.eight
  go_upto_region 5 with fail
  obtain ⟨W4, e4, D, g4, _⟩ := arrNew W3 g 36
  rw [e4]
  clear e4 b0 b1 b2 b3 b4 b5 b6 b7 B
  have hy : x < W3.heap.size := X.lt
  generalize W3.heap.size = y at D hy
  replace A := hideIt (A.kept g4)
  replace C := hideIt (C.kept g4)
  replace X := hideIt (X.kept g4)
  replace G := gbTrans G g4
  clear g4
  replace D : Hid (RA W4 y 36 (mx f g 0)) := hideIt (D.congr (fun i _ => by unfold mx; rw [if_neg (by omega)]))
  have hy0 : w.heap.size ≤ y := by omega
  have y1 : Hid (w.heap.size ≠ y) := hideIt (by omega)
  have y2 : Hid (w.heap.size + 1 + 1 ≠ y) := hideIt (by omega)
  have y3 : Hid (x ≠ y) := hideIt (by omega)
  clear hx hy
  replace hy0 := hideIt hy0
  go_wp2
  go_loopg [11] (k + 1) (fun gk i wr => ∃ j : Nat, j + gk = k + 1 ∧ i = .int .i64 j ∧ w.grownBy wr none ∧ Hid (RA wr y 36 (mx f g j)) ∧ Hid (RA wr w.heap.size 36 f) ∧ Hid (RA wr (w.heap.size + 1 + 1) 36 nil8) ∧ Hid (Box wr x ⟨u, (k : Int), a⟩))
  case atStart => exact ⟨0, by omega, rfl, G, D, A, C, X⟩
  case round =>
    clear A C D X G
    obtain ⟨j, hj, rfl, G, D, A, C, X⟩ := hrel
    have x1 := X.out.at1
    by_cases c1 : j ≤ k
    · have a1 := A.out.cell (i := j) (by omega)
      have b1 := D.out.cell (i := j) (by omega)
      have bf := D.out.fr j
      have j8 : j < 8 := by omega
      obtain ⟨W5, e5, D5, g5⟩ : ∃ W, wr.setCell ⟨y, j, none⟩ (.int .u64 (f j : Int)) = W ∧ Hid (RA W y 36 (mx f g (j + 1))) ∧ wr.grownBy W (some y) :=
        ⟨_, rfl, hideIt ((D.out.set j (f j)).congr (fun i _ => mx_step f g j i)), gbSetCell _ _ _ _⟩
      have A5 := hideIt (A.out.keep g5 (by simpa using y1.out))
      have C5 := hideIt (C.out.keep g5 (by simpa using y2.out))
      have X5 := hideIt (X.out.keep g5 (by simpa using y3.out))
      have G5 := gbNew (gbTrans (gbAny G _) g5) hy0.out
      clear A C D X g5
      go_wp2
      go_roundg (gk - 1)
      case rel => exact ⟨j + 1, by omega, by go_num, G5, D5, A5, C5, X5⟩
      case measure => omega
    · have ej : j = k + 1 := by omega
      have D := D.out
      rw [ej] at D
      replace ej := hideIt ej
      have d5 := D.eight.at5
      have df := D.fr 5
      clear hj
      go_upto_region 10 with fail
      obtain ⟨W6, e6, D6, g6⟩ : ∃ W, wr.setCell ⟨y, 5, none⟩ (.int .u64 (b : Int)) = W ∧ RA W y 36 (upd (cp (upd g 0 (f 0)) (fun j => f (j + 1)) k) 5 b) ∧ wr.grownBy W (some y) :=
        ⟨_, rfl, (D.set 5 b).congr (fun i _ => mx_cp f g k b i), gbSetCell _ _ _ _⟩
      rw [e6]
      clear e6 d5 df D
      have C6 := C.out.keep g6 (by simpa using y2.out)
      have G6 := gbNew (gbTrans (gbAny G _) g6) hy0.out
      clear g6 A C X x1 G
      obtain ⟨h, hh⟩ : ∃ h, h = upd (cp (upd g 0 (f 0)) (fun j => f (j + 1)) k) 5 b := ⟨_, rfl⟩
      rw [← hh] at D6
      replace hh := hideIt hh
      obtain ⟨a0, a1, a2, a3, a4, a5, a6, a7⟩ := D6.eight
      obtain ⟨c0, c1, c2, c3, c4, c5, c6, c7⟩ := C6.eight
      have cf := C6.fr
      clear D6 C6
      go_wp2
      exact bodyPost_ret (v := .tuple #[rv h, .int .i64 0]) (by simp [results, Try.results15, go_sem, c0, c1, c2, c3, c4, c5, c6, c7]) rfl ⟨by rw [hh.out], by repeat (first | with_reducible exact G6 | refine gbSetNew ?_ _ _ _ (by omega))⟩

theorem rcarry_is (f g h : Nat → Nat) (b : Nat) (e : Int) (hc : M.cry f g b = (h, e)) (w : World) :
    Calls Try.prog 15 #[rv f, rv g, .int .u64 (b : Int)] w fun r w' => r = .returned (.tuple #[rv h, .int .i64 e]) ∧ w.grownBy w' none := by
  obtain ⟨⟨⟨u, v, a⟩, q⟩, hu⟩ : ∃ p, M.up (f 0) = p := ⟨_, rfl⟩
  have HU := fun w => runpack_is (f 0) _ q hu w
  by_cases c : f 0 < 1048576 ∧ f 0 % 8 ≤ 4
  · have hq : q = 0 := by have := M.up_yes c.1 c.2; rw [hu] at this; simp only [Prod.mk.injEq] at this; exact this.2
    subst hq
    obtain ⟨k, hk, k4⟩ := M.up_len hu
    simp only at hk
    subst hk
    unfold M.cry at hc
    rw [hu] at hc
    simp only [Prod.mk.injEq, Int.toNat_natCast] at hc
    obtain ⟨rfl, rfl⟩ := hc
    exact rcarry_yes f g b u k a k4 HU w
  · have h2 := M.up_no c
    unfold M.cry at hc
    rw [hu] at h2
    simp only [Prod.mk.injEq] at h2
    obtain ⟨_, rfl⟩ := h2
    rw [hu] at hc
    simp only [Prod.mk.injEq] at hc
    obtain ⟨rfl, rfl⟩ := hc
    exact rcarry_no f g b u v a HU w
end Go.Proofs.Ytgimgbbiojkfgaa
