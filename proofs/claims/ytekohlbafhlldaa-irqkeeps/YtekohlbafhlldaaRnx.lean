/-
  THE DOCUMENT'S Next, its words, New.
-/
import Derived.Test.YtekohlbafhlldaaRir
import Derived.Test.YtekohlbafhlldaaIqb
namespace Go.Proofs.Ytekohlbafhlldaa
set_option maxRecDepth 10000
open Go.RowKit
set_option linter.unusedVariables false

section
variable {w : World} {O : Nat → Prop} {x : Nat} {i : I}
set_option maxHeartbeats 2000000 in
theorem rnext_is (h : JA w O x i) (gd : M.Gd i) (d : Int) (r : Option Nat) (hr : M.Nx i d r) (f : Int) (b : Bool) (hf : M.nn r = f) (hb : r.isSome = b) :
    Calls Try.prog 14 #[.pointer (some ⟨x, 0, none⟩), .int .i64 d] w fun e w' => e = .returned (.tuple #[.int .i64 f, .bool b]) ∧ JA w' O x (M.ns i r) ∧ Fr O w w' := by
  subst hf
  subst hb
  have H := hideIt h
  have hox := hideIt h.ox
  replace hr := hideIt hr
  replace gd := hideIt gd
  clear h
  go_enter Try.func14, Try.ntmps14
  go_wp2_with fail
  go_loopg [6] 8 (fun gk s wr => ∃ j : Nat, j + gk = 8 ∧ s = .int .i64 j ∧ wr = w ∧ Hid (∀ t, t < j → M.hit i d t = false))
  case atStart => exact ⟨0, rfl, rfl, rfl, hideIt (fun t ht => by omega)⟩
  case round =>
    obtain ⟨j, hj, rfl, rfl, B⟩ := hrel
    by_cases hlt : j < 8
    · have h1 := H.out.has hlt
      have o1 := H.out.owner hlt
      have p1 := H.out.pend hlt
      have m1 := H.out.mask hlt
      obtain ⟨b1, e1⟩ : ∃ b1, M.hs i j = b1 := ⟨_, rfl⟩
      obtain ⟨b2, e2⟩ : ∃ b2, (M.ow i j == d) = b2 := ⟨_, rfl⟩
      obtain ⟨b3, e3⟩ : ∃ b3, i.p j = b3 := ⟨_, rfl⟩
      obtain ⟨b4, e4⟩ : ∃ b4, i.m j = b4 := ⟨_, rfl⟩
      have hh : Hid (M.hit i d j = (b1 && b2 && b3 && !b4)) := hideIt (by
        have g := gd.out j hlt
        rw [← e1, ← e2, ← e3, ← e4]
        unfold M.hit M.hs M.ow
        by_cases c : i.o j = -1
        · rw [if_pos c, c]
          rcases g with g | g
          · rw [g.2]; simp
          · omega
        · rw [if_neg c]
          have : (i.o j != -1) = true := by simpa using c
          rw [this]
          cases i.o j == d <;> cases i.p j <;> cases i.m j <;> rfl)
      rw [e1] at h1
      rw [e3] at p1
      rw [e4] at m1
      clear e1 e3 e4
      replace e2 := hideIt e2
      by_cases cc : (b1 && b2 && b3 && !b4) = true
      · have hit := hideIt (M.nx_at hr.out hlt (hh.out.trans cc) B.out)
        obtain ⟨rfl, rfl, rfl, rfl⟩ : b1 = true ∧ b2 = true ∧ b3 = true ∧ b4 = false := by
          revert cc; cases b1 <;> cases b2 <;> cases b3 <;> cases b4 <;> simp
        clear cc hh
        have e2' := e2.out
        have f1 := H.out.fz j
        obtain ⟨V, eV, HV, gV⟩ := H.out.setP hlt false
        obtain ⟨W, eW, HW, gW⟩ := HV.setM hlt true
        have f2 := HV.fz (8 + j)
        have m2 := HV.mask hlt
        replace HW := hideIt HW
        clear HV
        go_wp2
        go_ret2
        rw [hit.out]
        exact ⟨rfl, HW.out, (Fr.at gV hox.out).trans (Fr.at gW hox.out)⟩
      · have nh := hideIt (hh.out.trans (by simpa using cc : (b1 && b2 && b3 && !b4) = false))
        clear hh
        have B' : Hid (∀ t, t < j + 1 → M.hit i d t = false) := hideIt (fun t ht => by
          by_cases e : t = j
          · rw [e]; exact nh.out
          · exact B.out t (by omega))
        have e2' := e2.out
        clear B nh e2
        cases b1 with
        | false =>
          clear cc
          go_wp2
          go_roundg (gk - 1)
          case rel => exact ⟨j + 1, by omega, by go_num, rfl, B'⟩
          case measure => omega
        | true =>
          cases b2 with
          | false =>
            clear cc
            go_wp2
            go_roundg (gk - 1)
            case rel => exact ⟨j + 1, by omega, by go_num, rfl, B'⟩
            case measure => omega
          | true =>
            cases b3 with
            | false =>
              clear cc
              go_wp2
              go_roundg (gk - 1)
              case rel => exact ⟨j + 1, by omega, by go_num, rfl, B'⟩
              case measure => omega
            | true =>
              cases b4 with
              | false => exact (cc rfl).elim
              | true =>
                clear cc
                go_wp2
                go_roundg (gk - 1)
                case rel => exact ⟨j + 1, by omega, by go_num, rfl, B'⟩
                case measure => omega
    · obtain rfl : j = 8 := by omega
      have e := hideIt (M.nx_none hr.out B.out)
      go_wp2
      go_ret2
      rw [e.out]
      exact ⟨rfl, H.out, Fr.refl _ _⟩
end

/-! ### The words -/
/-- Eight Bools, as a value. -/
abbrev b8 (f : Nat → Bool) : Value := .agg #[.bool (f 0), .bool (f 1), .bool (f 2), .bool (f 3), .bool (f 4), .bool (f 5), .bool (f 6), .bool (f 7)]
/-- Eight Bools in memory. -/
def BA (w : World) (x : Nat) (f : Nat → Bool) : Prop := w.rowIs x 38 8 (fun k => .bool (f k))
theorem BA.made (w : World) (f : Nat → Bool) : ∃ W, w.alloc (.cells #[.bool (f 0), .bool (f 1), .bool (f 2), .bool (f 3), .bool (f 4), .bool (f 5), .bool (f 6), .bool (f 7)] 38) = W ∧ BA W w.heap.size f ∧ w.grownBy W none :=
  ⟨_, rfl, w.rowIs_alloc _ _ (fun k => .bool (f k)) (fun i hi => by
    have hj : i = 0 ∨ i = 1 ∨ i = 2 ∨ i = 3 ∨ i = 4 ∨ i = 5 ∨ i = 6 ∨ i = 7 := by simp at hi; omega
    rcases hj with rfl | rfl | rfl | rfl | rfl | rfl | rfl | rfl <;> rfl), gbAlloc _ _ _⟩
theorem BA.cell {w : World} {x : Nat} {f : Nat → Bool} (h : BA w x f) {k : Nat} (hk : k < 8) : w.cell? ⟨x, k, none⟩ = some (.bool (f k)) := World.rowIs.cell h hk
theorem M.wu_lt (f : Nat → Bool) : ∀ j, M.wu f j < 2 ^ j
  | 0 => by simp [M.wu]
  | j + 1 => by
    have h1 := M.wu_lt f j
    have h2 := M.bb_le f (7 - j)
    unfold M.wu
    rw [Nat.pow_succ]
    omega

set_option maxHeartbeats 2000000 in
theorem rword_is (w : World) (f : Nat → Bool) :
    Calls Try.prog 31 #[b8 f] w fun e w' => e = .returned (.int .u64 (M.wd f : Int)) ∧ w.grownBy w' none := by
  obtain ⟨V, eV, B, gV⟩ := BA.made w f
  replace B := hideIt B
  obtain ⟨x, hx⟩ : ∃ x, w.heap.size = x := ⟨_, rfl⟩
  go_enter Try.func31, Try.ntmps31
  go_wp2_with fail
  rw [hx] at B
  clear eV hx
  go_loopg [3, 4] 8 (fun gk c s wr => ∃ j : Nat, j + gk = 8 ∧ s = .int .i64 (7 - (j : Int)) ∧ c = .int .u64 (M.wu f j : Int) ∧ wr = V)
  case atStart => exact ⟨0, rfl, rfl, rfl, rfl⟩
  case round =>
    obtain ⟨j, hj, rfl, rfl, rfl⟩ := hrel
    by_cases hlt : j < 8
    · obtain ⟨k, hk⟩ : ∃ k : Nat, k = 7 - j := ⟨_, rfl⟩
      have e7 : (7 - (j : Int)) = (k : Int) := by omega
      have e6 : Hid ((k : Int) - 1 = 7 - ((j : Int) + 1)) := hideIt (by omega)
      have hk8 : k < 8 := by omega
      have c1 := B.out.cell hk8
      obtain ⟨z, hz⟩ : ∃ z, M.wu f j = z := ⟨_, rfl⟩
      have hz2 : z < 256 := by
        have h1 := M.wu_lt f j
        have h2 : 2 ^ j ≤ 2 ^ 8 := Nat.pow_le_pow_right (by decide) (by omega)
        omega
      have n1 : Hid (M.wu f (j + 1) = 2 * z + M.bb f k) := hideIt (by rw [← hz, hk]; rfl)
      rw [e7, hz]
      clear e7 hz
      replace hk := hideIt hk
      cases hp : f k with
      | true =>
        rw [hp] at c1
        have n2 : Hid ((2 * (z : Int) + 1) = (M.wu f (j + 1) : Int)) := hideIt (by rw [n1.out]; unfold M.bb; rw [hp]; simp)
        clear hp n1
        go_wp2
        go_roundg (gk - 1)
        case rel => exact ⟨j + 1, by omega, by rw [e6.out]; push_cast; rfl, by rw [n2.out], rfl⟩
        case measure => omega
      | false =>
        rw [hp] at c1
        have n2 : Hid ((2 * (z : Int)) = (M.wu f (j + 1) : Int)) := hideIt (by rw [n1.out]; unfold M.bb; rw [hp]; simp)
        clear hp n1
        go_wp2
        go_roundg (gk - 1)
        case rel => exact ⟨j + 1, by omega, by rw [e6.out]; push_cast; rfl, by rw [n2.out], rfl⟩
        case measure => omega
    · obtain rfl : j = 8 := by omega
      go_wp2
      go_ret
      exact ⟨by rw [← M.wu_eq]; rfl, gV⟩

section
variable {w : World} {O : Nat → Prop} {x : Nat} {i : I}
theorem JA.isAt (h : JA w O x i) : w.rangeAt x 0 [.bool (i.p 0), .bool (i.p 1), .bool (i.p 2), .bool (i.p 3), .bool (i.p 4), .bool (i.p 5), .bool (i.p 6), .bool (i.p 7)] := by
  intro j v hj
  have hj8 : j < 8 := (List.getElem?_eq_some_iff.1 hj).1
  rw [Nat.zero_add, h.pend hj8]
  rw [← hj]
  have : j = 0 ∨ j = 1 ∨ j = 2 ∨ j = 3 ∨ j = 4 ∨ j = 5 ∨ j = 6 ∨ j = 7 := by omega
  rcases this with rfl | rfl | rfl | rfl | rfl | rfl | rfl | rfl <;> rfl
theorem JA.maskAt (h : JA w O x i) : w.rangeAt x 8 [.bool (i.m 0), .bool (i.m 1), .bool (i.m 2), .bool (i.m 3), .bool (i.m 4), .bool (i.m 5), .bool (i.m 6), .bool (i.m 7)] := by
  intro j v hj
  have hj8 : j < 8 := (List.getElem?_eq_some_iff.1 hj).1
  rw [h.mask hj8]
  rw [← hj]
  have : j = 0 ∨ j = 1 ∨ j = 2 ∨ j = 3 ∨ j = 4 ∨ j = 5 ∨ j = 6 ∨ j = 7 := by omega
  rcases this with rfl | rfl | rfl | rfl | rfl | rfl | rfl | rfl <;> rfl
theorem sizeB8 : (Try.prog.info? 38).map (·.size) = some 8 := by kernel_rfl
set_option maxHeartbeats 800000 in
theorem rpending_is (h : JA w O x i) (W : Nat) (hW : M.wd i.p = W) :
    Calls Try.prog 20 #[.pointer (some ⟨x, 0, none⟩)] w fun e w' => e = .returned (.int .u64 (W : Int)) ∧ w.grownBy w' none := by
  subst hW
  have r1 := h.isAt
  clear h
  go_enter Try.func20, Try.ntmps20
  go_wp2_with (refine wpList_load_mid rfl 38 (.tmp 5) rfl x 0 rfl _ _ r1 Try.underlying38 rfl sizeB8 ?_)
  refine (rword_is w i.p).mono ?_
  rintro e w1 ⟨rfl, g⟩
  replace g := hideIt g
  go_wp2
  go_ret
  exact ⟨rfl, g.out⟩
set_option maxHeartbeats 800000 in
theorem rmasked_is (h : JA w O x i) (W : Nat) (hW : M.wd i.m = W) :
    Calls Try.prog 22 #[.pointer (some ⟨x, 0, none⟩)] w fun e w' => e = .returned (.int .u64 (W : Int)) ∧ w.grownBy w' none := by
  subst hW
  have r1 := h.maskAt
  clear h
  go_enter Try.func22, Try.ntmps22
  go_wp2_with (refine wpList_load_mid rfl 38 (.tmp 5) rfl x 8 rfl _ _ r1 Try.underlying38 rfl sizeB8 ?_)
  refine (rword_is w i.m).mono ?_
  rintro e w1 ⟨rfl, g⟩
  replace g := hideIt g
  go_wp2
  go_ret
  exact ⟨rfl, g.out⟩
end

/-! ### New -/
/-- j lines are masked. -/
def M.ij (j : Nat) : I := ⟨fun _ => false, fun k => decide (k < j), fun _ => -1⟩
theorem JA.begin (w : World) (t : Array Value) (ht : t = ((List.range 32).map (dg (M.ij 0))).toArray) : JA (w.alloc (.cells t 50)) (fun k => k = w.heap.size) w.heap.size (M.ij 0) :=
  ⟨by
    subst ht
    exact w.rowIs_alloc _ _ (dg (M.ij 0)) (fun i hi => by simp at hi; simp [hi]), rfl⟩
theorem refNew (w : World) : ∃ W, w.alloc (.cells #[.bool false, .bool false, .bool false, .bool false, .bool false, .bool false, .bool false, .bool false, .bool false, .bool false, .bool false, .bool false, .bool false, .bool false, .bool false, .bool false, .bool false, .bool false, .bool false, .bool false, .bool false, .bool false, .bool false, .bool false, .int .i64 0, .int .i64 0, .int .i64 0, .int .i64 0, .int .i64 0, .int .i64 0, .int .i64 0, .int .i64 0] 50) = W ∧ JA W (fun k => k = w.heap.size) w.heap.size (M.ij 0) ∧ w.grownBy W none :=
  ⟨_, rfl, JA.begin w _ rfl, gbAlloc _ _ _⟩
set_option maxHeartbeats 2000000 in
theorem rnew_is (w : World) : Calls Try.prog 8 #[] w fun e w' => ∃ x, e = .returned (.pointer (some ⟨x, 0, none⟩)) ∧ w.grownBy w' none ∧ JA w' (fun k => w.heap.size ≤ k ∧ k < w'.heap.size) x M.i0 := by
  obtain ⟨V, eV, J0, gV⟩ := refNew w
  obtain ⟨x, hx⟩ : ∃ x, w.heap.size = x := ⟨_, rfl⟩
  have lx : Hid (w.heap.size ≤ x) := hideIt (by omega)
  rw [hx] at J0
  replace J0 := hideIt J0
  replace gV := hideIt gV
  go_enter Try.func8, Try.ntmps8
  go_wp2_with fail
  clear eV hx
  go_loopg [2] 8 (fun gk s wr => ∃ j : Nat, j + gk = 8 ∧ s = .int .i64 j ∧ Hid (JA wr (fun k => k = x) x (M.ij j)) ∧ Hid (w.grownBy wr none))
  case atStart => exact ⟨0, rfl, rfl, J0, gV⟩
  case round =>
    obtain ⟨j, hj, rfl, J, G⟩ := hrel
    clear J0 gV
    by_cases hlt : j < 8
    · have m1 := J.out.mask hlt
      have f1 := J.out.fz (8 + j)
      obtain ⟨W, eW, HW, gW⟩ := J.out.setM hlt true
      have e0 : ub (M.ij j).m j true = (M.ij (j + 1)).m := by
        funext t
        unfold ub M.ij
        simp only []
        by_cases e : t = j
        · rw [if_pos e]; simp; omega
        · rw [if_neg e]
          by_cases c : t < j
          · simp [c, show t < j + 1 by omega]
          · simp [c, show ¬ t < j + 1 by omega]
      have J' : Hid (JA W (fun k => k = x) x (M.ij (j + 1))) := hideIt (by
        have := HW
        rw [e0] at this
        exact this)
      have G' := hideIt (gbNew (gbTrans (gbAny G.out _) gW) lx.out)
      clear HW e0 gW
      go_wp2
      go_roundg (gk - 1)
      case rel => exact ⟨j + 1, by omega, by go_num, J', G'⟩
      case measure => omega
    · obtain rfl : j = 8 := by omega
      go_wp2
      go_ret
      refine ⟨x, rfl, G.out, ⟨World.rowIs.congr J.out.row (fun a ha => ?_), ⟨lx.out, J.out.lt⟩⟩⟩
      unfold dg M.ij M.i0 M.hs M.ow
      simp only []
      by_cases c1 : a < 8
      · rw [if_pos c1, if_pos c1]
      · rw [if_neg c1, if_neg c1]
        by_cases c2 : a < 16
        · rw [if_pos c2, if_pos c2]
          simp
          omega
        · rw [if_neg c2, if_neg c2]
end Go.Proofs.Ytekohlbafhlldaa
