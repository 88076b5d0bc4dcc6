/-
  THE CONTRACTS of package guard: Find, Cap (written by mkfnd.py).
-/
import Derived.Test.YtdnoidnpiaadaaaGreatG23
namespace Go.Proofs.YtdnoidnpiaadaaaGreat
set_option maxRecDepth 10000
open Go.RowKit
set_option linter.unusedVariables false

namespace M
/-- Find: the node, the slot's number, the error. -/
def fdOf (x : Int × Int × Int × Int) : Int × Int × Int := if x.2.2.2 = 0 then (if x.2.2.1 = 0 then (x.1, x.2.1, 0) else (0, 0, 6)) else (0, 0, x.2.2.2)
def fd (S : St) (c : C) (p : Nat) (d : Int) : Int × Int × Int := fdOf (rs S c p d)
/-- Cap: the node, the slot's number, the capability, the error. -/
def cpOf (S : St) (x : Int × Int × Int × Int) : Int × Int × C × Int := if x.2.2.2 = 0 then (if (getC S x.1 x.2.1).k = 0 then (0, 0, C.zero, 3) else (x.1, x.2.1, getC S x.1 x.2.1, 0)) else (0, 0, C.zero, x.2.2.2)
def cp (S : St) (c : C) (p : Nat) : Int × Int × C × Int := cpOf S (rs S c p 16)
/-- What is left is no less than nought. -/
theorem rs_left (S : St) (c : C) (p : Nat) (d : Int) : ∃ t : Nat, (rs S c p d).2.2.1 = (t : Int) := by
  unfold rs
  split
  · split
    · split
      · exact ⟨0, rfl⟩
      · rename_i n a t _
        exact ⟨t, rfl⟩
    · exact ⟨0, rfl⟩
  · exact ⟨0, rfl⟩
/-- The node is one that a number can be. -/
theorem res_i64 {S : St} (G : Good S) (p : Nat) : ∀ f c l n a t, I64 c.o → res S p f c l = some (n, a, t) → I64 n
  | 0, c, l, n, a, t, _, h => by cases h
  | f + 1, c, l, n, a, t, ho, h => by
    cases hv : lvl S p c l with
    | none => rw [res_no hv] at h; cases h
    | some x =>
      obtain ⟨a1, t1⟩ := x
      by_cases hk : t1 = 0 ∨ (getC S c.o a1).k ≠ 2
      · rw [res_end hv hk] at h
        simp only [Option.some.injEq, Prod.mk.injEq] at h
        rw [← h.1]; exact ho
      · rw [res_on hv hk] at h
        exact res_i64 G p f _ t1 n a t (getC_obj G _ _) h
theorem rs_i64 {S : St} (G : Good S) (c : C) (p : Nat) (d : Int) (ho : I64 c.o) : I64 (rs S c p d).1 := by
  unfold rs
  split
  · split
    · split
      · exact i64_of (by decide) (by decide)
      · rename_i n a t hv
        exact res_i64 G p 17 c _ n a t ho hv
    · exact i64_of (by decide) (by decide)
  · exact i64_of (by decide) (by decide)
end M
theorem threeNew (w : World) (c : C) : ∃ W, ((w.alloc (.cells #[.int .i64 c.k, .int .i64 c.o, .int .i64 c.r, .int .u64 c.b, .int .u64 c.g, .int .i64 c.n] 25)).alloc (.cells #[.int .i64 0, .int .i64 0] 31)).alloc (.cells #[.int .i64 0, .int .i64 0, .int .i64 0, .int .u64 0, .int .u64 0, .int .i64 0] 25) = W ∧
    Box W w.heap.size c ∧ SBox W (w.heap.size + 1) 0 0 ∧ (∀ i, W.frozen? ⟨w.heap.size + 1, i, none⟩ = false) ∧ Box W (w.heap.size + 2) C.zero ∧ w.grownBy W none := by
  obtain ⟨V, hV, X, Y, F, g⟩ := capSlot w c
  rw [hV]
  have hs : V.heap.size = w.heap.size + 2 := by rw [← hV]; simp
  have Z := Box.made V C.zero
  rw [hs] at Z
  exact ⟨_, rfl, X.kept (gbAlloc _ _ _), Y.kept (gbAlloc _ _ _), fun i => (gbFrozen (gbAlloc _ _ none) Y.lt (by simp)).trans (F i), Z, gbTrans g (gbAlloc _ _ _)⟩

set_option maxHeartbeats 1000000 in
theorem find_err (w : World) (s p l : Nat) (k o r b g n d N A E : Int) (he : (E != 0) = true) (HR : ∀ W, w.grownBy W none → Calls Tryz.prog 102 #[.pointer (some ⟨s, 0, none⟩), cv ⟨k, o, r, b, g, n⟩, .int .u64 p, .int .i64 d] W fun e w' => e = .returned (.tuple #[sv N A, .int .i64 (l : Nat), .int .i64 E]) ∧ W.grownBy w' none) :
    Calls Tryz.prog 64 #[.pointer (some ⟨s, 0, none⟩), cv ⟨k, o, r, b, g, n⟩, .int .u64 p, .int .i64 d] w fun e w' => e = .returned (.tuple #[sv 0 0, .int .i64 E]) ∧ w.grownBy w' none := by
  go_enter Tryz.func64, Tryz.ntmps64
  go_upto_region 1 with fail
  obtain ⟨W, hW, X, Y, hY, g0⟩ := capSlot w ⟨k, o, r, b, g, n⟩
  simp only at hW
  rw [hW]
  clear hW
  have HY := hideIt hY
  obtain ⟨x0, x1, x2, x3, x4, x5, _, _⟩ := X
  simp only at x0 x1 x2 x3 x4 x5
  clear hY
  go_wp2_with fail
  refine (HR _ g0).mono ?_
  rintro _ w1 ⟨rfl, g1⟩
  clear x0 x1 x2 x3 x4 x5
  go_upto_region 2 with fail
  obtain ⟨W2, hW2, Z2, g2⟩ := sboxNew w1 N A
  rw [hW2]
  clear hW2
  have Y2 := Y.kept (gbTrans g1 g2)
  have HY2 := hideIt Y2
  obtain ⟨z0, z1, _⟩ := Z2
  obtain ⟨y0, y1, _⟩ := Y2
  have f0 := (gbFrozen (gbTrans g1 g2) Y.lt (by simp)).trans (HY.out 0)
  have f1 := (gbFrozen (gbTrans g1 g2) Y.lt (by simp)).trans (HY.out 1)
  clear Y
  go_wp2
  obtain ⟨W3, hW3, Y3, g3⟩ := HY2.out.put 0 0
  rw [hW3]
  clear hW3 y0 y1 f0 f1
  obtain ⟨y0, y1, _⟩ := Y3
  exact bodyPost_ret (v := .tuple #[sv 0 0, .int .i64 E]) (by simp [results, Tryz.results64, go_sem, y0, y1]) rfl ⟨rfl, gbNew (gbTrans (gbAny (gbTrans g0 (gbTrans g1 g2)) _) g3) (Nat.le_succ _)⟩

set_option maxHeartbeats 1000000 in
theorem find_left (w : World) (s p l : Nat) (k o r b g n d N A E : Int) (he : (E != 0) = false) (hl : ((l : Int) != 0) = true) (HR : ∀ W, w.grownBy W none → Calls Tryz.prog 102 #[.pointer (some ⟨s, 0, none⟩), cv ⟨k, o, r, b, g, n⟩, .int .u64 p, .int .i64 d] W fun e w' => e = .returned (.tuple #[sv N A, .int .i64 (l : Nat), .int .i64 E]) ∧ W.grownBy w' none) :
    Calls Tryz.prog 64 #[.pointer (some ⟨s, 0, none⟩), cv ⟨k, o, r, b, g, n⟩, .int .u64 p, .int .i64 d] w fun e w' => e = .returned (.tuple #[sv 0 0, .int .i64 6]) ∧ w.grownBy w' none := by
  go_enter Tryz.func64, Tryz.ntmps64
  go_upto_region 1 with fail
  obtain ⟨W, hW, X, Y, hY, g0⟩ := capSlot w ⟨k, o, r, b, g, n⟩
  simp only at hW
  rw [hW]
  clear hW
  have HY := hideIt hY
  obtain ⟨x0, x1, x2, x3, x4, x5, _, _⟩ := X
  simp only at x0 x1 x2 x3 x4 x5
  clear hY
  go_wp2_with fail
  refine (HR _ g0).mono ?_
  rintro _ w1 ⟨rfl, g1⟩
  clear x0 x1 x2 x3 x4 x5
  go_upto_region 2 with fail
  obtain ⟨W2, hW2, Z2, g2⟩ := sboxNew w1 N A
  rw [hW2]
  clear hW2
  have Y2 := Y.kept (gbTrans g1 g2)
  have HY2 := hideIt Y2
  obtain ⟨z0, z1, _⟩ := Z2
  obtain ⟨y0, y1, _⟩ := Y2
  have f0 := (gbFrozen (gbTrans g1 g2) Y.lt (by simp)).trans (HY.out 0)
  have f1 := (gbFrozen (gbTrans g1 g2) Y.lt (by simp)).trans (HY.out 1)
  clear Y
  go_wp2
  obtain ⟨W3, hW3, Y3, g3⟩ := HY2.out.put 0 0
  rw [hW3]
  clear hW3 y0 y1 f0 f1
  obtain ⟨y0, y1, _⟩ := Y3
  exact bodyPost_ret (v := .tuple #[sv 0 0, .int .i64 6]) (by simp [results, Tryz.results64, go_sem, y0, y1]) rfl ⟨rfl, gbNew (gbTrans (gbAny (gbTrans g0 (gbTrans g1 g2)) _) g3) (Nat.le_succ _)⟩

set_option maxHeartbeats 1000000 in
theorem find_ok (w : World) (s p l : Nat) (k o r b g n d N A E : Int) (he : (E != 0) = false) (hl : ((l : Int) != 0) = false) (HR : ∀ W, w.grownBy W none → Calls Tryz.prog 102 #[.pointer (some ⟨s, 0, none⟩), cv ⟨k, o, r, b, g, n⟩, .int .u64 p, .int .i64 d] W fun e w' => e = .returned (.tuple #[sv N A, .int .i64 (l : Nat), .int .i64 E]) ∧ W.grownBy w' none) :
    Calls Tryz.prog 64 #[.pointer (some ⟨s, 0, none⟩), cv ⟨k, o, r, b, g, n⟩, .int .u64 p, .int .i64 d] w fun e w' => e = .returned (.tuple #[sv N A, .int .i64 0]) ∧ w.grownBy w' none := by
  go_enter Tryz.func64, Tryz.ntmps64
  go_upto_region 1 with fail
  obtain ⟨W, hW, X, Y, hY, g0⟩ := capSlot w ⟨k, o, r, b, g, n⟩
  simp only at hW
  rw [hW]
  clear hW
  have HY := hideIt hY
  obtain ⟨x0, x1, x2, x3, x4, x5, _, _⟩ := X
  simp only at x0 x1 x2 x3 x4 x5
  clear hY
  go_wp2_with fail
  refine (HR _ g0).mono ?_
  rintro _ w1 ⟨rfl, g1⟩
  clear x0 x1 x2 x3 x4 x5
  go_upto_region 2 with fail
  obtain ⟨W2, hW2, Z2, g2⟩ := sboxNew w1 N A
  rw [hW2]
  clear hW2
  have Y2 := Y.kept (gbTrans g1 g2)
  have HY2 := hideIt Y2
  obtain ⟨z0, z1, _⟩ := Z2
  obtain ⟨y0, y1, _⟩ := Y2
  have f0 := (gbFrozen (gbTrans g1 g2) Y.lt (by simp)).trans (HY.out 0)
  have f1 := (gbFrozen (gbTrans g1 g2) Y.lt (by simp)).trans (HY.out 1)
  clear Y
  go_wp2
  obtain ⟨W3, hW3, Y3, g3⟩ := HY2.out.put N A
  rw [hW3]
  clear hW3 y0 y1 f0 f1
  obtain ⟨y0, y1, _⟩ := Y3
  exact bodyPost_ret (v := .tuple #[sv N A, .int .i64 0]) (by simp [results, Tryz.results64, go_sem, y0, y1]) rfl ⟨rfl, gbNew (gbTrans (gbAny (gbTrans g0 (gbTrans g1 g2)) _) g3) (Nat.le_succ _)⟩

set_option maxHeartbeats 2000000 in
theorem cap_err (w : World) (s p l : Nat) (k o r b g n N A E : Int) (he : (E != 0) = true) (HR : ∀ W, w.grownBy W none → Calls Tryz.prog 102 #[.pointer (some ⟨s, 0, none⟩), cv ⟨k, o, r, b, g, n⟩, .int .u64 p, .int .i64 16] W fun e w' => e = .returned (.tuple #[sv N A, .int .i64 (l : Nat), .int .i64 E]) ∧ W.grownBy w' none) :
    Calls Tryz.prog 62 #[.pointer (some ⟨s, 0, none⟩), cv ⟨k, o, r, b, g, n⟩, .int .u64 p] w fun e w' => e = .returned (.tuple #[sv 0 0, cv C.zero, .int .i64 E]) ∧ w.grownBy w' none := by
  go_enter Tryz.func62, Tryz.ntmps62
  go_upto_region 1 with fail
  obtain ⟨W, hW, X, Y, hY, C, g0⟩ := threeNew w ⟨k, o, r, b, g, n⟩
  simp only at hW
  rw [hW]
  clear hW
  have HY := hideIt hY
  obtain ⟨x0, x1, x2, x3, x4, x5, _, _⟩ := X
  simp only at x0 x1 x2 x3 x4 x5
  clear hY
  go_wp2_with fail
  refine (HR _ g0).mono ?_
  rintro _ w1 ⟨rfl, g1⟩
  clear x0 x1 x2 x3 x4 x5
  go_upto_region 2 with fail
  obtain ⟨W2, hW2, Z2, g2⟩ := sboxNew w1 N A
  rw [hW2]
  clear hW2
  have Y2 := Y.kept (gbTrans g1 g2)
  have C2 := C.kept (gbTrans g1 g2)
  have HY2 := hideIt Y2
  obtain ⟨y0, y1, _⟩ := Y2
  have f0 := (gbFrozen (gbTrans g1 g2) Y.lt (by simp)).trans (HY.out 0)
  have f1 := (gbFrozen (gbTrans g1 g2) Y.lt (by simp)).trans (HY.out 1)
  have GG := gbTrans g0 (gbTrans g1 g2)
  have HC2 := hideIt C2
  obtain ⟨c0, c1, c2, c3, c4, c5, _, cf⟩ := C2
  have f2 := cf 0
  have f3 := cf 1
  have f4 := cf 2
  have f5 := cf 3
  have f6 := cf 4
  have f7 := cf 5
  clear cf C Y
  go_wp2
  obtain ⟨W7, hW7, Y7, g7⟩ := HY2.out.put 0 0
  rw [hW7]
  have C7 := HC2.out.keep g7 (by simp)
  obtain ⟨W8, hW8, C8, g8⟩ := C7.put C.zero
  simp only at hW8
  rw [hW8]
  have Y8 := Y7.keep g8 (by omega)
  clear hW7 hW8 y0 y1 f0 f1 c0 c1 c2 c3 c4 c5 f2 f3 f4 f5 f6 f7
  obtain ⟨y0, y1, _⟩ := Y8
  obtain ⟨c0, c1, c2, c3, c4, c5, _, _⟩ := C8
  exact bodyPost_ret (v := .tuple #[sv 0 0, cv C.zero, .int .i64 E]) (by simp [results, Tryz.results62, go_sem, y0, y1, c0, c1, c2, c3, c4, c5]) rfl ⟨rfl, gbNew (gbTrans (gbAny (gbNew (gbTrans (gbAny GG _) g7) (Nat.le_succ _)) _) g8) (Nat.le_add_right _ 2)⟩

set_option maxHeartbeats 2000000 in
theorem cap_null (w : World) (s p l : Nat) (k o r b g n N A E : Int) (he : (E != 0) = false) (k2 o2 r2 b2 g2' n2 e2 : Int) (hk : (k2 == 0) = true) (HG : ∀ W, w.grownBy W none → Calls Tryz.prog 51 #[.pointer (some ⟨s, 0, none⟩), sv N A] W fun e w' => e = .returned (.tuple #[cv ⟨k2, o2, r2, b2, g2', n2⟩, .int .i64 e2]) ∧ W.grownBy w' none) (HR : ∀ W, w.grownBy W none → Calls Tryz.prog 102 #[.pointer (some ⟨s, 0, none⟩), cv ⟨k, o, r, b, g, n⟩, .int .u64 p, .int .i64 16] W fun e w' => e = .returned (.tuple #[sv N A, .int .i64 (l : Nat), .int .i64 E]) ∧ W.grownBy w' none) :
    Calls Tryz.prog 62 #[.pointer (some ⟨s, 0, none⟩), cv ⟨k, o, r, b, g, n⟩, .int .u64 p] w fun e w' => e = .returned (.tuple #[sv 0 0, cv C.zero, .int .i64 3]) ∧ w.grownBy w' none := by
  go_enter Tryz.func62, Tryz.ntmps62
  go_upto_region 1 with fail
  obtain ⟨W, hW, X, Y, hY, C, g0⟩ := threeNew w ⟨k, o, r, b, g, n⟩
  simp only at hW
  rw [hW]
  clear hW
  have HY := hideIt hY
  obtain ⟨x0, x1, x2, x3, x4, x5, _, _⟩ := X
  simp only at x0 x1 x2 x3 x4 x5
  clear hY
  go_wp2_with fail
  refine (HR _ g0).mono ?_
  rintro _ w1 ⟨rfl, g1⟩
  clear x0 x1 x2 x3 x4 x5
  go_upto_region 2 with fail
  obtain ⟨W2, hW2, Z2, g2⟩ := sboxNew w1 N A
  rw [hW2]
  clear hW2
  obtain ⟨z0, z1, _⟩ := id Z2
  go_wp2_with fail
  refine (HG _ (gbTrans g0 (gbTrans g1 g2))).mono ?_
  rintro _ w3 ⟨rfl, g3⟩
  clear z0 z1
  have C1 : w.heap.size + 2 < W.heap.size := C.lt
  go_upto_region 5 with fail
  obtain ⟨W4, hW4, X4, g4⟩ := boxNew w3 ⟨k2, o2, r2, b2, g2', n2⟩
  simp only at hW4
  rw [hW4]
  clear hW4
  have Z4 := Z2.kept (gbTrans g3 g4)
  obtain ⟨z0, z1, _⟩ := Z4
  obtain ⟨x0, x1, x2, x3, x4, x5, _, _⟩ := X4
  simp only at x0 x1 x2 x3 x4 x5
  have Y2 := Y.kept (gbTrans (gbTrans g1 g2) (gbTrans g3 g4))
  have C2 := C.kept (gbTrans (gbTrans g1 g2) (gbTrans g3 g4))
  have HY2 := hideIt Y2
  obtain ⟨y0, y1, _⟩ := Y2
  have f0 := (gbFrozen (gbTrans (gbTrans g1 g2) (gbTrans g3 g4)) Y.lt (by simp)).trans (HY.out 0)
  have f1 := (gbFrozen (gbTrans (gbTrans g1 g2) (gbTrans g3 g4)) Y.lt (by simp)).trans (HY.out 1)
  have GG := gbTrans g0 (gbTrans (gbTrans g1 g2) (gbTrans g3 g4))
  have HC2 := hideIt C2
  obtain ⟨c0, c1, c2, c3, c4, c5, _, cf⟩ := C2
  have f2 := cf 0
  have f3 := cf 1
  have f4 := cf 2
  have f5 := cf 3
  have f6 := cf 4
  have f7 := cf 5
  clear cf C Y
  go_wp2
  obtain ⟨W7, hW7, Y7, g7⟩ := HY2.out.put 0 0
  rw [hW7]
  have C7 := HC2.out.keep g7 (by simp)
  obtain ⟨W8, hW8, C8, g8⟩ := C7.put C.zero
  simp only at hW8
  rw [hW8]
  have Y8 := Y7.keep g8 (by omega)
  clear hW7 hW8 y0 y1 f0 f1 c0 c1 c2 c3 c4 c5 f2 f3 f4 f5 f6 f7
  obtain ⟨y0, y1, _⟩ := Y8
  obtain ⟨c0, c1, c2, c3, c4, c5, _, _⟩ := C8
  exact bodyPost_ret (v := .tuple #[sv 0 0, cv C.zero, .int .i64 3]) (by simp [results, Tryz.results62, go_sem, y0, y1, c0, c1, c2, c3, c4, c5]) rfl ⟨rfl, gbNew (gbTrans (gbAny (gbNew (gbTrans (gbAny GG _) g7) (Nat.le_succ _)) _) g8) (Nat.le_add_right _ 2)⟩

set_option maxHeartbeats 2000000 in
theorem cap_ok (w : World) (s p l : Nat) (k o r b g n N A E : Int) (he : (E != 0) = false) (k2 o2 r2 b2 g2' n2 e2 : Int) (hk : (k2 == 0) = false) (HG : ∀ W, w.grownBy W none → Calls Tryz.prog 51 #[.pointer (some ⟨s, 0, none⟩), sv N A] W fun e w' => e = .returned (.tuple #[cv ⟨k2, o2, r2, b2, g2', n2⟩, .int .i64 e2]) ∧ W.grownBy w' none) (HR : ∀ W, w.grownBy W none → Calls Tryz.prog 102 #[.pointer (some ⟨s, 0, none⟩), cv ⟨k, o, r, b, g, n⟩, .int .u64 p, .int .i64 16] W fun e w' => e = .returned (.tuple #[sv N A, .int .i64 (l : Nat), .int .i64 E]) ∧ W.grownBy w' none) :
    Calls Tryz.prog 62 #[.pointer (some ⟨s, 0, none⟩), cv ⟨k, o, r, b, g, n⟩, .int .u64 p] w fun e w' => e = .returned (.tuple #[sv N A, cv ⟨k2, o2, r2, b2, g2', n2⟩, .int .i64 0]) ∧ w.grownBy w' none := by
  go_enter Tryz.func62, Tryz.ntmps62
  go_upto_region 1 with fail
  obtain ⟨W, hW, X, Y, hY, C, g0⟩ := threeNew w ⟨k, o, r, b, g, n⟩
  simp only at hW
  rw [hW]
  clear hW
  have HY := hideIt hY
  obtain ⟨x0, x1, x2, x3, x4, x5, _, _⟩ := X
  simp only at x0 x1 x2 x3 x4 x5
  clear hY
  go_wp2_with fail
  refine (HR _ g0).mono ?_
  rintro _ w1 ⟨rfl, g1⟩
  clear x0 x1 x2 x3 x4 x5
  go_upto_region 2 with fail
  obtain ⟨W2, hW2, Z2, g2⟩ := sboxNew w1 N A
  rw [hW2]
  clear hW2
  obtain ⟨z0, z1, _⟩ := id Z2
  go_wp2_with fail
  refine (HG _ (gbTrans g0 (gbTrans g1 g2))).mono ?_
  rintro _ w3 ⟨rfl, g3⟩
  clear z0 z1
  have C1 : w.heap.size + 2 < W.heap.size := C.lt
  go_upto_region 5 with fail
  obtain ⟨W4, hW4, X4, g4⟩ := boxNew w3 ⟨k2, o2, r2, b2, g2', n2⟩
  simp only at hW4
  rw [hW4]
  clear hW4
  have Z4 := Z2.kept (gbTrans g3 g4)
  obtain ⟨z0, z1, _⟩ := Z4
  obtain ⟨x0, x1, x2, x3, x4, x5, _, _⟩ := X4
  simp only at x0 x1 x2 x3 x4 x5
  have Y2 := Y.kept (gbTrans (gbTrans g1 g2) (gbTrans g3 g4))
  have C2 := C.kept (gbTrans (gbTrans g1 g2) (gbTrans g3 g4))
  have HY2 := hideIt Y2
  obtain ⟨y0, y1, _⟩ := Y2
  have f0 := (gbFrozen (gbTrans (gbTrans g1 g2) (gbTrans g3 g4)) Y.lt (by simp)).trans (HY.out 0)
  have f1 := (gbFrozen (gbTrans (gbTrans g1 g2) (gbTrans g3 g4)) Y.lt (by simp)).trans (HY.out 1)
  have GG := gbTrans g0 (gbTrans (gbTrans g1 g2) (gbTrans g3 g4))
  have HC2 := hideIt C2
  obtain ⟨c0, c1, c2, c3, c4, c5, _, cf⟩ := C2
  have f2 := cf 0
  have f3 := cf 1
  have f4 := cf 2
  have f5 := cf 3
  have f6 := cf 4
  have f7 := cf 5
  clear cf C Y
  have hz1 := HY2.out.lt
  have hz2 := HC2.out.lt
  have k1 := GG.size
  have k2' := g0.size
  have k3 := g1.size
  have k4 := g2.size
  have k5 := g3.size
  have k6 := C1
  have n1 : ¬ w1.heap.size = w.heap.size + 1 := by omega
  have n2' : ¬ w1.heap.size = w.heap.size + 2 := by omega
  have n3 : ¬ w3.heap.size = w.heap.size + 1 := by omega
  have n4 : ¬ w3.heap.size = w.heap.size + 2 := by omega
  clear hz1 hz2 k1 k2' k3 k4 k5 k6
  go_wp2
  go_region
  obtain ⟨W7, hW7, Y7, g7⟩ := HY2.out.put N A
  rw [hW7]
  have C7 := HC2.out.keep g7 (by simp)
  obtain ⟨W8, hW8, C8, g8⟩ := C7.put ⟨k2, o2, r2, b2, g2', n2⟩
  simp only at hW8
  rw [hW8]
  have Y8 := Y7.keep g8 (by omega)
  have C9 := C8.kept (gbDrewN W8 1 none)
  have Y9 := Y8.kept (gbDrewN W8 1 none)
  clear hW7 hW8 y0 y1 f0 f1 c0 c1 c2 c3 c4 c5 f2 f3 f4 f5 f6 f7 x0 x1 x2 x3 x4 x5 z0 z1
  obtain ⟨y0, y1, _⟩ := Y8
  obtain ⟨c0, c1, c2, c3, c4, c5, _, _⟩ := C8
  simp only at c0 c1 c2 c3 c4 c5
  go_wp2
  exact bodyPost_ret (v := .tuple #[sv N A, cv ⟨k2, o2, r2, b2, g2', n2⟩, .int .i64 0]) (by simp [results, Tryz.results62, go_sem, y0, y1, c0, c1, c2, c3, c4, c5]) rfl ⟨rfl, gbDrew (gbNew (gbTrans (gbAny (gbNew (gbTrans (gbAny GG _) g7) (Nat.le_succ _)) _) g8) (Nat.le_add_right _ 2))⟩


theorem find_is {w : World} {s m : Nat} {O : Nat → Prop} {S : St} (h : SAt w s m O S) (G : Good S) (p : Nat) (k o r b g n d N A E : Int) (ho : I64 o) (hp : p < 18446744073709551616) (hr : M.fd S ⟨k, o, r, b, g, n⟩ p d = (N, A, E)) :
    Calls Tryz.prog 64 #[.pointer (some ⟨s, 0, none⟩), cv ⟨k, o, r, b, g, n⟩, .int .u64 p, .int .i64 d] w fun e w' => e = .returned (.tuple #[sv N A, .int .i64 E]) ∧ w.grownBy w' none := by
  obtain ⟨l, hl⟩ := M.rs_left S ⟨k, o, r, b, g, n⟩ p d
  obtain ⟨⟨N0, A0, l0, E0⟩, hx⟩ : ∃ x, M.rs S ⟨k, o, r, b, g, n⟩ p d = x := ⟨_, rfl⟩
  rw [hx] at hl
  simp only at hl
  subst hl
  have HR := fun W (gw : w.grownBy W none) => resolve_is (h.kept gw) G p k o r b g n d N0 A0 l E0 ho hp hx
  unfold M.fd M.fdOf at hr
  rw [hx] at hr
  simp only at hr
  by_cases he : E0 = 0
  · rw [if_pos he] at hr
    by_cases hl : (l : Int) = 0
    · rw [if_pos hl] at hr
      simp only [Prod.mk.injEq] at hr
      obtain ⟨rfl, rfl, rfl⟩ := hr
      exact find_ok w s p l k o r b g n d _ _ E0 (by simpa using he) (by simpa using hl) HR
    · rw [if_neg hl] at hr
      simp only [Prod.mk.injEq] at hr
      obtain ⟨rfl, rfl, rfl⟩ := hr
      exact find_left w s p l k o r b g n d N0 A0 E0 (by simpa using he) (by simpa using hl) HR
  · rw [if_neg he] at hr
    simp only [Prod.mk.injEq] at hr
    obtain ⟨rfl, rfl, rfl⟩ := hr
    exact find_err w s p l k o r b g n d N0 A0 _ (by simpa using he) HR

theorem capAt_is {w : World} {s m : Nat} {O : Nat → Prop} {S : St} (h : SAt w s m O S) (G : Good S) (p : Nat) (k o r b g n N A E : Int) (c : C) (ho : I64 o) (hp : p < 18446744073709551616) (hr : M.cp S ⟨k, o, r, b, g, n⟩ p = (N, A, c, E)) :
    Calls Tryz.prog 62 #[.pointer (some ⟨s, 0, none⟩), cv ⟨k, o, r, b, g, n⟩, .int .u64 p] w fun e w' => e = .returned (.tuple #[sv N A, cv c, .int .i64 E]) ∧ w.grownBy w' none := by
  obtain ⟨l, hl⟩ := M.rs_left S ⟨k, o, r, b, g, n⟩ p 16
  have hi := M.rs_i64 G ⟨k, o, r, b, g, n⟩ p 16 ho
  obtain ⟨⟨N0, A0, l0, E0⟩, hx⟩ : ∃ x, M.rs S ⟨k, o, r, b, g, n⟩ p 16 = x := ⟨_, rfl⟩
  rw [hx] at hl hi
  simp only at hl hi
  subst hl
  have HR := fun W (gw : w.grownBy W none) => resolve_is (h.kept gw) G p k o r b g n 16 N0 A0 l E0 ho hp hx
  unfold M.cp M.cpOf at hr
  rw [hx] at hr
  simp only at hr
  by_cases he : E0 = 0
  · rw [if_pos he] at hr
    obtain ⟨⟨k2, o2, r2, b2, g2, n2⟩, hc⟩ : ∃ c, M.getC S N0 A0 = c := ⟨_, rfl⟩
    have HG := fun W (gw : w.grownBy W none) => get_is (h.kept gw) G N0 A0 k2 o2 r2 b2 g2 n2 _ hi hc rfl
    rw [hc] at hr
    simp only at hr
    by_cases hk : k2 = 0
    · rw [if_pos hk] at hr
      simp only [Prod.mk.injEq] at hr
      obtain ⟨rfl, rfl, rfl, rfl⟩ := hr
      exact cap_null w s p l k o r b g n N0 A0 E0 (by simpa using he) k2 o2 r2 b2 g2 n2 _ (by simpa using hk) HG HR
    · rw [if_neg hk] at hr
      simp only [Prod.mk.injEq] at hr
      obtain ⟨rfl, rfl, rfl, rfl⟩ := hr
      exact cap_ok w s p l k o r b g n _ _ E0 (by simpa using he) k2 o2 r2 b2 g2 n2 _ (by simpa using hk) HG HR
  · rw [if_neg he] at hr
    simp only [Prod.mk.injEq] at hr
    obtain ⟨rfl, rfl, rfl, rfl⟩ := hr
    exact cap_err w s p l k o r b g n N0 A0 _ (by simpa using he) HR

end Go.Proofs.YtdnoidnpiaadaaaGreat
