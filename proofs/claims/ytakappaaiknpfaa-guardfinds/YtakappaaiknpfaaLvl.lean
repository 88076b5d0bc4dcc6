/-
  THE CONTRACTS of package guard: bitsOf, level (one node's part of an address).
-/
import Derived.Test.YtakappaaiknpfaaClo
namespace Go.Proofs.Ytakappaaiknpfaa
open Go.RowKit
set_option linter.unusedVariables false

namespace M
/-- One level: the slot's number, and how many bits are left then; none: it leads to none. -/
def lvl (S : St) (p : Nat) (c : C) (l : Nat) : Option (Nat × Nat) :=
  if rad S c.o = 0 then none
  else if c.n < 0 ∨ (l : Int) < c.n then none
  else if ((getN p (l - c.n.toNat) c.n.toNat : Nat) : Int) = c.g then
    (if ((l - c.n.toNat : Nat) : Int) < rad S c.o then none
     else some (getN p (l - c.n.toNat - (rad S c.o).toNat) (rad S c.o).toNat, l - c.n.toNat - (rad S c.o).toNat))
  else none
end M

theorem newLeft (w : World) (p d : Nat) : ∃ W, (w.alloc (.cells #[.int .u64 p] 24)).alloc (.cells #[.int .i64 d] 3) = W ∧ Left W (w.heap.size + 1) w.heap.size d p ∧ w.grownBy W none := by
  exact ⟨_, rfl, ⟨by simp, by simp, by simp, by omega⟩, gbTrans (gbAlloc _ _ _) (gbAlloc _ _ _)⟩

set_option maxHeartbeats 400000 in
theorem bitsOf_is (w : World) (p d : Nat) :
    Calls Try.prog 25 #[.int .u64 p, .int .i64 d] w fun e w' => e = .returned (clo (w.heap.size + 1) w.heap.size) ∧ Left w' (w.heap.size + 1) w.heap.size d p ∧ w.grownBy w' none := by
  have hmf : ∀ (fn : Fn) (first cap : Array Value) (w : World), (Instr.makeFunc fn first cap).run Try.prog w = .ok (.func fn first cap) w := fun _ _ _ _ => rfl
  go_enter Try.func25, Try.ntmps25
  go_wp2
  obtain ⟨W, hW, X, g⟩ := newLeft w p d
  rw [hW]
  go_ret
  exact ⟨rfl, X, g⟩

/-- What was written last is a block that was not there. -/
theorem gbPast {a b c : World} {x y : Nat} (h : a.grownBy b (some x)) (k : b.grownBy c (some y)) (hy : a.heap.size ≤ y) : a.grownBy c (some x) :=
  ⟨k.os.trans h.os, k.tape.trans h.tape, k.output.trans h.output, Nat.le_trans h.size k.size, fun i hi hr => (k.block i (Nat.lt_of_lt_of_le hi h.size) (fun e => by simp at e; omega)).trans (h.block i hi hr)⟩
/-- A capability and an empty slot's name, laid. -/
theorem capSlot (w : World) (c : C) : ∃ W, (w.alloc (.cells #[.int .i64 c.k, .int .i64 c.o, .int .i64 c.r, .int .u64 c.b, .int .u64 c.g, .int .i64 c.n] 26)).alloc (.cells #[.int .i64 0, .int .i64 0] 32) = W ∧
    Box W w.heap.size c ∧ SBox W (w.heap.size + 1) 0 0 ∧ (∀ i, W.frozen? ⟨w.heap.size + 1, i, none⟩ = false) ∧ w.grownBy W none :=
  ⟨_, rfl, (Box.made w c).kept (gbAlloc _ _ _), (by simpa using SBox.made (w.alloc (.cells #[.int .i64 c.k, .int .i64 c.o, .int .i64 c.r, .int .u64 c.b, .int .u64 c.g, .int .i64 c.n] 26)) 0 0), fun i => by simp, gbTrans (gbAlloc _ _ _) (gbAlloc _ _ _)⟩
theorem SBox.keep {w w' : World} {x y : Nat} {n i : Int} (h : SBox w x n i) (g : w.grownBy w' (some y)) (hr : x ≠ y) : SBox w' x n i := ⟨g.cell h.at0 (by simpa using hr), g.cell h.at1 (by simpa using hr), Nat.lt_of_lt_of_le h.lt g.size⟩
theorem SBox.put {w : World} {x : Nat} {n i : Int} (h : SBox w x n i) (n' i' : Int) :
    ∃ W, (w.setCell ⟨x, 0, none⟩ (.int .i64 n')).setCell ⟨x, 1, none⟩ (.int .i64 i') = W ∧ SBox W x n' i' ∧ w.grownBy W (some x) := by
  obtain ⟨a0, a1, lt⟩ := h
  refine ⟨_, rfl, ⟨?_, ?_, ?_⟩, ?_⟩
  · exact (World.cell?_setCell_other _ _ _ _ (by simp)).trans (World.cell?_setCell_same _ _ _ a0)
  · exact World.cell?_setCell_same _ _ _ ((World.cell?_setCell_other _ _ _ _ (by simp)).trans a1)
  · simpa [World.setCell] using lt
  · exact gbTrans (gbSetCell _ _ _ _) (gbSetCell _ _ _ _)

set_option maxHeartbeats 1000000 in
theorem level_rad (w : World) (s L P : Nat) (k o r b g n : Int) (HR : ∀ W, w.grownBy W none → Calls Try.prog 38 #[.pointer (some ⟨s, 0, none⟩), .int .i64 o] W fun e w' => e = .returned (.int .i64 0) ∧ W.grownBy w' none) :
    Calls Try.prog 26 #[.pointer (some ⟨s, 0, none⟩), cv ⟨k, o, r, b, g, n⟩, clo L P] w fun e w' => e = .returned (.tuple #[sv 0 0, .int .i64 0, .bool false]) ∧ w.grownBy w' (some L) := by
  go_enter Try.func26, Try.ntmps26
  go_upto_region 1 with fail
  obtain ⟨W, hW, X, Y, hY, g0⟩ := capSlot w ⟨k, o, r, b, g, n⟩
  simp only at hW
  rw [hW]
  clear hW
  have HY := hideIt hY
  clear hY
  obtain ⟨x0, x1, x2, x3, x4, x5, xl, _⟩ := id X
  simp only at x0 x1 x2 x3 x4 x5
  have hyl : w.heap.size + 1 < W.heap.size := Y.lt
  go_wp2_with fail
  refine (HR _ g0).mono ?_
  rintro _ w1 ⟨rfl, g1⟩
  clear x0 x1 x2 x3 x4 x5
  have Y1 := Y.kept g1
  obtain ⟨y0, y1, _⟩ := id Y1
  have f0 := (gbFrozen (g1) hyl (by simp)).trans (HY.out 0)
  have f1 := (gbFrozen (g1) hyl (by simp)).trans (HY.out 1)
  go_wp2
  obtain ⟨W2, hW2, Y2, g2⟩ := Y1.put 0 0
  rw [hW2]
  clear hW2 y0 y1 f0 f1
  obtain ⟨y0, y1, _⟩ := Y2
  exact bodyPost_ret (v := .tuple #[sv 0 0, .int .i64 0, .bool false]) (by simp [results, Try.results26, go_sem, y0, y1]) rfl ⟨rfl, gbAny (gbNew (gbTrans (gbAny (gbTrans g0 g1) _) g2) (Nat.le_succ _)) _⟩

set_option maxHeartbeats 1000000 in
theorem level_few (w : World) (s L P : Nat) (k o r b g n : Int) (l p q : Nat) (HL : Hid (Left w L P l p)) (hq : ((q : Int) == 0) = false) (hn : Hid (n < 0 ∨ (l : Int) < n)) (HR : ∀ W, w.grownBy W none → Calls Try.prog 38 #[.pointer (some ⟨s, 0, none⟩), .int .i64 o] W fun e w' => e = .returned (.int .i64 q) ∧ W.grownBy w' none) :
    Calls Try.prog 26 #[.pointer (some ⟨s, 0, none⟩), cv ⟨k, o, r, b, g, n⟩, clo L P] w fun e w' => e = .returned (.tuple #[sv 0 0, .int .i64 0, .bool false]) ∧ w.grownBy w' (some L) := by
  go_enter Try.func26, Try.ntmps26
  go_upto_region 1 with fail
  obtain ⟨W, hW, X, Y, hY, g0⟩ := capSlot w ⟨k, o, r, b, g, n⟩
  simp only at hW
  rw [hW]
  clear hW
  have HY := hideIt hY
  clear hY
  obtain ⟨x0, x1, x2, x3, x4, x5, xl, _⟩ := id X
  simp only at x0 x1 x2 x3 x4 x5
  have hyl : w.heap.size + 1 < W.heap.size := Y.lt
  go_wp2_with fail
  refine (HR _ g0).mono ?_
  rintro _ w1 ⟨rfl, g1⟩
  clear x0 x1 x2 x3 x4 x5
  have HL1 := hideIt (HL.out.kept (gbTrans g0 g1))
  obtain ⟨x0, x1, x2, x3, x4, x5, _, _⟩ := X.kept g1
  simp only at x0 x1 x2 x3 x4 x5
  go_wp2_with fail
  refine (clo_no _ L P n l HL1.out.cl hn.out).mono ?_
  rintro _ _ ⟨rfl, rfl⟩
  clear x0 x1 x2 x3 x4 x5
  have Y1 := Y.kept g1
  obtain ⟨y0, y1, _⟩ := id Y1
  have f0 := (gbFrozen (g1) hyl (by simp)).trans (HY.out 0)
  have f1 := (gbFrozen (g1) hyl (by simp)).trans (HY.out 1)
  go_wp2
  obtain ⟨W2, hW2, Y2, g2⟩ := Y1.put 0 0
  rw [hW2]
  clear hW2 y0 y1 f0 f1
  obtain ⟨y0, y1, _⟩ := Y2
  exact bodyPost_ret (v := .tuple #[sv 0 0, .int .i64 0, .bool false]) (by simp [results, Try.results26, go_sem, y0, y1]) rfl ⟨rfl, gbAny (gbNew (gbTrans (gbAny (gbTrans g0 g1) _) g2) (Nat.le_succ _)) _⟩

set_option maxHeartbeats 1000000 in
theorem level_wrong (w : World) (s L P : Nat) (k o r b g : Int) (N m l p q : Nat) (HL : Hid (Left w L P l p)) (hq : ((q : Int) == 0) = false) (hl : Hid (l ≤ 16)) (hm : Hid (N + m = l)) (hp : Hid (p < 18446744073709551616)) (hg : (((M.getN p m N : Nat) : Int) != g) = true) (HR : ∀ W, w.grownBy W none → Calls Try.prog 38 #[.pointer (some ⟨s, 0, none⟩), .int .i64 o] W fun e w' => e = .returned (.int .i64 q) ∧ W.grownBy w' none) :
    Calls Try.prog 26 #[.pointer (some ⟨s, 0, none⟩), cv ⟨k, o, r, b, g, N⟩, clo L P] w fun e w' => e = .returned (.tuple #[sv 0 0, .int .i64 0, .bool false]) ∧ w.grownBy w' (some L) := by
  have hLw := World.block_lt_of_cell? w _ HL.out.cl
  simp only at hLw
  go_enter Try.func26, Try.ntmps26
  go_upto_region 1 with fail
  obtain ⟨W, hW, X, Y, hY, g0⟩ := capSlot w ⟨k, o, r, b, g, N⟩
  simp only at hW
  rw [hW]
  clear hW
  have HY := hideIt hY
  clear hY
  obtain ⟨x0, x1, x2, x3, x4, x5, xl, _⟩ := id X
  simp only at x0 x1 x2 x3 x4 x5
  have hyl : w.heap.size + 1 < W.heap.size := Y.lt
  go_wp2_with fail
  refine (HR _ g0).mono ?_
  rintro _ w1 ⟨rfl, g1⟩
  clear x0 x1 x2 x3 x4 x5
  have HL1 := hideIt (HL.out.kept (gbTrans g0 g1))
  obtain ⟨x0, x1, x2, x3, x4, x5, _, _⟩ := X.kept g1
  simp only at x0 x1 x2 x3 x4 x5
  go_wp2_with fail
  refine (clo_yes _ L P N l m p HL1.out hl.out hm.out hp.out).mono ?_
  rintro _ w2 ⟨rfl, hc, g2⟩
  have HL2 := hideIt hc
  clear x0 x1 x2 x3 x4 x5 hc
  obtain ⟨x0, x1, x2, x3, x4, x5, _, _⟩ := (X.kept g1).keep g2 (by simp; omega)
  simp only at x0 x1 x2 x3 x4 x5
  have Y1 := (Y.kept g1).keep g2 (by omega)
  obtain ⟨y0, y1, _⟩ := id Y1
  have f0 := (gbFrozen (gbTrans (gbAny g1 _) g2) hyl (by simp; omega)).trans (HY.out 0)
  have f1 := (gbFrozen (gbTrans (gbAny g1 _) g2) hyl (by simp; omega)).trans (HY.out 1)
  go_wp2
  obtain ⟨W2, hW2, Y2, g3⟩ := Y1.put 0 0
  rw [hW2]
  clear hW2 y0 y1 f0 f1
  obtain ⟨y0, y1, _⟩ := Y2
  exact bodyPost_ret (v := .tuple #[sv 0 0, .int .i64 0, .bool false]) (by simp [results, Try.results26, go_sem, y0, y1]) rfl ⟨rfl, gbPast (gbTrans (gbAny (gbTrans g0 g1) _) g2) g3 (Nat.le_succ _)⟩

set_option maxHeartbeats 1000000 in
theorem level_less (w : World) (s L P : Nat) (k o r b g : Int) (N m l p q : Nat) (HL : Hid (Left w L P l p)) (hq : ((q : Int) == 0) = false) (hl : Hid (l ≤ 16)) (hm : Hid (N + m = l)) (hp : Hid (p < 18446744073709551616)) (hg : (((M.getN p m N : Nat) : Int) != g) = false) (hr : Hid ((m : Int) < (q : Int))) (HR : ∀ W, w.grownBy W none → Calls Try.prog 38 #[.pointer (some ⟨s, 0, none⟩), .int .i64 o] W fun e w' => e = .returned (.int .i64 q) ∧ W.grownBy w' none) :
    Calls Try.prog 26 #[.pointer (some ⟨s, 0, none⟩), cv ⟨k, o, r, b, g, N⟩, clo L P] w fun e w' => e = .returned (.tuple #[sv 0 0, .int .i64 0, .bool false]) ∧ w.grownBy w' (some L) := by
  have hLw := World.block_lt_of_cell? w _ HL.out.cl
  simp only at hLw
  go_enter Try.func26, Try.ntmps26
  go_upto_region 1 with fail
  obtain ⟨W, hW, X, Y, hY, g0⟩ := capSlot w ⟨k, o, r, b, g, N⟩
  simp only at hW
  rw [hW]
  clear hW
  have HY := hideIt hY
  clear hY
  obtain ⟨x0, x1, x2, x3, x4, x5, xl, _⟩ := id X
  simp only at x0 x1 x2 x3 x4 x5
  have hyl : w.heap.size + 1 < W.heap.size := Y.lt
  go_wp2_with fail
  refine (HR _ g0).mono ?_
  rintro _ w1 ⟨rfl, g1⟩
  clear x0 x1 x2 x3 x4 x5
  have HL1 := hideIt (HL.out.kept (gbTrans g0 g1))
  obtain ⟨x0, x1, x2, x3, x4, x5, _, _⟩ := X.kept g1
  simp only at x0 x1 x2 x3 x4 x5
  go_wp2_with fail
  refine (clo_yes _ L P N l m p HL1.out hl.out hm.out hp.out).mono ?_
  rintro _ w2 ⟨rfl, hc, g2⟩
  have HL2 := hideIt hc
  clear x0 x1 x2 x3 x4 x5 hc
  obtain ⟨x0, x1, x2, x3, x4, x5, _, _⟩ := (X.kept g1).keep g2 (by simp; omega)
  simp only at x0 x1 x2 x3 x4 x5
  go_wp2_with fail
  refine (clo_no _ L P q m HL2.out.cl (.inr hr.out)).mono ?_
  rintro _ _ ⟨rfl, rfl⟩
  clear x0 x1 x2 x3 x4 x5
  have Y1 := (Y.kept g1).keep g2 (by omega)
  obtain ⟨y0, y1, _⟩ := id Y1
  have f0 := (gbFrozen (gbTrans (gbAny g1 _) g2) hyl (by simp; omega)).trans (HY.out 0)
  have f1 := (gbFrozen (gbTrans (gbAny g1 _) g2) hyl (by simp; omega)).trans (HY.out 1)
  go_wp2
  obtain ⟨W2, hW2, Y2, g3⟩ := Y1.put 0 0
  rw [hW2]
  clear hW2 y0 y1 f0 f1
  obtain ⟨y0, y1, _⟩ := Y2
  exact bodyPost_ret (v := .tuple #[sv 0 0, .int .i64 0, .bool false]) (by simp [results, Try.results26, go_sem, y0, y1]) rfl ⟨rfl, gbPast (gbTrans (gbAny (gbTrans g0 g1) _) g2) g3 (Nat.le_succ _)⟩

set_option maxHeartbeats 1000000 in
theorem level_yes (w : World) (s L P : Nat) (k o r b g : Int) (N m l p q : Nat) (HL : Hid (Left w L P l p)) (hq : ((q : Int) == 0) = false) (hl : Hid (l ≤ 16)) (hm : Hid (N + m = l)) (hp : Hid (p < 18446744073709551616)) (hg : (((M.getN p m N : Nat) : Int) != g) = false) (t : Nat) (hr : Hid (q + t = m)) (hw : wrap64 ((M.getN p t q : Nat) : Int) = ((M.getN p t q : Nat) : Int)) (HR : ∀ W, w.grownBy W none → Calls Try.prog 38 #[.pointer (some ⟨s, 0, none⟩), .int .i64 o] W fun e w' => e = .returned (.int .i64 q) ∧ W.grownBy w' none) :
    Calls Try.prog 26 #[.pointer (some ⟨s, 0, none⟩), cv ⟨k, o, r, b, g, N⟩, clo L P] w fun e w' => e = .returned (.tuple #[sv o (M.getN p t q : Nat), .int .i64 t, .bool true]) ∧ Left w' L P t p ∧ w.grownBy w' (some L) := by
  have hLw := World.block_lt_of_cell? w _ HL.out.cl
  simp only at hLw
  go_enter Try.func26, Try.ntmps26
  go_upto_region 1 with fail
  obtain ⟨W, hW, X, Y, hY, g0⟩ := capSlot w ⟨k, o, r, b, g, N⟩
  simp only at hW
  rw [hW]
  clear hW
  have HY := hideIt hY
  clear hY
  obtain ⟨x0, x1, x2, x3, x4, x5, xl, _⟩ := id X
  simp only at x0 x1 x2 x3 x4 x5
  have hyl : w.heap.size + 1 < W.heap.size := Y.lt
  go_wp2_with fail
  refine (HR _ g0).mono ?_
  rintro _ w1 ⟨rfl, g1⟩
  clear x0 x1 x2 x3 x4 x5
  have hPw := World.block_lt_of_cell? w _ HL.out.cp
  simp only at hPw
  have HL1 := hideIt (HL.out.kept (gbTrans g0 g1))
  obtain ⟨x0, x1, x2, x3, x4, x5, _, _⟩ := X.kept g1
  simp only at x0 x1 x2 x3 x4 x5
  go_wp2_with fail
  refine (clo_yes _ L P N l m p HL1.out hl.out hm.out hp.out).mono ?_
  rintro _ w2 ⟨rfl, hc, g2⟩
  have HL2 := hideIt hc
  clear x0 x1 x2 x3 x4 x5 hc
  obtain ⟨x0, x1, x2, x3, x4, x5, _, _⟩ := (X.kept g1).keep g2 (by simp; omega)
  simp only at x0 x1 x2 x3 x4 x5
  go_wp2_with fail
  refine (clo_yes _ L P q m t p HL2.out (Nat.le_trans (Nat.le_of_lt_succ (Nat.lt_succ_of_le (by have := hm.out; omega))) hl.out) hr.out hp.out).mono ?_
  rintro _ w3 ⟨rfl, hc, g3⟩
  have HL3 := hideIt hc
  clear x0 x1 x2 x3 x4 x5 hc
  obtain ⟨x0, x1, x2, x3, x4, x5, _, _⟩ := (X.kept g1).keep (gbTrans g2 g3) (by simp; omega)
  simp only at x0 x1 x2 x3 x4 x5
  have Y1 := (Y.kept g1).keep (gbTrans g2 g3) (by omega)
  obtain ⟨y0, y1, _⟩ := id Y1
  have f0 := (gbFrozen (gbTrans (gbAny g1 _) (gbTrans g2 g3)) hyl (by simp; omega)).trans (HY.out 0)
  have f1 := (gbFrozen (gbTrans (gbAny g1 _) (gbTrans g2 g3)) hyl (by simp; omega)).trans (HY.out 1)
  go_wp2
  obtain ⟨W2, hW2, Y2, g4⟩ := Y1.put o (M.getN p t q : Nat)
  rw [hW2]
  clear hW2 y0 y1 f0 f1
  obtain ⟨y0, y1, _⟩ := Y2
  exact bodyPost_ret (v := .tuple #[sv o (M.getN p t q : Nat), .int .i64 t, .bool true]) (by simp [results, Try.results26, go_sem, y0, y1]) rfl ⟨rfl, HL3.out.keep g4 (by omega) (by omega), gbPast (gbTrans (gbAny (gbTrans g0 g1) _) (gbTrans g2 g3)) g4 (Nat.le_succ _)⟩


theorem M.rad_nat (S : St) (id : Int) : ∃ q : Nat, M.rad S id = (q : Int) := by
  unfold M.rad
  cases S id with
  | none => exact ⟨0, rfl⟩
  | some d => exact ⟨d.r, rfl⟩

theorem level_no {w : World} {s m : Nat} {O : Nat → Prop} {S : St} (h : SAt w s m O S) (k o r b g n : Int) (L P l p : Nat) (ho : I64 o) (HL : Left w L P l p) (hl : l ≤ 16) (hp : p < 18446744073709551616) (hv : M.lvl S p ⟨k, o, r, b, g, n⟩ l = none) :
    Calls Try.prog 26 #[.pointer (some ⟨s, 0, none⟩), cv ⟨k, o, r, b, g, n⟩, clo L P] w fun e w' => e = .returned (.tuple #[sv 0 0, .int .i64 0, .bool false]) ∧ w.grownBy w' (some L) := by
  have HR := fun W (gw : w.grownBy W none) => radix_is (h.kept gw) o _ ho rfl
  obtain ⟨q, hq⟩ := M.rad_nat S o
  rw [hq] at HR
  unfold M.lvl at hv
  simp only at hv
  rw [hq] at hv
  by_cases h0 : (q : Int) = 0
  · rw [h0] at HR
    exact level_rad w s L P k o r b g n HR
  · rw [if_neg h0] at hv
    have hq0 : ((q : Int) == 0) = false := by simpa using h0
    by_cases h1 : n < 0 ∨ (l : Int) < n
    · exact level_few w s L P k o r b g n l p q HL hq0 h1 HR
    · rw [if_neg h1] at hv
      obtain ⟨N, rfl⟩ : ∃ N : Nat, n = (N : Int) := ⟨n.toNat, by omega⟩
      simp only [Int.toNat_natCast] at hv
      by_cases h2 : ((M.getN p (l - N) N : Nat) : Int) = g
      · rw [if_pos h2] at hv
        by_cases h3 : ((l - N : Nat) : Int) < (q : Int)
        · exact level_less w s L P k o r b g N (l - N) l p q HL hq0 hl (hideIt (by omega)) hp (by simpa using h2) h3 HR
        · rw [if_neg h3] at hv
          cases hv
      · exact level_wrong w s L P k o r b g N (l - N) l p q HL hq0 hl (hideIt (by omega)) hp (by simpa using h2) HR

theorem M.getN_wrap (p t q : Nat) (hq : q ≤ 16) : wrap64 ((M.getN p t q : Nat) : Int) = ((M.getN p t q : Nat) : Int) := by
  have h1 := M.getN_lt p t q
  have h2 : 2 ^ q ≤ 2 ^ 16 := Nat.pow_le_pow_right (by omega) hq
  unfold wrap64
  omega

theorem level_ok {w : World} {s m : Nat} {O : Nat → Prop} {S : St} (h : SAt w s m O S) (k o r b g n : Int) (L P l p a t : Nat) (ho : I64 o) (HL : Left w L P l p) (hl : l ≤ 16) (hp : p < 18446744073709551616) (hv : M.lvl S p ⟨k, o, r, b, g, n⟩ l = some (a, t)) :
    Calls Try.prog 26 #[.pointer (some ⟨s, 0, none⟩), cv ⟨k, o, r, b, g, n⟩, clo L P] w fun e w' => e = .returned (.tuple #[sv o (a : Nat), .int .i64 t, .bool true]) ∧ Left w' L P t p ∧ w.grownBy w' (some L) := by
  have HR := fun W (gw : w.grownBy W none) => radix_is (h.kept gw) o _ ho rfl
  obtain ⟨q, hq⟩ := M.rad_nat S o
  rw [hq] at HR
  unfold M.lvl at hv
  simp only at hv
  rw [hq] at hv
  by_cases h0 : (q : Int) = 0
  · rw [if_pos h0] at hv
    cases hv
  · rw [if_neg h0] at hv
    have hq0 : ((q : Int) == 0) = false := by simpa using h0
    by_cases h1 : n < 0 ∨ (l : Int) < n
    · rw [if_pos h1] at hv
      cases hv
    · rw [if_neg h1] at hv
      obtain ⟨N, rfl⟩ : ∃ N : Nat, n = (N : Int) := ⟨n.toNat, by omega⟩
      simp only [Int.toNat_natCast] at hv
      by_cases h2 : ((M.getN p (l - N) N : Nat) : Int) = g
      · rw [if_pos h2] at hv
        by_cases h3 : ((l - N : Nat) : Int) < (q : Int)
        · rw [if_pos h3] at hv
          cases hv
        · rw [if_neg h3] at hv
          simp only [Option.some.injEq, Prod.mk.injEq] at hv
          obtain ⟨rfl, rfl⟩ := hv
          exact level_yes w s L P k o r b g N (l - N) l p q HL hq0 hl (hideIt (by omega)) hp (by simpa using h2) (l - N - q) (hideIt (by omega)) (M.getN_wrap _ _ _ (by omega)) HR
      · rw [if_neg h2] at hv
        cases hv
end Go.Proofs.Ytakappaaiknpfaa
