/-
  THE CONTRACTS of package guard: bitsOf, level (one node's part of an address).
-/
import Derived.Test.YtdnoidnpiaadaaaGreatG19
import Derived.Deep.LoopGhost
import Derived.Deep.Cut
import Derived.Deep.DeepCutAuto
namespace Go.Proofs.YtdnoidnpiaadaaaGreat
set_option maxRecDepth 10000
open Go.RowKit
set_option linter.unusedVariables false

namespace M
/-- One level: the slot's number, and how many bits are left then; none: it leads to none. -/
def lvl (S : St) (p : Nat) (c : C) (l : Nat) : Option (Nat × Nat) :=
  if rad S c.o = 0 then none
  else if c.n < 0 ∨ (l : Int) < c.n then none
  else if ((getN p (l - c.n.toNat) c.n.toNat : Nat) : Int) = c.g then
    (if ((l - c.n.toNat : Nat) : Int) < rad S c.o then none
     else some (getN p (l - c.n.toNat - (rad S c.o).toNat) (rad S c.o).toNat, l - c.n.toNat - (rad S c.o).toNat))
  else none
end M

theorem newLeft (w : World) (p d : Nat) : ∃ W, (w.alloc (.cells #[.int .u64 p] 23)).alloc (.cells #[.int .i64 d] 3) = W ∧ Left W (w.heap.size + 1) w.heap.size d p ∧ w.grownBy W none := by
  exact ⟨_, rfl, ⟨by simp, by simp, by simp, by omega⟩, gbTrans (gbAlloc _ _ _) (gbAlloc _ _ _)⟩

set_option maxHeartbeats 400000 in
theorem bitsOf_is (w : World) (p d : Nat) :
    Calls Tryz.prog 126 #[.int .u64 p, .int .i64 d] w fun e w' => e = .returned (clo (w.heap.size + 1) w.heap.size) ∧ Left w' (w.heap.size + 1) w.heap.size d p ∧ w.grownBy w' none := by
  have hmf : ∀ (fn : Fn) (first cap : Array Value) (w : World), (Instr.makeFunc fn first cap).run Tryz.prog w = .ok (.func fn first cap) w := fun _ _ _ _ => rfl
  go_enter Tryz.func126, Tryz.ntmps126
  go_wp2
  obtain ⟨W, hW, X, g⟩ := newLeft w p d
  rw [hW]
  go_ret
  exact ⟨rfl, X, g⟩

/-- What was written last is a block that was not there. -/
theorem gbPast {a b c : World} {x y : Nat} (h : a.grownBy b (some x)) (k : b.grownBy c (some y)) (hy : a.heap.size ≤ y) : a.grownBy c (some x) :=
  ⟨k.os.trans h.os, k.tape.trans h.tape, k.output.trans h.output, Nat.le_trans h.size k.size, fun i hi hr => (k.block i (Nat.lt_of_lt_of_le hi h.size) (fun e => by simp at e; omega)).trans (h.block i hi hr)⟩
/-- A capability and an empty slot's name, laid. -/
theorem capSlot (w : World) (c : C) : ∃ W, (w.alloc (.cells #[.int .i64 c.k, .int .i64 c.o, .int .i64 c.r, .int .u64 c.b, .int .u64 c.g, .int .i64 c.n] 25)).alloc (.cells #[.int .i64 0, .int .i64 0] 31) = W ∧
    Box W w.heap.size c ∧ SBox W (w.heap.size + 1) 0 0 ∧ (∀ i, W.frozen? ⟨w.heap.size + 1, i, none⟩ = false) ∧ w.grownBy W none :=
  ⟨_, rfl, (Box.made w c).kept (gbAlloc _ _ _), (by simpa using SBox.made (w.alloc (.cells #[.int .i64 c.k, .int .i64 c.o, .int .i64 c.r, .int .u64 c.b, .int .u64 c.g, .int .i64 c.n] 25)) 0 0), fun i => by simp, gbTrans (gbAlloc _ _ _) (gbAlloc _ _ _)⟩
theorem SBox.put {w : World} {x : Nat} {n i : Int} (h : SBox w x n i) (n' i' : Int) :
    ∃ W, (w.setCell ⟨x, 0, none⟩ (.int .i64 n')).setCell ⟨x, 1, none⟩ (.int .i64 i') = W ∧ SBox W x n' i' ∧ w.grownBy W (some x) := by
  obtain ⟨a0, a1, lt⟩ := h
  refine ⟨_, rfl, ⟨?_, ?_, ?_⟩, ?_⟩
  · exact (World.cell?_setCell_other _ _ _ _ (by simp)).trans (World.cell?_setCell_same _ _ _ a0)
  · exact World.cell?_setCell_same _ _ _ ((World.cell?_setCell_other _ _ _ _ (by simp)).trans a1)
  · simpa [World.setCell] using lt
  · exact gbTrans (gbSetCell _ _ _ _) (gbSetCell _ _ _ _)

set_option maxHeartbeats 1000000 in
theorem level_rad (w : World) (s L P : Nat) (k o r b g n : Int) (HR : ∀ W, w.grownBy W none → Calls Tryz.prog 9 #[.pointer (some ⟨s, 0, none⟩), .int .i64 o] W fun e w' => e = .returned (.int .i64 0) ∧ W.grownBy w' none) :
    Calls Tryz.prog 127 #[.pointer (some ⟨s, 0, none⟩), cv ⟨k, o, r, b, g, n⟩, clo L P] w fun e w' => e = .returned (.tuple #[sv 0 0, .int .i64 0, .bool false]) ∧ w.grownBy w' (some L) := by
  go_enter Tryz.func127, Tryz.ntmps127
  go_upto_region 1 with fail
  obtain ⟨W, hW, X, Y, hY, g0⟩ := capSlot w ⟨k, o, r, b, g, n⟩
  simp only at hW
  rw [hW]
  clear hW
  have HY := hideIt hY
  clear hY
  obtain ⟨x0, x1, x2, x3, x4, x5, xl, _⟩ := id X
  simp only at x0 x1 x2 x3 x4 x5
  have hyl : w.heap.size + 1 < W.heap.size := Y.lt
  go_wp2_with fail
  refine (HR _ g0).mono ?_
  rintro _ w1 ⟨rfl, g1⟩
  clear x0 x1 x2 x3 x4 x5
  have Y1 := Y.kept g1
  obtain ⟨y0, y1, _⟩ := id Y1
  have f0 := (gbFrozen (g1) hyl (by simp)).trans (HY.out 0)
  have f1 := (gbFrozen (g1) hyl (by simp)).trans (HY.out 1)
  go_wp2
  obtain ⟨W2, hW2, Y2, g2⟩ := Y1.put 0 0
  rw [hW2]
  clear hW2 y0 y1 f0 f1
  obtain ⟨y0, y1, _⟩ := Y2
  exact bodyPost_ret (v := .tuple #[sv 0 0, .int .i64 0, .bool false]) (by simp [results, Tryz.results127, go_sem, y0, y1]) rfl ⟨rfl, gbAny (gbNew (gbTrans (gbAny (gbTrans g0 g1) _) g2) (Nat.le_succ _)) _⟩

set_option maxHeartbeats 1000000 in
theorem level_few (w : World) (s L P : Nat) (k o r b g n : Int) (l p q : Nat) (HL : Hid (Left w L P l p)) (hq : ((q : Int) == 0) = false) (hn : Hid (n < 0 ∨ (l : Int) < n)) (HR : ∀ W, w.grownBy W none → Calls Tryz.prog 9 #[.pointer (some ⟨s, 0, none⟩), .int .i64 o] W fun e w' => e = .returned (.int .i64 q) ∧ W.grownBy w' none) :
    Calls Tryz.prog 127 #[.pointer (some ⟨s, 0, none⟩), cv ⟨k, o, r, b, g, n⟩, clo L P] w fun e w' => e = .returned (.tuple #[sv 0 0, .int .i64 0, .bool false]) ∧ w.grownBy w' (some L) := by
  go_enter Tryz.func127, Tryz.ntmps127
  go_upto_region 1 with fail
  obtain ⟨W, hW, X, Y, hY, g0⟩ := capSlot w ⟨k, o, r, b, g, n⟩
  simp only at hW
  rw [hW]
  clear hW
  have HY := hideIt hY
  clear hY
  obtain ⟨x0, x1, x2, x3, x4, x5, xl, _⟩ := id X
  simp only at x0 x1 x2 x3 x4 x5
  have hyl : w.heap.size + 1 < W.heap.size := Y.lt
  go_wp2_with fail
  refine (HR _ g0).mono ?_
  rintro _ w1 ⟨rfl, g1⟩
  clear x0 x1 x2 x3 x4 x5
  have HL1 := hideIt (HL.out.kept (gbTrans g0 g1))
  obtain ⟨x0, x1, x2, x3, x4, x5, _, _⟩ := X.kept g1
  simp only at x0 x1 x2 x3 x4 x5
  go_wp2_with fail
  refine (clo_no _ L P n l HL1.out.cl hn.out).mono ?_
  rintro _ _ ⟨rfl, rfl⟩
  clear x0 x1 x2 x3 x4 x5
  have Y1 := Y.kept g1
  obtain ⟨y0, y1, _⟩ := id Y1
  have f0 := (gbFrozen (g1) hyl (by simp)).trans (HY.out 0)
  have f1 := (gbFrozen (g1) hyl (by simp)).trans (HY.out 1)
  go_wp2
  obtain ⟨W2, hW2, Y2, g2⟩ := Y1.put 0 0
  rw [hW2]
  clear hW2 y0 y1 f0 f1
  obtain ⟨y0, y1, _⟩ := Y2
  exact bodyPost_ret (v := .tuple #[sv 0 0, .int .i64 0, .bool false]) (by simp [results, Tryz.results127, go_sem, y0, y1]) rfl ⟨rfl, gbAny (gbNew (gbTrans (gbAny (gbTrans g0 g1) _) g2) (Nat.le_succ _)) _⟩

set_option maxHeartbeats 1000000 in
theorem level_wrong (w : World) (s L P : Nat) (k o r b g : Int) (N m l p q : Nat) (HL : Hid (Left w L P l p)) (hq : ((q : Int) == 0) = false) (hl : Hid (l ≤ 16)) (hm : Hid (N + m = l)) (hp : Hid (p < 18446744073709551616)) (hg : (((M.getN p m N : Nat) : Int) != g) = true) (HR : ∀ W, w.grownBy W none → Calls Tryz.prog 9 #[.pointer (some ⟨s, 0, none⟩), .int .i64 o] W fun e w' => e = .returned (.int .i64 q) ∧ W.grownBy w' none) :
    Calls Tryz.prog 127 #[.pointer (some ⟨s, 0, none⟩), cv ⟨k, o, r, b, g, N⟩, clo L P] w fun e w' => e = .returned (.tuple #[sv 0 0, .int .i64 0, .bool false]) ∧ w.grownBy w' (some L) := by
  have hLw := World.block_lt_of_cell? w _ HL.out.cl
  simp only at hLw
  go_enter Tryz.func127, Tryz.ntmps127
  go_upto_region 1 with fail
  obtain ⟨W, hW, X, Y, hY, g0⟩ := capSlot w ⟨k, o, r, b, g, N⟩
  simp only at hW
  rw [hW]
  clear hW
  have HY := hideIt hY
  clear hY
  obtain ⟨x0, x1, x2, x3, x4, x5, xl, _⟩ := id X
  simp only at x0 x1 x2 x3 x4 x5
  have hyl : w.heap.size + 1 < W.heap.size := Y.lt
  go_wp2_with fail
  refine (HR _ g0).mono ?_
  rintro _ w1 ⟨rfl, g1⟩
  clear x0 x1 x2 x3 x4 x5
  have HL1 := hideIt (HL.out.kept (gbTrans g0 g1))
  obtain ⟨x0, x1, x2, x3, x4, x5, _, _⟩ := X.kept g1
  simp only at x0 x1 x2 x3 x4 x5
  go_wp2_with fail
  refine (clo_yes _ L P N l m p HL1.out hl.out hm.out hp.out).mono ?_
  rintro _ w2 ⟨rfl, hc, g2⟩
  have HL2 := hideIt hc
  clear x0 x1 x2 x3 x4 x5 hc
  obtain ⟨x0, x1, x2, x3, x4, x5, _, _⟩ := (X.kept g1).keep g2 (by simp; omega)
  simp only at x0 x1 x2 x3 x4 x5
  have Y1 := (Y.kept g1).keep g2 (by omega)
  obtain ⟨y0, y1, _⟩ := id Y1
  have f0 := (gbFrozen (gbTrans (gbAny g1 _) g2) hyl (by simp; omega)).trans (HY.out 0)
  have f1 := (gbFrozen (gbTrans (gbAny g1 _) g2) hyl (by simp; omega)).trans (HY.out 1)
  go_wp2
  obtain ⟨W2, hW2, Y2, g3⟩ := Y1.put 0 0
  rw [hW2]
  clear hW2 y0 y1 f0 f1
  obtain ⟨y0, y1, _⟩ := Y2
  exact bodyPost_ret (v := .tuple #[sv 0 0, .int .i64 0, .bool false]) (by simp [results, Tryz.results127, go_sem, y0, y1]) rfl ⟨rfl, gbPast (gbTrans (gbAny (gbTrans g0 g1) _) g2) g3 (Nat.le_succ _)⟩

set_option maxHeartbeats 1000000 in
theorem level_less (w : World) (s L P : Nat) (k o r b g : Int) (N m l p q : Nat) (HL : Hid (Left w L P l p)) (hq : ((q : Int) == 0) = false) (hl : Hid (l ≤ 16)) (hm : Hid (N + m = l)) (hp : Hid (p < 18446744073709551616)) (hg : (((M.getN p m N : Nat) : Int) != g) = false) (hr : Hid ((m : Int) < (q : Int))) (HR : ∀ W, w.grownBy W none → Calls Tryz.prog 9 #[.pointer (some ⟨s, 0, none⟩), .int .i64 o] W fun e w' => e = .returned (.int .i64 q) ∧ W.grownBy w' none) :
    Calls Tryz.prog 127 #[.pointer (some ⟨s, 0, none⟩), cv ⟨k, o, r, b, g, N⟩, clo L P] w fun e w' => e = .returned (.tuple #[sv 0 0, .int .i64 0, .bool false]) ∧ w.grownBy w' (some L) := by
  have hLw := World.block_lt_of_cell? w _ HL.out.cl
  simp only at hLw
  go_enter Tryz.func127, Tryz.ntmps127
  go_upto_region 1 with fail
  obtain ⟨W, hW, X, Y, hY, g0⟩ := capSlot w ⟨k, o, r, b, g, N⟩
  simp only at hW
  rw [hW]
  clear hW
  have HY := hideIt hY
  clear hY
  obtain ⟨x0, x1, x2, x3, x4, x5, xl, _⟩ := id X
  simp only at x0 x1 x2 x3 x4 x5
  have hyl : w.heap.size + 1 < W.heap.size := Y.lt
  go_wp2_with fail
  refine (HR _ g0).mono ?_
  rintro _ w1 ⟨rfl, g1⟩
  clear x0 x1 x2 x3 x4 x5
  have HL1 := hideIt (HL.out.kept (gbTrans g0 g1))
  obtain ⟨x0, x1, x2, x3, x4, x5, _, _⟩ := X.kept g1
  simp only at x0 x1 x2 x3 x4 x5
  go_wp2_with fail
  refine (clo_yes _ L P N l m p HL1.out hl.out hm.out hp.out).mono ?_
  rintro _ w2 ⟨rfl, hc, g2⟩
  have HL2 := hideIt hc
  clear x0 x1 x2 x3 x4 x5 hc
  obtain ⟨x0, x1, x2, x3, x4, x5, _, _⟩ := (X.kept g1).keep g2 (by simp; omega)
  simp only at x0 x1 x2 x3 x4 x5
  go_wp2_with fail
  refine (clo_no _ L P q m HL2.out.cl (.inr hr.out)).mono ?_
  rintro _ _ ⟨rfl, rfl⟩
  clear x0 x1 x2 x3 x4 x5
  have Y1 := (Y.kept g1).keep g2 (by omega)
  obtain ⟨y0, y1, _⟩ := id Y1
  have f0 := (gbFrozen (gbTrans (gbAny g1 _) g2) hyl (by simp; omega)).trans (HY.out 0)
  have f1 := (gbFrozen (gbTrans (gbAny g1 _) g2) hyl (by simp; omega)).trans (HY.out 1)
  go_wp2
  obtain ⟨W2, hW2, Y2, g3⟩ := Y1.put 0 0
  rw [hW2]
  clear hW2 y0 y1 f0 f1
  obtain ⟨y0, y1, _⟩ := Y2
  exact bodyPost_ret (v := .tuple #[sv 0 0, .int .i64 0, .bool false]) (by simp [results, Tryz.results127, go_sem, y0, y1]) rfl ⟨rfl, gbPast (gbTrans (gbAny (gbTrans g0 g1) _) g2) g3 (Nat.le_succ _)⟩

set_option maxHeartbeats 1000000 in
theorem level_yes (w : World) (s L P : Nat) (k o r b g : Int) (N m l p q : Nat) (HL : Hid (Left w L P l p)) (hq : ((q : Int) == 0) = false) (hl : Hid (l ≤ 16)) (hm : Hid (N + m = l)) (hp : Hid (p < 18446744073709551616)) (hg : (((M.getN p m N : Nat) : Int) != g) = false) (t : Nat) (hr : Hid (q + t = m)) (hw : wrap64 ((M.getN p t q : Nat) : Int) = ((M.getN p t q : Nat) : Int)) (HR : ∀ W, w.grownBy W none → Calls Tryz.prog 9 #[.pointer (some ⟨s, 0, none⟩), .int .i64 o] W fun e w' => e = .returned (.int .i64 q) ∧ W.grownBy w' none) :
    Calls Tryz.prog 127 #[.pointer (some ⟨s, 0, none⟩), cv ⟨k, o, r, b, g, N⟩, clo L P] w fun e w' => e = .returned (.tuple #[sv o (M.getN p t q : Nat), .int .i64 t, .bool true]) ∧ Left w' L P t p ∧ w.grownBy w' (some L) := by
  have hLw := World.block_lt_of_cell? w _ HL.out.cl
  simp only at hLw
  go_enter Tryz.func127, Tryz.ntmps127
  go_upto_region 1 with fail
  obtain ⟨W, hW, X, Y, hY, g0⟩ := capSlot w ⟨k, o, r, b, g, N⟩
  simp only at hW
  rw [hW]
  clear hW
  have HY := hideIt hY
  clear hY
  obtain ⟨x0, x1, x2, x3, x4, x5, xl, _⟩ := id X
  simp only at x0 x1 x2 x3 x4 x5
  have hyl : w.heap.size + 1 < W.heap.size := Y.lt
  go_wp2_with fail
  refine (HR _ g0).mono ?_
  rintro _ w1 ⟨rfl, g1⟩
  clear x0 x1 x2 x3 x4 x5
  have hPw := World.block_lt_of_cell? w _ HL.out.cp
  simp only at hPw
  have HL1 := hideIt (HL.out.kept (gbTrans g0 g1))
  obtain ⟨x0, x1, x2, x3, x4, x5, _, _⟩ := X.kept g1
  simp only at x0 x1 x2 x3 x4 x5
  go_wp2_with fail
  refine (clo_yes _ L P N l m p HL1.out hl.out hm.out hp.out).mono ?_
  rintro _ w2 ⟨rfl, hc, g2⟩
  have HL2 := hideIt hc
  clear x0 x1 x2 x3 x4 x5 hc
  obtain ⟨x0, x1, x2, x3, x4, x5, _, _⟩ := (X.kept g1).keep g2 (by simp; omega)
  simp only at x0 x1 x2 x3 x4 x5
  go_wp2_with fail
  refine (clo_yes _ L P q m t p HL2.out (Nat.le_trans (Nat.le_of_lt_succ (Nat.lt_succ_of_le (by have := hm.out; omega))) hl.out) hr.out hp.out).mono ?_
  rintro _ w3 ⟨rfl, hc, g3⟩
  have HL3 := hideIt hc
  clear x0 x1 x2 x3 x4 x5 hc
  obtain ⟨x0, x1, x2, x3, x4, x5, _, _⟩ := (X.kept g1).keep (gbTrans g2 g3) (by simp; omega)
  simp only at x0 x1 x2 x3 x4 x5
  have Y1 := (Y.kept g1).keep (gbTrans g2 g3) (by omega)
  obtain ⟨y0, y1, _⟩ := id Y1
  have f0 := (gbFrozen (gbTrans (gbAny g1 _) (gbTrans g2 g3)) hyl (by simp; omega)).trans (HY.out 0)
  have f1 := (gbFrozen (gbTrans (gbAny g1 _) (gbTrans g2 g3)) hyl (by simp; omega)).trans (HY.out 1)
  go_wp2
  obtain ⟨W2, hW2, Y2, g4⟩ := Y1.put o (M.getN p t q : Nat)
  rw [hW2]
  clear hW2 y0 y1 f0 f1
  obtain ⟨y0, y1, _⟩ := Y2
  exact bodyPost_ret (v := .tuple #[sv o (M.getN p t q : Nat), .int .i64 t, .bool true]) (by simp [results, Tryz.results127, go_sem, y0, y1]) rfl ⟨rfl, HL3.out.keep g4 (by omega) (by omega), gbPast (gbTrans (gbAny (gbTrans g0 g1) _) (gbTrans g2 g3)) g4 (Nat.le_succ _)⟩


theorem M.rad_nat (S : St) (id : Int) : ∃ q : Nat, M.rad S id = (q : Int) := by
  unfold M.rad
  cases S id with
  | none => exact ⟨0, rfl⟩
  | some d => exact ⟨d.r, rfl⟩

theorem level_no {w : World} {s m : Nat} {O : Nat → Prop} {S : St} (h : SAt w s m O S) (k o r b g n : Int) (L P l p : Nat) (ho : I64 o) (HL : Left w L P l p) (hl : l ≤ 16) (hp : p < 18446744073709551616) (hv : M.lvl S p ⟨k, o, r, b, g, n⟩ l = none) :
    Calls Tryz.prog 127 #[.pointer (some ⟨s, 0, none⟩), cv ⟨k, o, r, b, g, n⟩, clo L P] w fun e w' => e = .returned (.tuple #[sv 0 0, .int .i64 0, .bool false]) ∧ w.grownBy w' (some L) := by
  have HR := fun W (gw : w.grownBy W none) => radix_is (h.kept gw) o _ ho rfl
  obtain ⟨q, hq⟩ := M.rad_nat S o
  rw [hq] at HR
  unfold M.lvl at hv
  simp only at hv
  rw [hq] at hv
  by_cases h0 : (q : Int) = 0
  · rw [h0] at HR
    exact level_rad w s L P k o r b g n HR
  · rw [if_neg h0] at hv
    have hq0 : ((q : Int) == 0) = false := by simpa using h0
    by_cases h1 : n < 0 ∨ (l : Int) < n
    · exact level_few w s L P k o r b g n l p q HL hq0 h1 HR
    · rw [if_neg h1] at hv
      obtain ⟨N, rfl⟩ : ∃ N : Nat, n = (N : Int) := ⟨n.toNat, by omega⟩
      simp only [Int.toNat_natCast] at hv
      by_cases h2 : ((M.getN p (l - N) N : Nat) : Int) = g
      · rw [if_pos h2] at hv
        by_cases h3 : ((l - N : Nat) : Int) < (q : Int)
        · exact level_less w s L P k o r b g N (l - N) l p q HL hq0 hl (hideIt (by omega)) hp (by simpa using h2) h3 HR
        · rw [if_neg h3] at hv
          cases hv
      · exact level_wrong w s L P k o r b g N (l - N) l p q HL hq0 hl (hideIt (by omega)) hp (by simpa using h2) HR

theorem M.getN_wrap (p t q : Nat) (hq : q ≤ 16) : wrap64 ((M.getN p t q : Nat) : Int) = ((M.getN p t q : Nat) : Int) := by
  have h1 := M.getN_lt p t q
  have h2 : 2 ^ q ≤ 2 ^ 16 := Nat.pow_le_pow_right (by omega) hq
  unfold wrap64
  omega

theorem level_ok {w : World} {s m : Nat} {O : Nat → Prop} {S : St} (h : SAt w s m O S) (k o r b g n : Int) (L P l p a t : Nat) (ho : I64 o) (HL : Left w L P l p) (hl : l ≤ 16) (hp : p < 18446744073709551616) (hv : M.lvl S p ⟨k, o, r, b, g, n⟩ l = some (a, t)) :
    Calls Tryz.prog 127 #[.pointer (some ⟨s, 0, none⟩), cv ⟨k, o, r, b, g, n⟩, clo L P] w fun e w' => e = .returned (.tuple #[sv o (a : Nat), .int .i64 t, .bool true]) ∧ Left w' L P t p ∧ w.grownBy w' (some L) := by
  have HR := fun W (gw : w.grownBy W none) => radix_is (h.kept gw) o _ ho rfl
  obtain ⟨q, hq⟩ := M.rad_nat S o
  rw [hq] at HR
  unfold M.lvl at hv
  simp only at hv
  rw [hq] at hv
  by_cases h0 : (q : Int) = 0
  · rw [if_pos h0] at hv
    cases hv
  · rw [if_neg h0] at hv
    have hq0 : ((q : Int) == 0) = false := by simpa using h0
    by_cases h1 : n < 0 ∨ (l : Int) < n
    · rw [if_pos h1] at hv
      cases hv
    · rw [if_neg h1] at hv
      obtain ⟨N, rfl⟩ : ∃ N : Nat, n = (N : Int) := ⟨n.toNat, by omega⟩
      simp only [Int.toNat_natCast] at hv
      by_cases h2 : ((M.getN p (l - N) N : Nat) : Int) = g
      · rw [if_pos h2] at hv
        by_cases h3 : ((l - N : Nat) : Int) < (q : Int)
        · rw [if_pos h3] at hv
          cases hv
        · rw [if_neg h3] at hv
          simp only [Option.some.injEq, Prod.mk.injEq] at hv
          obtain ⟨rfl, rfl⟩ := hv
          exact level_yes w s L P k o r b g N (l - N) l p q HL hq0 hl (hideIt (by omega)) hp (by simpa using h2) (l - N - q) (hideIt (by omega)) (M.getN_wrap _ _ _ (by omega)) HR
      · rw [if_neg h2] at hv
        cases hv
end Go.Proofs.YtdnoidnpiaadaaaGreat

/-
  THE CONTRACT of package guard: Resolve.
-/
namespace Go.Proofs.YtdnoidnpiaadaaaGreat
set_option maxRecDepth 10000
open Go.RowKit
set_option linter.unusedVariables false

namespace M
/-- Level by level: the node, the slot's number, and how many bits are left. -/
def res (S : St) (p : Nat) : Nat → C → Nat → Option (Int × Nat × Nat)
  | 0, _, _ => none
  | f + 1, c, l => match lvl S p c l with
    | none => none
    | some (a, t) => if t = 0 ∨ (getC S c.o a).k ≠ 2 then some (c.o, a, t) else res S p f (getC S c.o a) t
theorem res_no {S : St} {p f l : Nat} {c : C} (h : lvl S p c l = none) : res S p (f + 1) c l = none := by rw [res, h]
theorem res_end {S : St} {p f l a t : Nat} {c : C} (h : lvl S p c l = some (a, t)) (k : t = 0 ∨ (getC S c.o a).k ≠ 2) : res S p (f + 1) c l = some (c.o, a, t) := by rw [res, h]; simp only; rw [if_pos k]
theorem res_on {S : St} {p f l a t : Nat} {c : C} (h : lvl S p c l = some (a, t)) (k : ¬ (t = 0 ∨ (getC S c.o a).k ≠ 2)) : res S p (f + 1) c l = res S p f (getC S c.o a) t := by rw [res, h]; simp only; rw [if_neg k]
theorem lvl_lt {S : St} (G : Good S) {p l a t : Nat} {c : C} (h : lvl S p c l = some (a, t)) : t < l := by
  obtain ⟨q, hq⟩ := rad_nat S c.o
  unfold lvl at h
  rw [hq] at h
  by_cases h0 : (q : Int) = 0
  · rw [if_pos h0] at h; cases h
  · rw [if_neg h0] at h
    split at h
    · cases h
    · split at h
      · split at h
        · cases h
        · simp only [Option.some.injEq, Prod.mk.injEq, Int.toNat_natCast] at h
          omega
      · cases h
theorem getC_chk {S : St} (G : Good S) (n i : Int) : chk (getC S n i) = 0 := by
  unfold getC
  cases hs : S n with
  | none => exact chk_zero
  | some d =>
    simp only
    split
    · exact G.chk n d _ hs
    · exact chk_zero
theorem chk_obj {c : C} (hc : chk c = 0) : 0 ≤ c.o ∧ c.o ≤ 63 := by
  unfold chk at hc
  split at hc
  · split at hc
    · rename_i hb
      simp only [bnd, Bool.and_eq_true, decide_eq_true_eq] at hb
      exact ⟨hb.1.1.1.1.1, hb.1.1.1.1.2⟩
    · cases hc
  · cases hc
theorem getC_obj {S : St} (G : Good S) (n i : Int) : I64 (getC S n i).o := by
  have := chk_obj (getC_chk G n i)
  exact i64_of (by omega) (by omega)
/-- Resolve: the node, the slot's number, how many bits are left, the error. -/
def rs (S : St) (c : C) (p : Nat) (d : Int) : Int × Int × Int × Int :=
  if adr p d = true then (if c.k = 2 then (match res S p 17 c d.toNat with
    | none => (0, 0, 0, 6)
    | some (n, a, t) => (n, a, t, 0)) else (0, 0, 0, 2)) else (0, 0, 0, 1)
end M

set_option maxHeartbeats 1000000 in
theorem resolve_adr (w : World) (s p : Nat) (k o r b g n d : Int) (h : M.adr p d = false) :
    Calls Tryz.prog 102 #[.pointer (some ⟨s, 0, none⟩), cv ⟨k, o, r, b, g, n⟩, .int .u64 p, .int .i64 d] w fun e w' => e = .returned (.tuple #[sv 0 0, .int .i64 0, .int .i64 1]) ∧ w.grownBy w' none := by
  have HI := fun w => isAddress_is p d _ h w
  clear h
  go_enter Tryz.func102, Tryz.ntmps102
  go_upto_region 1 with fail
  obtain ⟨W, hW, X, Y, hY, g0⟩ := capSlot w ⟨k, o, r, b, g, n⟩
  simp only at hW
  rw [hW]
  clear hW
  obtain ⟨y0, y1, _⟩ := id Y
  have f0 := hY 0
  have f1 := hY 1
  clear hY
  go_wp2_with fail
  refine (HI _).mono ?_
  rintro _ _ ⟨rfl, rfl⟩
  go_wp2
  obtain ⟨W2, hW2, Y2, g2⟩ := Y.put 0 0
  rw [hW2]
  clear hW2 y0 y1 f0 f1
  obtain ⟨y0, y1, _⟩ := Y2
  exact bodyPost_ret (v := .tuple #[sv 0 0, .int .i64 0, .int .i64 1]) (by simp [results, Tryz.results102, go_sem, y0, y1]) rfl ⟨rfl, gbNew (gbTrans (gbAny g0 _) g2) (Nat.le_succ _)⟩

set_option maxHeartbeats 1000000 in
theorem resolve_kind (w : World) (s p : Nat) (k o r b g n d : Int) (h : M.adr p d = true) (hk : (k != 2) = true) :
    Calls Tryz.prog 102 #[.pointer (some ⟨s, 0, none⟩), cv ⟨k, o, r, b, g, n⟩, .int .u64 p, .int .i64 d] w fun e w' => e = .returned (.tuple #[sv 0 0, .int .i64 0, .int .i64 2]) ∧ w.grownBy w' none := by
  have HI := fun w => isAddress_is p d _ h w
  clear h
  go_enter Tryz.func102, Tryz.ntmps102
  go_upto_region 1 with fail
  obtain ⟨W, hW, X, Y, hY, g0⟩ := capSlot w ⟨k, o, r, b, g, n⟩
  simp only at hW
  rw [hW]
  clear hW
  obtain ⟨y0, y1, _⟩ := id Y
  have f0 := hY 0
  have f1 := hY 1
  have x0 := X.at0
  clear hY
  go_wp2_with fail
  refine (HI _).mono ?_
  rintro _ _ ⟨rfl, rfl⟩
  go_wp2
  obtain ⟨W2, hW2, Y2, g2⟩ := Y.put 0 0
  rw [hW2]
  clear hW2 y0 y1 f0 f1
  obtain ⟨y0, y1, _⟩ := Y2
  exact bodyPost_ret (v := .tuple #[sv 0 0, .int .i64 0, .int .i64 2]) (by simp [results, Tryz.results102, go_sem, y0, y1]) rfl ⟨rfl, gbNew (gbTrans (gbAny g0 _) g2) (Nat.le_succ _)⟩



/-- What the loop of Resolve holds. -/
structure Going (w wr : World) (A L P X : Nat) (c : C) (l p : Nat) : Prop where
  cap : Box wr A c
  lft : Left wr L P l p
  slt : SBox wr X 0 0
  fz : ∀ i, wr.frozen? ⟨X, i, none⟩ = false
  gr : w.grownBy wr none
  lo : w.heap.size ≤ A ∧ w.heap.size ≤ L ∧ w.heap.size ≤ P ∧ w.heap.size ≤ X
  ne : A ≠ L ∧ A ≠ P ∧ X ≠ L ∧ X ≠ P ∧ A ≠ X

theorem Going.mk1 {w V w2 : World} {c : C} {d p : Nat} (g0 : w.grownBy V none) (Y : SBox V (w.heap.size + 1) 0 0) (fz : ∀ i, V.frozen? ⟨w.heap.size + 1, i, none⟩ = false) (G2 : V.grownBy w2 none) (l2 : Left w2 (V.heap.size + 1) V.heap.size d p) :
    ∃ W, w2.alloc (.cells #[.int .i64 c.k, .int .i64 c.o, .int .i64 c.r, .int .u64 c.b, .int .u64 c.g, .int .i64 c.n] 25) = W ∧ Going w W w2.heap.size (V.heap.size + 1) V.heap.size (w.heap.size + 1) c d p := by
  obtain ⟨W, hW, Z, gW⟩ := boxNew w2 c
  have h1 := g0.size
  have h2 := G2.size
  have h3 : V.heap.size + 1 < w2.heap.size := World.block_lt_of_cell? w2 _ l2.cl
  have h4 := Y.lt
  exact ⟨W, hW, Z, l2.kept gW, (Y.kept G2).kept gW, fun i => (gbFrozen (gbTrans G2 gW) h4 (by simp)).trans (fz i), gbTrans g0 (gbTrans G2 gW), by omega, by omega⟩
theorem Going.mk2 {w V w2 : World} {c : C} {d p : Nat} (g0 : w.grownBy V none) (Y : SBox V (w.heap.size + 1) 0 0) (fz : ∀ i, V.frozen? ⟨w.heap.size + 1, i, none⟩ = false) (G2 : V.grownBy w2 none) (Z0 : Box w2 V.heap.size C.zero) (l2 : Left w2 (V.heap.size + 1 + 1) (V.heap.size + 1) d p) :
    ∃ W, ((((((w2.setCell ⟨V.heap.size, 0, none⟩ (.int .i64 c.k)).setCell ⟨V.heap.size, 1, none⟩ (.int .i64 c.o)).setCell ⟨V.heap.size, 2, none⟩ (.int .i64 c.r)).setCell ⟨V.heap.size, 3, none⟩ (.int .u64 c.b)).setCell ⟨V.heap.size, 4, none⟩ (.int .u64 c.g)).setCell ⟨V.heap.size, 5, none⟩ (.int .i64 c.n)) = W ∧
      Going w W V.heap.size (V.heap.size + 1 + 1) (V.heap.size + 1) (w.heap.size + 1) c d p := by
  obtain ⟨W, hW, Z, gW⟩ := Z0.put c
  have h1 := g0.size
  have h2 := G2.size
  have h4 := Y.lt
  exact ⟨W, hW, Z, l2.keep gW (by omega) (by omega), (Y.kept G2).keep gW (by omega), fun i => (gbFrozen (gbTrans (gbAny G2 _) gW) h4 (by simp; omega)).trans (fz i), gbTrans g0 (gbNew (gbTrans (gbAny G2 _) gW) (Nat.le_refl _)), by omega, by omega⟩

theorem Going.lvl {w wr w1 : World} {A L P X l p t : Nat} {c : C} (h : Going w wr A L P X c l p) (l1 : Left w1 L P t p) (g : wr.grownBy w1 (some L)) : Going w w1 A L P X c t p :=
  ⟨h.cap.keep g (by simpa using h.ne.1), l1, h.slt.keep g h.ne.2.2.1, fun i => (gbFrozen g h.slt.lt (by simpa using h.ne.2.2.1)).trans (h.fz i), gbNew (gbTrans (gbAny h.gr _) g) h.lo.2.1, h.lo, h.ne⟩
theorem Going.kept {w wr w1 : World} {A L P X l p : Nat} {c : C} (h : Going w wr A L P X c l p) (g : wr.grownBy w1 none) : Going w w1 A L P X c l p :=
  ⟨h.cap.kept g, h.lft.kept g, h.slt.kept g, fun i => (gbFrozen g h.slt.lt (by simp)).trans (h.fz i), gbTrans h.gr g, h.lo, h.ne⟩
theorem Going.put {w wr : World} {A L P X l p : Nat} {c : C} (h : Going w wr A L P X c l p) (d : C) :
    ∃ W, ((((((wr.setCell ⟨A, 0, none⟩ (.int .i64 d.k)).setCell ⟨A, 1, none⟩ (.int .i64 d.o)).setCell ⟨A, 2, none⟩ (.int .i64 d.r)).setCell ⟨A, 3, none⟩ (.int .u64 d.b)).setCell ⟨A, 4, none⟩ (.int .u64 d.g)).setCell ⟨A, 5, none⟩ (.int .i64 d.n)) = W ∧
      Going w W A L P X d l p ∧ wr.grownBy W (some A) := by
  obtain ⟨W, hW, Z, gW⟩ := h.cap.put d
  exact ⟨W, hW, ⟨Z, h.lft.keep gW h.ne.1.symm h.ne.2.1.symm, h.slt.keep gW h.ne.2.2.2.2.symm, fun i => (gbFrozen gW h.slt.lt (by simpa using h.ne.2.2.2.2.symm)).trans (h.fz i), gbNew (gbTrans (gbAny h.gr _) gW) h.lo.1, h.lo, h.ne⟩, gW⟩
theorem Going.fin {w wr : World} {A L P X l p : Nat} {c : C} (h : Going w wr A L P X c l p) (n i : Int) :
    ∃ W, (wr.setCell ⟨X, 0, none⟩ (.int .i64 n)).setCell ⟨X, 1, none⟩ (.int .i64 i) = W ∧ SBox W X n i ∧ w.grownBy W none := by
  obtain ⟨W, hW, Y, gW⟩ := h.slt.put n i
  exact ⟨W, hW, Y, gbNew (gbTrans (gbAny h.gr _) gW) h.lo.2.2.2⟩
/-- What was left, when a level led to none. -/
theorem Going.lost {w wr w1 : World} {A L P X l p : Nat} {c : C} (h : Going w wr A L P X c l p) (g : wr.grownBy w1 (some L)) : ∃ X0 : SBox w1 X 0 0, (∀ i, w1.frozen? ⟨X, i, none⟩ = false) ∧ w.grownBy w1 none :=
  ⟨h.slt.keep g h.ne.2.2.1, fun i => (gbFrozen g h.slt.lt (by simpa using h.ne.2.2.1)).trans (h.fz i), gbNew (gbTrans (gbAny h.gr _) g) h.lo.2.1⟩

set_option maxRecDepth 10000 in
set_option maxHeartbeats 4000000 in
theorem resolve_loop {w : World} {s m : Nat} {O : Nat → Prop} {S : St} (HS : Hid (SAt w s m O S)) (HG : Hid (Good S)) (p d : Nat) (k o r b g n : Int) (N A0 l0 E : Int) (ho : Hid (I64 o)) (hp : Hid (p < 18446744073709551616)) (h : Hid (M.adr p d = true)) (hd : Hid (d ≤ 16)) (hk : (k != 2) = false)
    (HRS : Hid ((match M.res S p 17 ⟨k, o, r, b, g, n⟩ d with | none => ((0, 0, 0, 6) : Int × Int × Int × Int) | some (n, a, t) => (n, a, t, 0)) = (N, A0, l0, E))) :
    Calls Tryz.prog 102 #[.pointer (some ⟨s, 0, none⟩), cv ⟨k, o, r, b, g, n⟩, .int .u64 p, .int .i64 d] w fun e w' => e = .returned (.tuple #[sv N A0, .int .i64 l0, .int .i64 E]) ∧ w.grownBy w' none := by
  have HI := fun w => isAddress_is p d _ h.out w
  go_enter Tryz.func102, Tryz.ntmps102
  go_upto_region 1 with fail
  obtain ⟨W, hW, X, Y, hY, g0⟩ := capSlot w ⟨k, o, r, b, g, n⟩
  simp only at hW
  rw [hW]
  clear hW
  have HX := hideIt X
  have HY := hideIt Y
  have HZ := hideIt hY
  have x0 := X.at0
  simp only at x0
  clear X Y hY
  go_wp2_with fail
  refine (HI _).mono ?_
  rintro _ V ⟨rfl, rfl⟩
  clear HI
  go_upto_region 5 with fail
  clear x0
  go_cut [11, 12] (fun s11 s12 wc => ∃ A L P, s11 = .pointer (some ⟨A, 0, none⟩) ∧ s12 = clo L P ∧ Hid (Going w wc A L P (w.heap.size + 1) ⟨k, o, r, b, g, n⟩ d p))
  case first =>
    obtain ⟨x0, x1, x2, x3, x4, x5, _, _⟩ := HX.out
    simp only at x0 x1 x2 x3 x4 x5
    have T0b := HX.out
    have T0 : Six V.drew w.heap.size ⟨k, o, r, b, g, n⟩ := (T0b.kept (gbDrew (gbRefl V none))).tup
    go_region_held3 (fun w' => Six w' w.heap.size ⟨k, o, r, b, g, n⟩)
      (first | with_reducible exact T0 | (refine Box.tup (Box.kept T0b ?_); repeat (first | with_reducible exact G2 | with_reducible exact gbRefl V none | with_reducible refine gbDrew ?_ | with_reducible refine gbAllocN ?_ _ | with_reducible refine gbSetNew ?_ _ _ _ (by with_reducible first | exact Nat.le_refl _ | exact G2.size))) | fail)
      ((first | (go_at_call 126; refine (bitsOf_is _ p d).mono ?_; rintro _ w2 ⟨rfl, l2, g2⟩; have hc3 := gcell g2; have hf3 := gfroz g2; have G2 : V.grownBy w2 none := (by first | exact gbTrans (gbDrewN V 1 none) g2 | exact gbTrans (gbDrew (gbAllocN (gbRefl V none) _)) g2)) | fail))
    · rename_i hold
      clear hold x0 x1 x2 x3 x4 x5
      obtain ⟨W3, hW3, H3⟩ := Going.mk1 (c := ⟨k, o, r, b, g, n⟩) g0 HY.out HZ.out G2 l2
      simp only at hW3
      rw [hW3]
      go_wp2
      go_meet
      exact ⟨_, _, _, rfl, rfl, H3⟩
    · rename_i hold
      clear hold x0 x1 x2 x3 x4 x5
      have Z0 : Box w2 V.heap.size C.zero := ((Box.made V C.zero).kept (gbDrew (gbRefl _ none))).kept g2
      have l3 : Left w2 (V.heap.size + 1 + 1) (V.heap.size + 1) d p := by simpa using l2
      obtain ⟨W3, hW3, H3⟩ := Going.mk2 (c := ⟨k, o, r, b, g, n⟩) g0 HY.out HZ.out G2 Z0 l3
      simp only at hW3
      rw [hW3]
      go_wp2
      go_meet
      exact ⟨_, _, _, rfl, rfl, H3⟩
  case rest =>
    obtain ⟨A, L, P, rfl, rfl, HQ⟩ := hcut
    clear HX HY HZ g0
    obtain ⟨X, hX⟩ : ∃ X, X = w.heap.size + 1 := ⟨_, rfl⟩
    rw [← hX] at HQ ⊢
    clear hX
    clear hk
    go_wp2_with fail
    go_loopg [13, 14, 15] 17 (fun y _ _ _ wr => ∃ (c : C) (l : Nat), Hid (l < y ∧ l ≤ 16 ∧ I64 c.o) ∧ Hid (Going w wr A L P X c l p) ∧ Hid ((match M.res S p y c l with | none => ((0, 0, 0, 6) : Int × Int × Int × Int) | some (n, a, t) => (n, a, t, 0)) = (N, A0, l0, E)))
    case atStart => exact ⟨⟨k, o, r, b, g, n⟩, d, hideIt ⟨by have := hd.out; omega, hd.out, ho.out⟩, HQ, HRS⟩
    case round =>
      obtain ⟨⟨k, o, r, b, g, n⟩, l, hl, HR, HE⟩ := hrel
      obtain ⟨gk, rfl⟩ : ∃ y, gk = y + 1 := ⟨gk - 1, by have := hl.out.1; omega⟩
      obtain ⟨x0, x1, x2, x3, x4, x5, _, _⟩ := HR.out.cap
      simp only at x0 x1 x2 x3 x4 x5
      cases hv : M.lvl S p ⟨k, o, r, b, g, n⟩ l with
      | none =>
        have HP := hideIt (level_no (HS.out.kept HR.out.gr) k o r b g n L P l p hl.out.2.2 HR.out.lft hl.out.2.1 hp.out hv)
        have e := HE.out
        rw [M.res_no hv] at e
        simp only [Prod.mk.injEq] at e
        obtain ⟨rfl, rfl, rfl, rfl⟩ := e
        clear HE hv
        go_wp2_with fail
        refine HP.out.mono ?_
        rintro _ w1 ⟨rfl, g1⟩
        clear HP x0 x1 x2 x3 x4 x5
        go_upto_region 7 with fail
        obtain ⟨X0, F0, G0⟩ := HR.out.lost g1
        obtain ⟨W2, hW2, _, g2⟩ := sboxNew w1 0 0
        rw [hW2]
        clear hW2
        have X1 := X0.kept g2
        have F1 := fun i => (gbFrozen (i := i) g2 X0.lt (by simp)).trans (F0 i)
        have HX1 := hideIt X1
        obtain ⟨y0, y1, _⟩ := X1
        have f0 := F1 0
        have f1 := F1 1
        clear X0 F0 F1
        go_wp2
        obtain ⟨W3, hW3, Y3, g3⟩ := HX1.out.put 0 0
        rw [hW3]
        clear hW3 y0 y1 f0 f1
        obtain ⟨y0, y1, _⟩ := Y3
        exact bodyPost_ret (v := .tuple #[sv 0 0, .int .i64 0, .int .i64 6]) (by simp [results, Tryz.results102, go_sem, y0, y1]) rfl ⟨rfl, gbNew (gbTrans (gbAny (gbTrans G0 g2) _) g3) HR.out.lo.2.2.2⟩
      | some at_ =>
        obtain ⟨a, t⟩ := at_
        have HP := hideIt (level_ok (HS.out.kept HR.out.gr) k o r b g n L P l p a t hl.out.2.2 HR.out.lft hl.out.2.1 hp.out hv)
        have HV := hideIt hv
        clear hv
        go_wp2_with fail
        refine HP.out.mono ?_
        rintro _ w1 ⟨rfl, l1, g1⟩
        have HR1 := hideIt (HR.out.lvl l1 g1)
        clear HP x0 x1 x2 x3 x4 x5 l1 g1
        go_upto_region 7 with fail
        obtain ⟨W2, hW2, Y2, g2⟩ := sboxNew w1 o a
        rw [hW2]
        clear hW2
        have HR2 := hideIt (HR1.out.kept g2)
        obtain ⟨y0, y1, _⟩ := id Y2
        obtain ⟨⟨k2, o2, r2, b2, g2', n2⟩, hc2⟩ : ∃ c, M.getC S o a = c := ⟨_, rfl⟩
        have HP := hideIt (get_is (HS.out.kept HR2.out.gr) HG.out o a k2 o2 r2 b2 g2' n2 _ hl.out.2.2 hc2 rfl)
        have HC := hideIt hc2
        clear hc2
        go_wp2_with fail
        refine HP.out.mono ?_
        rintro _ w3 ⟨rfl, g3⟩
        have HR3 := hideIt (HR2.out.kept g3)
        have Y3 := Y2.kept g3
        clear HP y0 y1 Y2
        obtain ⟨x0, x1, x2, x3, x4, x5, _, xf⟩ := HR3.out.cap
        have f0 := xf 0
        have f1 := xf 1
        have f2 := xf 2
        have f3 := xf 3
        have f4 := xf 4
        have f5 := xf 5
        clear xf
        go_upto_region 10 with fail
        obtain ⟨W4, hW4, R4, g4⟩ := HR3.out.put ⟨k2, o2, r2, b2, g2', n2⟩
        simp only at hW4
        rw [hW4]
        have Y4 := Y3.keep g4 (Nat.ne_of_gt HR1.out.cap.lt)
        have HR4 := hideIt R4
        have z0 := R4.cap.at0
        simp only at z0
        clear hW4 R4 g4 Y3 x0 x1 x2 x3 x4 x5 f0 f1 f2 f3 f4 f5
        have HT := hideIt (M.lvl_lt HG.out HV.out)
        have stop : ∀ (hend : t = 0 ∨ k2 ≠ 2), N = o ∧ A0 = a ∧ l0 = t ∧ E = 0 := by
          intro hend
          have e := HE.out
          rw [M.res_end HV.out (by rw [HC.out]; exact hend)] at e
          simp only [Prod.mk.injEq] at e
          exact ⟨e.1.symm, e.2.1.symm, e.2.2.1.symm, e.2.2.2.symm⟩
        cases ht : ((t : Int) == 0)
        · cases hk2 : (k2 != 2)
          · have HE2 : Hid ((match M.res S p gk ⟨k2, o2, r2, b2, g2', n2⟩ t with | none => ((0, 0, 0, 6) : Int × Int × Int × Int) | some (n, a, t) => (n, a, t, 0)) = (N, A0, l0, E)) := by
              have e := HE.out
              rw [M.res_on HV.out (by rw [HC.out]; simp at ht hk2; simp; exact ⟨ht, hk2⟩), HC.out] at e
              exact e
            have ho2 : Hid (I64 o2) := by
              have := M.getC_obj HG.out o a
              rw [HC.out] at this
              exact this
            clear stop HE
            go_wp2
            go_roundg gk
            case rel => exact ⟨⟨k2, o2, r2, b2, g2', n2⟩, t, hideIt ⟨by have := hl.out; have := HT.out; omega, by have := hl.out; have := HT.out; omega, ho2.out⟩, HR4, HE2⟩
            case measure => omega
          · obtain ⟨rfl, rfl, rfl, rfl⟩ := stop (.inr (by simpa using hk2))
            clear stop HE
            obtain ⟨y0, y1, _⟩ := Y4
            obtain ⟨v0, v1, _⟩ := HR4.out.slt
            have f0 := HR4.out.fz 0
            have f1 := HR4.out.fz 1
            go_wp2
            obtain ⟨W5, hW5, Y5, g5⟩ := HR4.out.fin N a
            rw [hW5]
            clear hW5 y0 y1 f0 f1 v0 v1
            obtain ⟨y0, y1, _⟩ := Y5
            exact bodyPost_ret (v := .tuple #[sv N a, .int .i64 t, .int .i64 0]) (by simp [results, Tryz.results102, go_sem, y0, y1]) rfl ⟨rfl, g5⟩
        · obtain ⟨rfl, rfl, rfl, rfl⟩ := stop (.inl (by simpa using ht))
          clear stop HE
          obtain ⟨y0, y1, _⟩ := Y4
          obtain ⟨v0, v1, _⟩ := HR4.out.slt
          have f0 := HR4.out.fz 0
          have f1 := HR4.out.fz 1
          go_wp2
          obtain ⟨W5, hW5, Y5, g5⟩ := HR4.out.fin N a
          rw [hW5]
          clear hW5 y0 y1 f0 f1 v0 v1
          obtain ⟨y0, y1, _⟩ := Y5
          exact bodyPost_ret (v := .tuple #[sv N a, .int .i64 t, .int .i64 0]) (by simp [results, Tryz.results102, go_sem, y0, y1]) rfl ⟨rfl, g5⟩

theorem resolve_is {w : World} {s m : Nat} {O : Nat → Prop} {S : St} (h : SAt w s m O S) (G : Good S) (p : Nat) (k o r b g n d N A l E : Int) (ho : I64 o) (hp : p < 18446744073709551616) (hr : M.rs S ⟨k, o, r, b, g, n⟩ p d = (N, A, l, E)) :
    Calls Tryz.prog 102 #[.pointer (some ⟨s, 0, none⟩), cv ⟨k, o, r, b, g, n⟩, .int .u64 p, .int .i64 d] w fun e w' => e = .returned (.tuple #[sv N A, .int .i64 l, .int .i64 E]) ∧ w.grownBy w' none := by
  unfold M.rs at hr
  cases ha : M.adr p d
  · rw [ha, if_neg (by simp)] at hr
    simp only [Prod.mk.injEq] at hr
    obtain ⟨rfl, rfl, rfl, rfl⟩ := hr
    exact resolve_adr w s p k o r b g n d ha
  · rw [ha, if_pos rfl] at hr
    by_cases hk : k = 2
    · rw [if_pos hk] at hr
      have hd : 1 ≤ d ∧ d ≤ 16 := by
        unfold M.adr at ha
        simp only [Bool.and_eq_true, decide_eq_true_eq] at ha
        exact ha.1
      obtain ⟨D, rfl⟩ : ∃ D : Nat, d = (D : Int) := ⟨d.toNat, by omega⟩
      exact resolve_loop h G p D k o r b g n N A l E ho hp ha (hideIt (by omega)) (by simpa using hk) hr
    · rw [if_neg hk] at hr
      simp only [Prod.mk.injEq] at hr
      obtain ⟨rfl, rfl, rfl, rfl⟩ := hr
      exact resolve_kind w s p k o r b g n d ha (by simpa using hk)

end Go.Proofs.YtdnoidnpiaadaaaGreat
