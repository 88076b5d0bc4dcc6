/-
  A ROW OF SPANS THAT IS MADE AND THEN WRITTEN ONE BY ONE: the contract of package untyped's row.
-/
import Derived.Test.YtadllapdhdjpbaaUsed
import Derived.Test.YtadllapdhdjpbaaLists
import Derived.Laws.OwnMore
import Derived.Deep.LoopGhost
import Derived.Deep.RegionHeld3
namespace Go.Proofs.Ytadllapdhdjpbaa
open Go.RowKit

theorem madeTwo (c : Nat) : (madeCells #[.int .i64 0, .int .i64 0] (c * 2)).toList = cellsL (List.replicate c (0, 0)) := by
  apply List.ext_getElem?
  intro j
  by_cases hj : j < c * 2
  · have h1 : (List.replicate c ((0 : Int), (0 : Int)))[j / 2]? = some (0, 0) := by rw [List.getElem?_replicate, if_pos (by omega)]
    obtain ⟨h2, h3⟩ := cellsL_get _ _ _ h1
    have h4 : (madeCells #[Value.int .i64 0, .int .i64 0] (c * 2)).toList[j]? = some (.int .i64 0) := by
      have : j % 2 = 0 ∨ j % 2 = 1 := by omega
      rcases this with e | e <;> simp [madeCells, hj, e]
    rw [h4]
    by_cases e : j % 2 = 0
    · rw [show j / 2 * 2 = j by omega] at h2; exact h2.symm
    · rw [show j / 2 * 2 + 1 = j by omega] at h3; exact h3.symm
  · rw [List.getElem?_eq_none (by simp [madeCells]; omega), List.getElem?_eq_none (by rw [cellsL_len]; simp; omega)]

theorem cellsL_set (L : List (Int × Int)) (j : Nat) (A B : Int) : ((cellsL L).set (j * 2) (.int .i64 A)).set (j * 2 + 1) (.int .i64 B) = cellsL (L.set j (A, B)) := by
  induction L generalizing j with
  | nil => simp [cellsL]
  | cons q L ih =>
    cases j with
    | zero => simp [cellsL_cons]
    | succ j =>
      rw [show (j + 1) * 2 = j * 2 + 1 + 1 by omega]
      simp only [List.set_cons_succ, cellsL_cons]
      rw [ih]

theorem Lst.store {w : World} {B g n cap : Nat} {L : List (Int × Int)} (h : Lst w B (.slice (some ⟨g, 0, none⟩) n cap) L) (hn : L.length = n) (j : Nat) (A D : Int) :
    Lst ((w.setCell ⟨g, j * 2, none⟩ (.int .i64 A)).setCell ⟨g, j * 2 + 1, none⟩ (.int .i64 D)) B (.slice (some ⟨g, 0, none⟩) n cap) (L.set j (A, D)) := by
  subst hn
  unfold Lst at *
  have h1 := (World.ownsRow.stored h (j * 2) (.int .i64 A)).1
  have h2 := (World.ownsRow.stored h1 (j * 2 + 1) (.int .i64 D)).1
  rw [cellsL_set] at h2
  rw [List.length_set]; exact h2
/-- The cells of an element of a list of the call's own. -/
theorem Lst.el {w : World} {B g n cap : Nat} {L : List (Int × Int)} (h : Lst w B (.slice (some ⟨g, 0, none⟩) n cap) L) (hn : L.length = n) (j : Nat) (p : Int × Int) (hj : L[j]? = some p) :
    w.cell? ⟨g, j * 2, none⟩ = some (.int .i64 p.1) ∧ w.cell? ⟨g, j * 2 + 1, none⟩ = some (.int .i64 p.2) ∧ w.frozen? ⟨g, j * 2, none⟩ = false ∧ w.frozen? ⟨g, j * 2 + 1, none⟩ = false := by
  subst hn
  unfold Lst at h
  have hlt : j < L.length := (List.getElem?_eq_some_iff.1 hj).1
  obtain ⟨h1, h2⟩ := cellsL_get L j p hj
  exact ⟨(World.ownsRow.cellAt h _ (by omega)).trans h1, (World.ownsRow.cellAt h _ (by omega)).trans h2, World.ownsRow.frozenAt h _, World.ownsRow.frozenAt h _⟩

theorem run_make_spans (c : Nat) (hc : c ≤ 16) (w : World) :
    (Instr.makeSlice 29 (.int .i64 (c : Int)) (.int .i64 (c : Int))).run Try.prog w = .ok (.slice (some ⟨w.heap.size, 0, none⟩) c c) (w.alloc (.cells (madeCells #[.int .i64 0, .int .i64 0] (c * 2)) 23)) := by
  obtain ⟨i, hi, hx0⟩ := Option.map_eq_some_iff.1 Try.infoSpan
  simp only [Prod.mk.injEq] at hx0
  obtain ⟨hz0, hz1, hz2⟩ := hx0
  have hr := run_make (P := Try.prog) w 29 23 i _ Try.underlying29 hi hz0 .i64 .i64 c c (by omega) (Int.le_refl _) (by rw [hz2]; omega) (by omega)
  simp only [Int.toNat_natCast, hz1] at hr
  exact hr

theorem Lst.zeros (w : World) (B c : Nat) (hc : c ≤ 16) (hB : B ≤ w.heap.size) : Lst (w.alloc (.cells (madeCells #[.int .i64 0, .int .i64 0] (c * 2)) 23)) B (.slice (some ⟨w.heap.size, 0, none⟩) c c) (List.replicate c (0, 0)) := by
  have := World.ownsRow_lit (base := B) (e := 23) (size := 2) w (madeCells #[.int .i64 0, .int .i64 0] (c * 2)) c hB (by unfold maxLen; omega) (size_madeCells _ _)
  rw [madeTwo] at this
  unfold Lst
  rw [List.length_replicate]
  exact this

namespace M
/-- The first j of c spans are there. -/
def part (f m b c j : Nat) : List (Int × Int) := (List.range c).map fun i => if i < j then (((f + i * m : Nat) : Int), (b : Int)) else (0, 0)
theorem part_len (f m b c j : Nat) : (part f m b c j).length = c := by unfold part; simp
theorem part_zero (f m b c : Nat) : part f m b c 0 = List.replicate c (0, 0) := by
  apply List.ext_getElem?; intro i; unfold part
  by_cases h : i < c <;> simp [h]
theorem part_all (f m b c : Nat) : part f m b c c = rowL f m b c := by
  apply List.ext_getElem?; intro i; unfold part rowL
  by_cases h : i < c <;> simp [h]
theorem part_set (f m b c j : Nat) : (part f m b c j).set j (((f + j * m : Nat) : Int), (b : Int)) = part f m b c (j + 1) := by
  apply List.ext_getElem?; intro i
  rw [List.getElem?_set]
  unfold part
  by_cases e : j = i
  · subst e
    by_cases h : j < c <;> simp [h]
  · rw [if_neg e]
    by_cases h : i < c
    · simp [h]
      by_cases h2 : i < j
      · simp [h2, show i < j + 1 by omega]
      · simp [h2, show ¬ i < j + 1 by omega]
    · simp [h]
theorem wrap2 (f n : Nat) (hf : f ≤ 1000000) (hn : n ≤ 16 * 65536) : IntKind.i64.wrap ((f : Int) + IntKind.i64.wrap (n : Int)) = ((f + n : Nat) : Int) := by
  have e : IntKind.i64.wrap (n : Int) = (n : Int) := by rw [IntKind.wrap_i64]; omega
  rw [e, IntKind.wrap_i64]; omega
theorem part_get (f m b c j : Nat) (h : j < c) : (part f m b c j)[j]? = some (0, 0) := by unfold part; simp [h]
end M

set_option maxHeartbeats 1000000 in
theorem row_any (f b m c : Nat) (w : World) (hb : b ≤ 16) (hm : 2 ^ b = m) (hf : f ≤ 1000000) (hc : c ≤ 16) :
    Calls Try.prog 23 #[sp f b, .int .i64 c] w fun e w' => ∃ v, e = .returned v ∧ Lst w' w.heap.size v (M.rowL f m b c) ∧ w.grownBy w' none := by
  have hmk := run_make_spans c hc
  have hp := M.pow_le16 b hb
  have HL := fun w => ulen_any f b m w hb hm
  rw [hm] at hp
  clear hm
  have B0 := (Box.made w f b).kept (gbAlloc _ (.cells (madeCells #[.int .i64 0, .int .i64 0] (c * 2)) 23) none)
  obtain ⟨k4, hk4⟩ : ∃ k4, w.heap.size = k4 := ⟨_, rfl⟩
  have HZ : Hid (Lst ((w.alloc (.cells #[.int .i64 f, .int .i64 b] 23)).alloc (.cells (madeCells #[.int .i64 0, .int .i64 0] (c * 2)) 23)) w.heap.size (.slice (some ⟨k4 + 1, 0, none⟩) c c) (M.part f m b c 0)) := hideIt (by
    rw [M.part_zero, ← hk4]
    have := Lst.zeros (w.alloc (.cells #[.int .i64 f, .int .i64 b] 23)) w.heap.size c hc (by simp)
    simpa using this)
  go_enter Try.func23, Try.ntmps23
  go_wp2
  go_loopg [6, 11] c (fun g _ i wr => ∃ j : Nat, j + g = c ∧ i = .int .i64 j ∧ Box wr k4 f b ∧ Hid (Lst wr w.heap.size (.slice (some ⟨k4 + 1, 0, none⟩) c c) (M.part f m b c j)) ∧ w.grownBy wr none)
  case atStart => exact ⟨0, by omega, rfl, by rw [← hk4]; exact B0, HZ, gbTwo _ _ _ _⟩
  case round =>
    obtain ⟨j, hj, rfl, X, HP, gw⟩ := hrel
    clear B0 HZ
    by_cases hlt : j < c
    · obtain ⟨n, hn⟩ : ∃ n : Nat, j * m = n := ⟨_, rfl⟩
      have hn1 : n ≤ 16 * 65536 := by rw [← hn]; exact Nat.mul_le_mul (by omega) hp.2
      have hn' : (j : Int) * (m : Int) = (n : Int) := by rw [← hn]; simp
      obtain ⟨q, hq, HE⟩ : ∃ q : Nat, Hid (q = f + j * m) ∧ IntKind.i64.wrap ((f : Int) + IntKind.i64.wrap (n : Int)) = (q : Int) := ⟨f + n, hideIt (by rw [hn]), M.wrap2 f n hf hn1⟩
      clear hn
      have x0 := X.at0
      have x1 := X.at1
      have hlt' : (j : Int) < (c : Int) := by omega
      go_wp2
      go_region_held3 (fun w' => w'.cell? ⟨k4, 0, none⟩ = some (.int .i64 f) ∧ w'.cell? ⟨k4, 1, none⟩ = some (.int .i64 b)) (first | exact ⟨x0, x1⟩ | go_keep | exact ⟨(X.kept G1).at0, (X.kept G1).at1⟩ | fail)
        ((go_at_call 22; refine (HL _).mono ?_; rintro e w1 ⟨rfl, g1⟩; have G1 : wr.grownBy w1 none := gbTrans (gbDrewN wr 1 none) g1; obtain ⟨c0, c1, c2, c3⟩ := (HP.out.kept G1).el (M.part_len f m b c j) j _ (M.part_get f m b c j hlt)))
      rename_i hold
      clear hold
      try rw [HE]
      have St := (HP.out.kept G1).store (M.part_len f m b c j) j (q : Int) b
      rw [hq.out, M.part_set, ← hq.out] at St
      have HS := hideIt St
      have Y := (X.kept G1).keep (gbTrans (gbSetCell _ (k4 + 1) (j * 2) (.int .i64 (q : Int))) (gbSetCell _ (k4 + 1) (j * 2 + 1) (.int .i64 b))) (by simp)
      have GS : w.grownBy ((w1.setCell ⟨k4 + 1, j * 2, none⟩ (.int .i64 (q : Int))).setCell ⟨k4 + 1, j * 2 + 1, none⟩ (.int .i64 b)) none := gbSetNew (gbSetNew (gbTrans gw G1) _ _ _ (by omega)) _ _ _ (by omega)
      obtain ⟨W2, hW2⟩ : ∃ W2, (w1.setCell ⟨k4 + 1, j * 2, none⟩ (.int .i64 (q : Int))).setCell ⟨k4 + 1, j * 2 + 1, none⟩ (.int .i64 b) = W2 := ⟨_, rfl⟩
      rw [hW2] at HS Y GS
      rw [hW2]
      clear hW2 St c0 c1 c2 c3
      go_wp2
      go_roundg (gk - 1)
      case rel => exact ⟨j + 1, by omega, by go_num, Y, HS, GS⟩
      case measure => omega
    · obtain rfl : j = c := by omega
      have HE : Hid (M.part f m b j j = M.rowL f m b j) := hideIt (M.part_all f m b j)
      go_wp2
      go_ret
      exact ⟨_, rfl, by rw [← HE.out]; exact HP.out, gw⟩

end Go.Proofs.Ytadllapdhdjpbaa
