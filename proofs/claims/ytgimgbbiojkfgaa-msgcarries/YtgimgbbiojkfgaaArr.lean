/-
  EIGHT REGISTERS: arrays of eight words in memory and as values; what copy does to a row whose content is a function of the index; lists of words that were handed in. Speaks of no function of the program.
-/
import Derived.Test.YtgimgbbiojkfgaaUnpk
import Derived.Laws.CopyOwn
import Derived.Deep.Cut
namespace Go.Proofs.Ytgimgbbiojkfgaa
set_option maxRecDepth 10000
open Go.RowKit
set_option linter.unusedVariables false

/-- Eight registers as a value. -/
abbrev rv (f : Nat → Nat) : Value := .agg #[.int .u64 (f 0 : Int), .int .u64 (f 1 : Int), .int .u64 (f 2 : Int), .int .u64 (f 3 : Int), .int .u64 (f 4 : Int), .int .u64 (f 5 : Int), .int .u64 (f 6 : Int), .int .u64 (f 7 : Int)]
/-- Eight registers in memory. -/
def RA (w : World) (b : Nat) (t : TypeId) (f : Nat → Nat) : Prop := w.rowIs b t 8 (fun i => .int .u64 (f i : Int))

theorem gbSetRow (w : World) (b : Nat) (c : Array Value) : w.grownBy (w.setRow b c) (some b) :=
  ⟨rfl, rfl, rfl, by simp, fun k _ hk => setRow_other w b k c (fun e => hk (by rw [e]))⟩
theorem RA.keep {w w' : World} {b : Nat} {t : TypeId} {f : Nat → Nat} {r : Option Nat} (h : RA w b t f) (g : w.grownBy w' r) (hr : some b ≠ r) : RA w' b t f :=
  World.rowIs.of_block h (g.block b (World.rowIs.lt h) hr)
theorem RA.kept {w w' : World} {b : Nat} {t : TypeId} {f : Nat → Nat} (h : RA w b t f) (g : w.grownBy w' none) : RA w' b t f := h.keep g (by simp)
theorem RA.lt {w : World} {b : Nat} {t : TypeId} {f : Nat → Nat} (h : RA w b t f) : b < w.heap.size := World.rowIs.lt h
theorem RA.cell {w : World} {b : Nat} {t : TypeId} {f : Nat → Nat} (h : RA w b t f) {i : Nat} (hi : i < 8) : w.cell? ⟨b, i, none⟩ = some (.int .u64 (f i : Int)) := World.rowIs.cell h hi
theorem RA.fr {w : World} {b : Nat} {t : TypeId} {f : Nat → Nat} (h : RA w b t f) (i : Nat) : w.frozen? ⟨b, i, none⟩ = false := World.rowIs.frozen h i
theorem RA.congr {w : World} {b : Nat} {t : TypeId} {f g : Nat → Nat} (h : RA w b t f) (e : ∀ i, i < 8 → f i = g i) : RA w b t g :=
  World.rowIs.congr h (fun i hi => by rw [e i hi])
/-- One register is written. -/
def upd (f : Nat → Nat) (i v : Nat) : Nat → Nat := fun j => if j = i then v else f j
theorem RA.set {w : World} {b : Nat} {t : TypeId} {f : Nat → Nat} (h : RA w b t f) (i v : Nat) : RA (w.setCell ⟨b, i, none⟩ (.int .u64 (v : Int))) b t (upd f i v) := by
  refine World.rowIs.congr (World.rowIs.set h i _) (fun j _ => ?_)
  unfold upd
  by_cases c : j = i <;> simp [c]

/-- The eight cells, written out. -/
structure R8 (w : World) (b : Nat) (f : Nat → Nat) : Prop where
  at0 : w.cell? ⟨b, 0, none⟩ = some (.int .u64 (f 0 : Int))
  at1 : w.cell? ⟨b, 1, none⟩ = some (.int .u64 (f 1 : Int))
  at2 : w.cell? ⟨b, 2, none⟩ = some (.int .u64 (f 2 : Int))
  at3 : w.cell? ⟨b, 3, none⟩ = some (.int .u64 (f 3 : Int))
  at4 : w.cell? ⟨b, 4, none⟩ = some (.int .u64 (f 4 : Int))
  at5 : w.cell? ⟨b, 5, none⟩ = some (.int .u64 (f 5 : Int))
  at6 : w.cell? ⟨b, 6, none⟩ = some (.int .u64 (f 6 : Int))
  at7 : w.cell? ⟨b, 7, none⟩ = some (.int .u64 (f 7 : Int))
theorem RA.eight {w : World} {b : Nat} {t : TypeId} {f : Nat → Nat} (h : RA w b t f) : R8 w b f :=
  ⟨h.cell (by decide), h.cell (by decide), h.cell (by decide), h.cell (by decide), h.cell (by decide), h.cell (by decide), h.cell (by decide), h.cell (by decide)⟩

theorem RA.made (w : World) (f : Nat → Nat) (t : TypeId) : RA (w.alloc (.cells #[.int .u64 (f 0 : Int), .int .u64 (f 1 : Int), .int .u64 (f 2 : Int), .int .u64 (f 3 : Int), .int .u64 (f 4 : Int), .int .u64 (f 5 : Int), .int .u64 (f 6 : Int), .int .u64 (f 7 : Int)] t)) w.heap.size t f :=
  w.rowIs_alloc _ t (fun i => .int .u64 (f i : Int)) (fun i hi => by
    have hj : i = 0 ∨ i = 1 ∨ i = 2 ∨ i = 3 ∨ i = 4 ∨ i = 5 ∨ i = 6 ∨ i = 7 := by simp at hi; omega
    rcases hj with rfl | rfl | rfl | rfl | rfl | rfl | rfl | rfl <;> rfl)
theorem arrNew (w : World) (f : Nat → Nat) (t : TypeId) : ∃ W, w.alloc (.cells #[.int .u64 (f 0 : Int), .int .u64 (f 1 : Int), .int .u64 (f 2 : Int), .int .u64 (f 3 : Int), .int .u64 (f 4 : Int), .int .u64 (f 5 : Int), .int .u64 (f 6 : Int), .int .u64 (f 7 : Int)] t) = W ∧ RA W w.heap.size t f ∧ w.grownBy W none ∧ W.heap.size = w.heap.size + 1 :=
  ⟨_, rfl, RA.made w f t, gbAlloc _ _ _, by simp⟩
/-- No register is anything. -/
abbrev nil8 : Nat → Nat := fun _ => 0
theorem arrZero (w : World) (t : TypeId) : ∃ W, w.alloc (.cells #[.int .u64 0, .int .u64 0, .int .u64 0, .int .u64 0, .int .u64 0, .int .u64 0, .int .u64 0, .int .u64 0] t) = W ∧ RA W w.heap.size t nil8 ∧ w.grownBy W none ∧ W.heap.size = w.heap.size + 1 :=
  arrNew w nil8 t

/-! ### copy into a row -/
theorem listRow {n : Nat} (c : Array Value) (f : Nat → Value) (hn : c.size = n) (hc : ∀ i, i < n → c[i]? = some (f i)) (off : Nat) (V : Nat → Value) (k : Nat) (hk : off + k ≤ n) :
    ∀ i, i < n → ((c.toList.take off ++ ((List.range k).map V ++ c.toList.drop (off + k))).toArray)[i]? = some (if off ≤ i ∧ i < off + k then V (i - off) else f i) := by
  intro i hi
  have hl : c.toList.length = n := by simpa using hn
  have hci : c.toList[i]? = some (f i) := by simpa using hc i hi
  simp only [List.getElem?_toArray]
  by_cases h1 : i < off
  · rw [List.getElem?_append_left (by simp; omega), List.getElem?_take, if_pos h1, if_neg (by omega)]; exact hci
  · rw [List.getElem?_append_right (by simp; omega)]
    have e1 : (c.toList.take off).length = off := by simp; omega
    rw [e1]
    by_cases h2 : i < off + k
    · rw [List.getElem?_append_left (by simp; omega), if_pos ⟨by omega, h2⟩]
      simp [show i - off < k by omega]
    · rw [List.getElem?_append_right (by simp; omega), if_neg (by omega)]
      simp only [List.length_map, List.length_range, List.getElem?_drop]
      rw [show off + k + (i - off - k) = i by omega]; exact hci
theorem rowSpliced {w : World} {g n : Nat} {t : TypeId} {f : Nat → Value} {c : Array Value} (hg : w.heap[g]? = some (.cells c t (0, 0))) (hn : c.size = n) (hc : ∀ i, i < n → c[i]? = some (f i)) (off : Nat) (V : Nat → Value) (k : Nat) (hk : off + k ≤ n) :
    (w.setRow g (c.toList.take off ++ ((List.range k).map V ++ c.toList.drop (off + k))).toArray).rowIs g t n (fun i => if off ≤ i ∧ i < off + k then V (i - off) else f i) := by
  refine ⟨_, setRow_heap w g c _ t _ hg, ?_, listRow c f hn hc off V k hk⟩
  simp; omega

/-- k words from V on come to lie behind the register 0. -/
def cp (f V : Nat → Nat) (k : Nat) : Nat → Nat := fun i => if 1 ≤ i ∧ i < 1 + k then V (i - 1) else f i

/-- THE BUILTIN copy into eight registers from 1 on: as many words as both have. -/
theorem run_copy8 (w : World) (ty : TypeId) (g dl dc sl sc k : Nat) (ad : Option Addr) (t : TypeId) (f V : Nat → Nat) (hrow : RA w g t f) (hk : Nat.min sl dl = k) (k7 : k ≤ 7)
    (hsrc : ∀ j, j < k → ∃ x, ad = some x ∧ w.cell? (x.add j) = some (.int .u64 (V j : Int))) :
    ∃ w', (Builtin.copy_ #[35, 35] ty #[.slice (some ⟨g, 1, none⟩) dl dc, .slice ad sl sc]).run Try.prog w = .ok (goInt k) w' ∧ RA w' g t (cp f V k) ∧ w.grownBy w' (some g) := by
  by_cases h0 : k = 0
  · subst h0
    refine ⟨w, run_copy_none (P := Try.prog) w _ _ ty 22 _ _ dl dc sl sc Try.underlying35 (by kernel_rfl) hk, hrow.congr (fun i _ => ?_), gbRefl _ _⟩
    unfold cp; rw [if_neg (by omega)]
  · obtain ⟨x, rfl, _⟩ := hsrc 0 (by omega)
    obtain ⟨c, hg, hn, hc⟩ := hrow
    have hlen : ((List.range k).map (fun j => Value.int .u64 (V j : Int))).length = k := by simp
    have R := run_copy_row (P := Try.prog) w 35 35 ty 22 g 1 dl dc x sl sc c t ((List.range k).map (fun j => Value.int .u64 (V j : Int))) Try.underlying35 (by kernel_rfl) hg (by rw [hlen, hk])
      (by
        intro j v hv
        simp only [List.getElem?_map, Option.map_eq_some_iff] at hv
        obtain ⟨i, hi, rfl⟩ := hv
        obtain ⟨hi1, rfl⟩ := List.getElem?_eq_some_iff.1 hi
        simp at hi1
        obtain ⟨y, e, hy⟩ := hsrc j hi1
        obtain rfl : x = y := by simpa using e
        simpa using hy)
      (by rw [hlen]; omega) (by intro v hv; obtain ⟨j, _, rfl⟩ := List.mem_map.1 hv; rfl)
    rw [hlen, List.append_assoc] at R
    refine ⟨_, R, World.rowIs.congr (rowSpliced hg hn hc 1 (fun j => Value.int .u64 (V j : Int)) k (by omega)) (fun i _ => ?_), gbSetRow _ _ _⟩
    unfold cp
    by_cases c : 1 ≤ i ∧ i < 1 + k
    · simp only [if_pos c]
    · simp only [if_neg c]

/-! ### Lists of words that were handed in -/
/-- A list of words. -/
def Wl (w : World) (x : Option Addr) (n : Nat) (V : Nat → Nat) : Prop := ∀ i, i < n → ∃ y, x = some y ∧ w.cell? (y.add i) = some (.int .u64 (V i : Int)) ∧ V i < 18446744073709551616
theorem Wl.kept {w w' : World} {x : Option Addr} {n : Nat} {V : Nat → Nat} (h : Wl w x n V) (g : w.grownBy w' none) : Wl w' x n V := fun i hi => by
  obtain ⟨y, e, hy, hv⟩ := h i hi
  exact ⟨y, e, g.cell hy (by simp), hv⟩
theorem Wl.of {w : World} {x : Option Addr} {n : Nat} (h : ∀ i, i < n → ∃ (y : Addr) (z : Nat), x = some y ∧ w.cell? (y.add i) = some (.int .u64 (z : Int)) ∧ z < 18446744073709551616) : ∃ V, Wl w x n V := by
  refine ⟨fun i => if hi : i < n then (h i hi).choose_spec.choose else 0, fun i hi => ?_⟩
  simp only [dif_pos hi]
  obtain ⟨e, c, l⟩ := (h i hi).choose_spec.choose_spec
  exact ⟨_, e, c, l⟩

/-! ### Two rows of registers held against one another -/
theorem part_regs (w : World) (g : Nat → Nat) (i : Nat) (hi : i < 8) : (part 22 #[.int .u64 (g 0 : Int), .int .u64 (g 1 : Int), .int .u64 (g 2 : Int), .int .u64 (g 3 : Int), .int .u64 (g 4 : Int), .int .u64 (g 5 : Int), .int .u64 (g 6 : Int), .int .u64 (g 7 : Int)] (i * 1)).run Try.prog w = .ok (.int .u64 (g i : Int)) w := by
  have h1 : (isAgg 22).run Try.prog w = .ok false w := by kernel_rfl
  have hj : i = 0 ∨ i = 1 ∨ i = 2 ∨ i = 3 ∨ i = 4 ∨ i = 5 ∨ i = 6 ∨ i = 7 := by omega
  rcases hj with rfl | rfl | rfl | rfl | rfl | rfl | rfl | rfl <;> simp [part, Sem.run_bind, h1]
theorem eqItems_regs (w : World) (g : Nat → Nat) (m : Nat) : ∀ l : List Nat, (∀ i ∈ l, i < 8) → (Op.eqItems (m + 2) 22 1 #[.int .u64 (g 0 : Int), .int .u64 (g 1 : Int), .int .u64 (g 2 : Int), .int .u64 (g 3 : Int), .int .u64 (g 4 : Int), .int .u64 (g 5 : Int), .int .u64 (g 6 : Int), .int .u64 (g 7 : Int)] #[.int .u64 (g 0 : Int), .int .u64 (g 1 : Int), .int .u64 (g 2 : Int), .int .u64 (g 3 : Int), .int .u64 (g 4 : Int), .int .u64 (g 5 : Int), .int .u64 (g 6 : Int), .int .u64 (g 7 : Int)] l).run Try.prog w = .ok true w
  | [], _ => by simp [Op.eqItems]
  | i :: l, h => by
    have hi := h i (by simp)
    have ih := eqItems_regs w g m l (fun j hj => h j (by simp [hj]))
    simp only [Op.eqItems, Sem.run_bind, part_regs w g i hi, Result.andThen_ok]
    simp [go_sem, Try.underlying22, ih]
theorem run_eql_regs (w : World) (f g : Nat → Nat) (h : ∀ i, i < 8 → f i = g i) : (binOp .eql 38 (rv f) (rv g)).run Try.prog w = .ok (.bool true) w := by
  have e : rv f = rv g := by unfold rv; rw [h 0 (by decide), h 1 (by decide), h 2 (by decide), h 3 (by decide), h 4 (by decide), h 5 (by decide), h 6 (by decide), h 7 (by decide)]
  rw [e]
  have hc : Try.prog.cellsOf 22 = 1 := by kernel_rfl
  obtain ⟨i, hi⟩ : ∃ i, Try.prog.info? 22 = some i := Option.isSome_iff_exists.1 (by kernel_rfl)
  rw [run_eql_struct, run_equalIn_array w 9999 _ _ Try.underlying38 hi, hc, eqItems_regs w g 9997 _ (by simp)]
  rfl
theorem eqGuardRegs : Try.prog.eqGuardType Try.prog.depth 38 = false := by kernel_rfl
end Go.Proofs.Ytgimgbbiojkfgaa
