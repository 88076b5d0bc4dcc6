/-
  ROWS OF THE CALL'S OWN: what copy and clear do to a row whose content is a function of the index; worlds that part in one row alone. Speaks of no function of the program.
-/
import Derived.Test.YtfdnangceomeiaaBase
import Derived.WalkKit
import Derived.Deep.OwnRows
import Derived.Deep.Draws
import Derived.Laws.CopyOwn
import Derived.Test.YtfdnangceomeiaaRows
namespace Go.Proofs.Ytfdnangceomeiaa
set_option maxRecDepth 10000
namespace Y2
open Go.RowKit


theorem wrapNat (a : Int) : ∃ U : Nat, IntKind.u64.wrap a = (U : Int) ∧ U ≤ 18446744073709551615 := by
  refine ⟨(IntKind.u64.wrap a).toNat, ?_, ?_⟩ <;> rw [IntKind.wrap_u64] <;> omega
theorem modNat (U n : Nat) (h : 0 < n) : ∃ a : Nat, (U : Int) % (n : Int) = (a : Int) ∧ a < n :=
  ⟨U % n, by simp, Nat.mod_lt _ h⟩

/-! ### Worlds -/
theorem gbSetRow (w : World) (b : Nat) (c : Array Value) : w.grownBy (w.setRow b c) (some b) :=
  ⟨rfl, rfl, rfl, by simp, fun k _ hk => setRow_other w b k c (fun e => hk (by rw [e]))⟩

/-- A cell that came in reads as it did. -/
theorem argCell {w w' : World} {a : Addr} {v : Value} (hb : Below w.heap.size w w') (h : w.cell? a = some v) : w'.cell? a = some v :=
  (hb.cell (World.block_lt_of_cell? w a h)).trans h

theorem rowKeep {w w' : World} {b n : Nat} {t : TypeId} {f : Nat → Value} {r : Option Nat} (h : w.rowIs b t n f) (g : w.grownBy w' r) (hr : some b ≠ r) : w'.rowIs b t n f :=
  h.of_block (g.block b h.lt hr)

/-! ### copy and clear on rows -/
theorem listRow {n : Nat} (c : Array Value) (f : Nat → Value) (hn : c.size = n) (hc : ∀ i, i < n → c[i]? = some (f i)) (off : Nat) (V : Nat → Value) (k : Nat) (hk : off + k ≤ n) :
    ∀ i, i < n → ((c.toList.take off ++ ((List.range k).map V ++ c.toList.drop (off + k))).toArray)[i]? = some (if off ≤ i ∧ i < off + k then V (i - off) else f i) := by
  intro i hi
  have hl : c.toList.length = n := by simpa using hn
  have hci : c.toList[i]? = some (f i) := by simpa using hc i hi
  simp only [List.getElem?_toArray]
  by_cases h1 : i < off
  · rw [List.getElem?_append_left (by simp; omega), List.getElem?_take, if_pos h1, if_neg (by omega)]; exact hci
  · rw [List.getElem?_append_right (by simp; omega)]
    have e1 : (c.toList.take off).length = off := by simp; omega
    rw [e1]
    by_cases h2 : i < off + k
    · rw [List.getElem?_append_left (by simp; omega), if_pos ⟨by omega, h2⟩]
      simp [show i - off < k by omega]
    · rw [List.getElem?_append_right (by simp; omega), if_neg (by omega)]
      simp only [List.length_map, List.length_range, List.getElem?_drop]
      rw [show off + k + (i - off - k) = i by omega]; exact hci

theorem rowSpliced {w : World} {g n : Nat} {t : TypeId} {f : Nat → Value} {c : Array Value} (hg : w.heap[g]? = some (.cells c t (0, 0))) (hn : c.size = n) (hc : ∀ i, i < n → c[i]? = some (f i)) (off : Nat) (V : Nat → Value) (k : Nat) (hk : off + k ≤ n) :
    (w.setRow g (c.toList.take off ++ ((List.range k).map V ++ c.toList.drop (off + k))).toArray).rowIs g t n (fun i => if off ≤ i ∧ i < off + k then V (i - off) else f i) := by
  refine ⟨_, setRow_heap w g c _ t _ hg, ?_, listRow c f hn hc off V k hk⟩
  simp; omega

/-- THE BUILTIN copy into a row: k cells that lie somewhere, V by their index. -/
theorem wpList_copy_fn {P : Program} {w : World} {ops : Array Oper} {rest : List Oper} {o : Oper} {a : Act} {Q : Exit → Act → World → Prop} (hgd : o.guard = none) (d s : Operand) (dT sT : TypeId)
    (ho : o.op = .call { callee := .builtin .copy, args := #[d, s], argTypes := #[dT, sT] }) (elem : TypeId) (hu : P.underlying dT = some (.slice elem)) (hsz : (P.info? elem).map (·.size) = some 1)
    (g o1 off n k dc : Nat) (ad : Addr) (sc : Nat) (hd : a.eval d = .slice (some ⟨g, o1, none⟩) k dc) (hs : a.eval s = .slice (some ad) k sc)
    (t : TypeId) (f : Nat → Value) (hrow : w.rowIs g t n f) (V : Nat → Value) (ho1 : k = 0 ∨ o1 = off) (hfit : off + k ≤ n)
    (hsrc : ∀ j, j < k → w.cell? (ad.add j) = some (V j)) (h1 : ∀ j, (V j).oneCell' = true)
    (h : ∀ w', w'.rowIs g t n (fun i => if off ≤ i ∧ i < off + k then V (i - off) else f i) → w.grownBy w' (some g) → wpList P ops Q rest (a.put o.dst (goInt k)) w') :
    wpList P ops Q (o :: rest) a w := by
  by_cases h0 : k = 0
  · subst h0
    refine wpList_copy_nothing hgd d s dT sT ho elem hu hsz _ _ 0 dc 0 sc hd hs (by simp) ?_
    exact h w (hrow.congr (fun i _ => by rw [if_neg (by omega)])) (gbRefl _ _)
  · obtain rfl : o1 = off := by omega
    obtain ⟨c, hg, hn, hc⟩ := hrow
    have hlen : ((List.range k).map V).length = k := by simp
    refine wpList_copy_own hgd d s dT sT ho elem hu hsz g o1 k dc ad k sc hd hs c t hg ((List.range k).map V) (by simp) ?_ (by simp; omega) ?_ ?_
    · intro j v hv
      simp only [List.getElem?_map, Option.map_eq_some_iff] at hv
      obtain ⟨i, hi, rfl⟩ := hv
      obtain ⟨hi1, rfl⟩ := List.getElem?_eq_some_iff.1 hi
      simp at hi1
      simpa using hsrc j hi1
    · intro v hv
      obtain ⟨j, _, rfl⟩ := List.mem_map.1 hv
      exact h1 j
    · rw [hlen]
      exact h _ (rowSpliced hg hn hc o1 V k hfit) (gbSetRow _ _ _)

theorem zeroCellsOne (z : Value) (k : Nat) : (Builtin.zeroCells #[z] k).toList = (List.range k).map (fun _ => z) := by
  apply List.ext_getElem?
  intro i
  simp [Builtin.zeroCells, Nat.mod_one]

/-- THE BUILTIN clear on a stretch of a row. -/
theorem run_clear_row {P : Program} (w : World) (dT ty elem : TypeId) (i : TypeInfo) (z : Value) (hu : P.underlying dT = some (.slice elem)) (hi : P.info? elem = some i) (hz : i.zero = some z) (hz1 : z.cells = #[z]) (hz2 : z.oneCell' = true)
    (g off k cap : Nat) (c : Array Value) (t : TypeId) (hg : w.heap[g]? = some (.cells c t (0, 0))) (hfit : off + k ≤ c.size) (hk : 0 < k) :
    (Builtin.clear_ #[dT] ty #[.slice (some ⟨g, off, none⟩) k cap]).run P w = .ok (.tuple #[]) (w.setRow g (c.toList.take off ++ ((List.range k).map (fun _ => z) ++ c.toList.drop (off + k))).toArray) := by
  have hst := run_storeCells_at P g off t ((List.range k).map (fun _ => z)) 0 c w hg (by simpa using hfit) (by intro v hv; obtain ⟨j, _, rfl⟩ := List.mem_map.1 hv; exact hz2)
  obtain ⟨m, rfl⟩ : ∃ m, k = m + 1 := ⟨k - 1, by omega⟩
  simp only [Nat.add_zero, List.length_map, List.length_range, List.append_assoc] at hst
  simp [Builtin.clear_, run_underlying hu, zeroValue, typeInfo, hi, hz, hz1, zeroCellsOne, hst]

theorem run_clear_nothing {P : Program} (w : World) (dT ty elem : TypeId) (hu : P.underlying dT = some (.slice elem)) (ad : Option Addr) (cap : Nat) :
    (Builtin.clear_ #[dT] ty #[.slice ad 0 cap]).run P w = .ok (.tuple #[]) w := by
  cases ad <;> simp [Builtin.clear_, run_underlying hu]

theorem wpList_clear_fn {P : Program} {w : World} {ops : Array Oper} {rest : List Oper} {o : Oper} {a : Act} {Q : Exit → Act → World → Prop} (hgd : o.guard = none) (d : Operand) (dT : TypeId)
    (ho : o.op = .call { callee := .builtin .clear, args := #[d], argTypes := #[dT] }) (elem : TypeId) (hu : P.underlying dT = some (.slice elem)) (i : TypeInfo) (z : Value) (hi : P.info? elem = some i) (hz : i.zero = some z) (hz1 : z.cells = #[z]) (hz2 : z.oneCell' = true)
    (g o1 off n k dc : Nat) (hd : a.eval d = .slice (some ⟨g, o1, none⟩) k dc)
    (t : TypeId) (f : Nat → Value) (hrow : w.rowIs g t n f) (ho1 : k = 0 ∨ o1 = off) (hfit : off + k ≤ n)
    (h : ∀ w', w'.rowIs g t n (fun i => if off ≤ i ∧ i < off + k then z else f i) → w.grownBy w' (some g) → wpList P ops Q rest (a.put o.dst (.tuple #[])) w') :
    wpList P ops Q (o :: rest) a w := by
  refine wpList_plain hgd fun K hK => ?_
  by_cases h0 : k = 0
  · subst h0
    have hrun := run_clear_nothing (P := P) w dT o.type elem hu (some ⟨g, o1, none⟩) dc
    unfold Oper.wp
    simp [execOp, ho, resolve, invoke, builtin, hd, hrun, Result.andThen]
    exact hK _ _ (h w (hrow.congr (fun i _ => by rw [if_neg (by omega)])) (gbRefl _ _))
  · obtain rfl : o1 = off := by omega
    obtain ⟨c, hg, hn, hc⟩ := hrow
    have hrun := run_clear_row (P := P) w dT o.type elem i z hu hi hz hz1 hz2 g o1 k dc c t hg (by omega) (by omega)
    unfold Oper.wp
    simp [execOp, ho, resolve, invoke, builtin, hd, hrun, Result.andThen]
    have := h _ (rowSpliced hg hn hc o1 (fun _ => z) k hfit) (gbSetRow _ _ _)
    exact hK _ _ (by simpa using this)

/-! ### append onto a list of the call's own -/
/-- A list of n words of one cell each that the call itself made: it begins at the head of block g. -/
def Owns (w : World) (B g n cap : Nat) (f : Nat → Value) : Prop :=
  w.ownsRow B 46 1 (.slice (some ⟨g, 0, none⟩) n cap) n ((List.range n).map f)

theorem Owns.cell {w : World} {B g n cap : Nat} {f : Nat → Value} (h : Owns w B g n cap f) {i : Nat} (hi : i < n) : w.cell? ⟨g, i, none⟩ = some (f i) := by
  have := World.ownsRow.cells h (g := g) rfl i (f i) (by simp [hi])
  rwa [Addr.add_lit, Nat.zero_add] at this
theorem Owns.lt {w : World} {B g n cap : Nat} {f : Nat → Value} (h : Owns w B g n cap f) : B ≤ g ∧ g < w.heap.size := World.ownsRow.lt h g rfl
theorem Owns.keep {w w' : World} {B g n cap : Nat} {f : Nat → Value} (h : Owns w B g n cap f) {r : Option Nat} (hg : w.grownBy w' r) (hr : some g ≠ r) : Owns w' B g n cap f :=
  World.ownsRow.kept h hg (.inr hr)
theorem Owns.congr {w : World} {B g n cap : Nat} {f f' : Nat → Value} (h : Owns w B g n cap f) (e : ∀ i, i < n → f i = f' i) : Owns w B g n cap f' := by
  unfold Owns at *
  rwa [show (List.range n).map f' = (List.range n).map f from List.map_congr_left (fun i hi => (e i (by simpa using hi)).symm)]
/-- The empty list, as it is written out in the text. -/
theorem Owns.none (w : World) : Owns (w.alloc (.cells #[] 46)) w.heap.size w.heap.size 0 0 (fun _ => .int .u64 0) :=
  w.ownsRow_made (base := w.heap.size) (e := 46) (size := 1) #[] 0 (Nat.le_refl _) (by decide) (by simp)

theorem gbNews {a b : World} {r : Option Nat} (h : a.grownBy b r) (hr : ∀ k, r = some k → a.heap.size ≤ k) : a.grownBy b none :=
  ⟨h.os, h.tape, h.output, h.size, fun i hi _ => h.block i hi (fun e => by have := hr i e.symm; omega)⟩

theorem rangeApp (n m : Nat) (F V : Nat → Value) : (List.range n).map F ++ (List.range m).map V = (List.range (n + m)).map (fun i => if i < n then F i else V (i - n)) := by
  apply List.ext_getElem?
  intro i
  by_cases h : i < n
  · rw [List.getElem?_append_left (by simpa using h)]
    simp [h, show i < n + m by omega]
  · rw [List.getElem?_append_right (by simp; omega)]
    by_cases h2 : i < n + m
    · simp [h, h2, show i - n < m by omega]
    · rw [List.getElem?_eq_none (by simp; omega), List.getElem?_eq_none (by simp; omega)]

theorem wpList_append_fn {P : Program} {w : World} {ops : Array Oper} {rest : List Oper} {o : Oper} {a : Act} {Q : Exit → Act → World → Prop} (hw : Region.wanted o (yielded ops a.tmps) = true) (s x : Operand) (t : TypeId)
    (ho : o.op = .call { callee := .builtin .append, args := #[s, x], argTypes := #[t, t] })
    (i : TypeInfo) (ht : P.underlying t = some (.slice 46)) (hi : P.info? 46 = some i) (hz : i.zero = some (.int .u64 0)) (hsize : i.size = 1) (hby : i.bytes = 8)
    (B g n cap : Nat) (F : Nat → Value) (hs : a.eval s = .slice (some ⟨g, 0, .none⟩) n cap) (hown : Owns w B g n cap F)
    (ad : Addr) (m c : Nat) (V : Nat → Value) (hx : a.eval x = .slice (some ad) m c) (hnews : ∀ j, j < m → w.cell? (ad.add j) = some (V j)) (h1 : ∀ j, (V j).oneCell' = true)
    (hn : n + m ≤ 1000000) (hB : B ≤ w.heap.size)
    (h : ∀ g' cap' w', Owns w' B g' (n + m) cap' (fun i => if i < n then F i else V (i - n)) → w.grownBy w' (some g) → wpList P ops Q rest (a.put o.dst (.slice (some ⟨g', 0, .none⟩) (n + m) cap')) w') : wpList P ops Q (o :: rest) a w := by
  refine BigFrame.wpList_want hw fun K hK => ?_
  refine wp_append_own w s x t ho B 46 i (.int .u64 0) 1 8 ht hi hz hsize hby rfl (by decide) _ n _ hs hown ad m c ((List.range m).map V) hx (by simp) ?_ ?_ (by unfold maxLen; omega) (by omega) hB ?_
  · intro j u hu
    simp only [List.getElem?_map, Option.map_eq_some_iff] at hu
    obtain ⟨l, hl, rfl⟩ := hu
    obtain ⟨hl1, rfl⟩ := List.getElem?_eq_some_iff.1 hl
    simp at hl1
    simpa using hnews j hl1
  · intro v hv
    obtain ⟨j, _, rfl⟩ := List.mem_map.1 hv
    exact h1 j
  · intro v' w' h2 h3 h4
    rw [rangeApp] at h2
    have h5 := h2.2
    rcases h5 with ⟨rfl, _⟩ | ⟨g', cap', _, rfl, _⟩
    · simp at h4
    · exact hK _ _ (h g' cap' w' h2 h3)

end Y2
end Go.Proofs.Ytfdnangceomeiaa
