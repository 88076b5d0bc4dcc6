/-
  THE CONTRACTS of package mem's functions, one a function and a way, over this seat's translation.
-/
import Derived.Test.YtfdnangceomeiaaRows
import Derived.WalkKit
import Derived.WalkSpells
import Derived.WalkLawsBesides
import Derived.Deep.QuietTactic
import Derived.BigQuiet
import Derived.Test.YtfdnangceomeiaaMOwn
namespace Go.Proofs.Ytfdnangceomeiaa
set_option maxRecDepth 10000
namespace Y2
open Go.RowKit

/-- A memory of n words: a struct (of type t) at p that leads to a row at b, word i being f i. -/
structure MemOf (t : TypeId) (w : World) (p b n : Nat) (f : Nat → Int) : Prop where
  box : w.heap[p]? = some (.cells #[.slice (some ⟨b, 0, none⟩) n n] t (0, 0))
  row : w.rowIs b 46 n (fun i => .int .u64 (f i))
  ne : p ≠ b
  lo : 64 ≤ n
  hi : n ≤ 65536

/-- The program's memory. -/
abbrev MemAt := MemOf 83
/-- The document's memory. -/
abbrev RefAt := MemOf 43
theorem MemOf.cell {t : TypeId} {w : World} {p b n : Nat} {f : Nat → Int} (h : MemOf t w p b n f) : w.cell? ⟨p, 0, none⟩ = some (.slice (some ⟨b, 0, none⟩) n n) := by simp [World.cell?, h.box]
theorem MemOf.drewN {t : TypeId} {w : World} {p b n : Nat} {f : Nat → Int} (h : MemOf t w p b n f) (q : Nat) : MemOf t (w.drewN q) p b n f := ⟨h.box, h.row, h.ne, h.lo, h.hi⟩

theorem rowPut {w : World} {b n : Nat} {f : Nat → Int} (h : w.rowIs b 46 n (fun i => .int .u64 (f i))) (a : Nat) (v : Int) : (w.setCell ⟨b, a, none⟩ (.int .u64 v)).rowIs b 46 n (fun i => .int .u64 (if i = a then v else f i)) :=
  (h.set a _).congr (fun i _ => by split <;> rfl)
theorem MemOf.put {t : TypeId} {w : World} {p b n : Nat} {f : Nat → Int} (h : MemOf t w p b n f) (a : Nat) (v : Int) : MemOf t (w.setCell ⟨b, a, none⟩ (.int .u64 v)) p b n (fun i => if i = a then v else f i) :=
  ⟨(Below.heap_setCell _ _ _ _ h.ne).trans h.box, (h.row.set a _).congr (fun i _ => by split <;> rfl), h.ne, h.lo, h.hi⟩
/-- The row has turned, and nothing else. -/
theorem MemOf.turn {t : TypeId} {w w' : World} {p b n : Nat} {f : Nat → Int} (h : MemOf t w p b n f) {F : Nat → Value} {g : Nat → Int} (hr : w'.rowIs b 46 n F) (hg : w.grownBy w' (some b)) (e : ∀ i, i < n → F i = .int .u64 (g i)) : MemOf t w' p b n g :=
  ⟨(hg.block p (Array.getElem?_eq_some_iff.1 h.box).1 (fun e => h.ne (by simpa using e))).trans h.box, hr.congr e, h.ne, h.lo, h.hi⟩
theorem MemOf.keep {t : TypeId} {w w' : World} {p b n : Nat} {f : Nat → Int} (h : MemOf t w p b n f) {r : Option Nat} (hg : w.grownBy w' r) (h1 : some p ≠ r) (h2 : some b ≠ r) : MemOf t w' p b n f :=
  ⟨(hg.block p (Array.getElem?_eq_some_iff.1 h.box).1 h1).trans h.box, rowKeep h.row hg h2, h.ne, h.lo, h.hi⟩

set_option maxHeartbeats 400000 in
theorem size_any (w : World) (p b n : Nat) (hc : w.cell? ⟨p, 0, none⟩ = some (.slice (some ⟨b, 0, none⟩) n n)) :
    Calls Try.prog 36 #[.pointer (some ⟨p, 0, none⟩)] w fun e w' => e = .returned (.int .i64 n) ∧ w' = w := by
  go_enter Try.func36, Try.ntmps36
  go_wp2
  go_ret
  exact ⟨rfl, rfl⟩

set_option maxHeartbeats 400000 in
theorem there_yes (w : World) (p b n a k : Nat) (hc : w.cell? ⟨p, 0, none⟩ = some (.slice (some ⟨b, 0, none⟩) n n)) (hn : n ≤ 65536) (h : a + k ≤ n) :
    Calls Try.prog 45 #[.pointer (some ⟨p, 0, none⟩), .int .i64 a, .int .i64 k] w fun e w' => e = .returned (.bool true) ∧ w' = w := by
  have h2 : (a : Int) ≤ (n : Int) - (k : Int) := by omega
  go_enter Try.func45, Try.ntmps45
  go_wp2_with (go_at_call 36; refine (size_any _ p b n hc).mono ?_; rintro e w' ⟨rfl, rfl⟩)
  go_ret
  exact ⟨rfl, rfl⟩

set_option maxHeartbeats 400000 in
theorem there_no (w : World) (p b n : Nat) (a k : Int) (hc : w.cell? ⟨p, 0, none⟩ = some (.slice (some ⟨b, 0, none⟩) n n)) (hn : n ≤ 65536) (h : ¬ (0 ≤ a ∧ 0 ≤ k ∧ a + k ≤ n)) :
    Calls Try.prog 45 #[.pointer (some ⟨p, 0, none⟩), .int .i64 a, .int .i64 k] w fun e w' => e = .returned (.bool false) ∧ w' = w := by
  by_cases c1 : 0 ≤ a
  · by_cases c2 : 0 ≤ k
    · by_cases c3 : k ≤ (n : Int)
      · have c4 : ¬ a ≤ (n : Int) - k := by omega
        clear h
        go_enter Try.func45, Try.ntmps45
        go_wp2_with (go_at_call 36; refine (size_any _ p b n hc).mono ?_; rintro e w' ⟨rfl, rfl⟩)
        go_ret
        exact ⟨ret_bool (decide_eq_false (by omega)), rfl⟩
      · clear h
        go_enter Try.func45, Try.ntmps45
        go_wp2_with (go_at_call 36; refine (size_any _ p b n hc).mono ?_; rintro e w' ⟨rfl, rfl⟩)
        go_ret
        exact ⟨rfl, rfl⟩
    · clear h
      go_enter Try.func45, Try.ntmps45
      go_wp2
      go_ret
      exact ⟨rfl, rfl⟩
  · clear h
    go_enter Try.func45, Try.ntmps45
    go_wp2
    go_ret
    exact ⟨rfl, rfl⟩

set_option maxHeartbeats 400000 in
theorem stretch_any (w : World) (p b n a k : Nat) (hc : w.cell? ⟨p, 0, none⟩ = some (.slice (some ⟨b, 0, none⟩) n n)) (hn : n ≤ 65536) (h : a + k ≤ n) :
    Calls Try.prog 55 #[.pointer (some ⟨p, 0, none⟩), .int .i64 a, .int .i64 k] w fun e w' => ∃ o cap, e = .returned (.slice (some ⟨b, o, none⟩) k cap) ∧ w' = w ∧ (k = 0 ∨ o = a) := by
  go_enter Try.func55, Try.ntmps55
  go_wp2
  · go_ret
    exact ⟨0, ⟨0, rfl⟩, rfl, by omega⟩
  · go_ret
    exact ⟨a, ⟨n - a, rfl⟩, rfl, by omega⟩

theorem Try.info46 : (Try.prog.info? 46).map (fun i => (i.zero, i.size, i.bytes)) = some (some (.int .u64 0), 1, 8) := by kernel_rfl

set_option maxHeartbeats 400000 in
theorem new_yes (w : World) (n : Nat) (h0 : 64 ≤ n) (h1 : n ≤ 65536) :
    Calls Try.prog 17 #[.int .i64 n] w fun e w' => ∃ p b, e = .returned (.tuple #[.pointer (some ⟨p, 0, none⟩), .int .i64 0]) ∧ MemAt w' p b n (fun _ => 0) ∧ w.grownBy w' none ∧ w.heap.size ≤ p ∧ w.heap.size ≤ b := by
  have hmk := run_make_row' (P := Try.prog) 22 46 (.int .u64 0) 8 Try.underlying22 Try.info46 rfl .i64 .i64 n (by omega) (by omega)
  go_enter Try.func17, Try.ntmps17
  go_wp2
  go_ret2
  refine ⟨w.heap.size + 1, w.heap.size, rfl, ⟨?_, ?_, by omega, h0, h1⟩, ?_, by omega, by omega⟩
  · have e := Deep.blk_alloc_new (w.alloc (.cells (madeCells #[Value.int .u64 0] n) 46)) (.cells #[.slice (some ⟨w.heap.size, 0, none⟩) n n] 83)
    rw [Deep.nblk_alloc] at e; exact e
  · exact (w.rowIs_made (.int .u64 0) n 46).alloc _
  · exact gbTrans (World.grownBy_alloc _ _ _) (World.grownBy_alloc _ _ _)

set_option maxHeartbeats 400000 in
theorem get_yes (w : World) (p b n a : Nat) (f : Nat → Int) (hm : MemAt w p b n f) (ha : a < n) :
    Calls Try.prog 37 #[.pointer (some ⟨p, 0, none⟩), .int .i64 a] w fun e w' => e = .returned (.tuple #[.int .u64 (f a), .int .i64 0]) ∧ ∃ q, w' = w.drewN q := by
  have hc := hm.cell
  have hr := hm.row.cell ha
  have hn := hm.hi
  go_enter Try.func37, Try.ntmps37
  go_wp2_with (go_at_call 45; refine (there_yes _ p b n a 1 hc hn (by omega)).mono ?_; rintro e w' ⟨rfl, rfl⟩)
  go_ret2
  exact ⟨rfl, 0, rfl⟩

set_option maxHeartbeats 400000 in
theorem put_yes (w : World) (p b n a : Nat) (v : Int) (f : Nat → Int) (hm : MemAt w p b n f) (ha : a < n) :
    Calls Try.prog 25 #[.pointer (some ⟨p, 0, none⟩), .int .i64 a, .int .u64 v] w fun e w' => e = .returned (.int .i64 0) ∧ MemAt w' p b n (fun i => if i = a then v else f i) ∧ w.grownBy w' (some b) := by
  have hc := hm.cell
  have hr := hm.row.cell ha
  have hf := hm.row.frozen a
  have hn := hm.hi
  go_enter Try.func25, Try.ntmps25
  go_wp2_with (go_at_call 45; refine (there_yes _ p b n a 1 hc hn (by omega)).mono ?_; rintro e w' ⟨rfl, rfl⟩)
  go_ret
  exact ⟨rfl, hm.put a v, gbSetCell _ _ _ _⟩

set_option maxHeartbeats 400000 in
theorem read_yes (w : World) (p b n a k : Nat) (f : Nat → Int) (hm : MemAt w p b n f) (h : a + k ≤ n) :
    Calls Try.prog 35 #[.pointer (some ⟨p, 0, none⟩), .int .i64 a, .int .i64 k] w fun e w' =>
      ∃ g, e = .returned (.tuple #[.slice (some ⟨g, 0, none⟩) k k, .int .i64 0]) ∧ w'.rowIs g 46 k (fun i => .int .u64 (f (a + i))) ∧ w.grownBy w' none ∧ w.heap.size ≤ g := by
  have hc := hm.cell
  have hn := hm.hi
  have hmk := run_make_row' (P := Try.prog) 22 46 (.int .u64 0) 8 Try.underlying22 Try.info46 rfl .i64 .i64 k (by omega) (by omega)
  go_enter Try.func35, Try.ntmps35
  go_wp2_with (go_at_call 45; refine (there_yes _ p b n a k hc hn h).mono ?_; rintro e w' ⟨rfl, rfl⟩)
  have hm2 := hm.keep (World.grownBy_alloc w' (.cells (madeCells #[Value.int .u64 0] k) 46) none) (by simp) (by simp)
  refine (stretch_any _ p b n a k hm2.cell hn h).mono ?_
  rintro e w1 ⟨o, cap, rfl, rfl, ho⟩
  rename_i hK
  refine hK _ _ ?_
  clear hK
  refine wpList_copy_fn rfl (.tmp 16) (.tmp 20) 22 22 rfl 46 Try.underlying22 (by kernel_rfl) w'.heap.size 0 0 k k k ⟨b, o, none⟩ cap rfl rfl 46 _ (w'.rowIs_made (.int .u64 0) k 46) (fun j => .int .u64 (f (a + j))) (by omega) (by omega) ?_ (fun _ => rfl) ?_
  · intro j hj
    obtain rfl : o = a := by omega
    rw [Addr.add_lit]
    exact hm2.row.cell (by omega)
  intro w2 hr hg
  go_wp2
  go_ret2
  refine ⟨_, rfl, hr.congr (fun i hi => ?_), ?_, Nat.le_refl _⟩
  · rw [if_pos (by omega), Nat.sub_zero]
  · exact gbNew (gbTrans (World.grownBy_alloc w' _ _) hg) (Nat.le_refl _)

/-! ### What is refused -/
set_option maxHeartbeats 400000 in
theorem new_no (w : World) (n : Int) (h : ¬ (64 ≤ n ∧ n ≤ 65536)) :
    Calls Try.prog 17 #[.int .i64 n] w fun e w' => e = .returned (.tuple #[.pointer none, .int .i64 1]) ∧ w' = w := by
  by_cases c1 : n < 64
  · clear h
    go_enter Try.func17, Try.ntmps17
    go_wp2
    go_ret2
    exact ⟨rfl, rfl⟩
  · have c2 : 65536 < n := by omega
    clear h
    go_enter Try.func17, Try.ntmps17
    go_wp2
    go_ret2
    exact ⟨rfl, rfl⟩

set_option maxHeartbeats 400000 in
theorem get_no (w : World) (p b n : Nat) (a : Int) (f : Nat → Int) (hm : MemAt w p b n f) (ha : ¬ (0 ≤ a ∧ a < n)) :
    Calls Try.prog 37 #[.pointer (some ⟨p, 0, none⟩), .int .i64 a] w fun e w' => e = .returned (.tuple #[.int .u64 0, .int .i64 1]) ∧ w' = w := by
  have hc := hm.cell
  have hn := hm.hi
  have h2 : Hid (¬ (0 ≤ a ∧ (0 : Int) ≤ 1 ∧ a + 1 ≤ n)) := hideIt (by omega)
  clear ha
  go_enter Try.func37, Try.ntmps37
  go_wp2_with (go_at_call 45; refine (there_no _ p b n a 1 hc hn h2.out).mono ?_; rintro e w' ⟨rfl, rfl⟩)
  go_ret2
  exact ⟨rfl, rfl⟩

set_option maxHeartbeats 400000 in
theorem put_no (w : World) (p b n : Nat) (a v : Int) (f : Nat → Int) (hm : MemAt w p b n f) (ha : ¬ (0 ≤ a ∧ a < n)) :
    Calls Try.prog 25 #[.pointer (some ⟨p, 0, none⟩), .int .i64 a, .int .u64 v] w fun e w' => e = .returned (.int .i64 1) ∧ w' = w := by
  have hc := hm.cell
  have hn := hm.hi
  have h2 : Hid (¬ (0 ≤ a ∧ (0 : Int) ≤ 1 ∧ a + 1 ≤ n)) := hideIt (by omega)
  clear ha
  go_enter Try.func25, Try.ntmps25
  go_wp2_with (go_at_call 45; refine (there_no _ p b n a 1 hc hn h2.out).mono ?_; rintro e w' ⟨rfl, rfl⟩)
  go_ret
  exact ⟨rfl, rfl⟩

set_option maxHeartbeats 400000 in
theorem read_no (w : World) (p b n : Nat) (a k : Int) (f : Nat → Int) (hm : MemAt w p b n f) (h : ¬ (0 ≤ a ∧ 0 ≤ k ∧ a + k ≤ n)) :
    Calls Try.prog 35 #[.pointer (some ⟨p, 0, none⟩), .int .i64 a, .int .i64 k] w fun e w' => e = .returned (.tuple #[.slice none 0 0, .int .i64 1]) ∧ w' = w := by
  have hc := hm.cell
  have hn := hm.hi
  have h2 : Hid (¬ (0 ≤ a ∧ 0 ≤ k ∧ a + k ≤ n)) := hideIt h
  clear h
  go_enter Try.func35, Try.ntmps35
  go_wp2_with (go_at_call 45; refine (there_no _ p b n a k hc hn h2.out).mono ?_; rintro e w' ⟨rfl, rfl⟩)
  go_ret2
  exact ⟨rfl, rfl⟩

end Y2
end Go.Proofs.Ytfdnangceomeiaa
