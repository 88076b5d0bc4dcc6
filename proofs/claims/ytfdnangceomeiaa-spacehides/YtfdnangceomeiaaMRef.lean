/-
  THE CONTRACTS of the document's own memory (package donjonref02), one a function and a way.
-/
import Derived.Test.YtfdnangceomeiaaMSame
namespace Go.Proofs.Ytfdnangceomeiaa
set_option maxRecDepth 10000
namespace Y2
open Go.RowKit

set_option maxHeartbeats 400000 in
theorem rnew_yes (w : World) (n : Nat) (h0 : 64 ≤ n) (h1 : n ≤ 65536) :
    Calls Try.prog 24 #[.int .i64 n] w fun e w' => ∃ p b, e = .returned (.tuple #[.pointer (some ⟨p, 0, none⟩), .int .i64 0]) ∧ RefAt w' p b n (fun _ => 0) ∧ w.grownBy w' none ∧ w.heap.size ≤ p ∧ w.heap.size ≤ b := by
  have hmk := run_make_row' (P := Try.prog) 22 46 (.int .u64 0) 8 Try.underlying22 Try.info46 rfl .i64 .i64 n (by omega) (by omega)
  go_enter Try.func24, Try.ntmps24
  go_wp2
  go_ret2
  refine ⟨w.heap.size + 1, w.heap.size, rfl, ⟨?_, ?_, by omega, h0, h1⟩, ?_, by omega, by omega⟩
  · have e := Deep.blk_alloc_new (w.alloc (.cells (madeCells #[Value.int .u64 0] n) 46)) (.cells #[.slice (some ⟨w.heap.size, 0, none⟩) n n] 43)
    rw [Deep.nblk_alloc] at e; exact e
  · exact (w.rowIs_made (.int .u64 0) n 46).alloc _
  · exact gbTrans (World.grownBy_alloc _ _ _) (World.grownBy_alloc _ _ _)

set_option maxHeartbeats 400000 in
theorem rnew_no (w : World) (n : Int) (h : ¬ (64 ≤ n ∧ n ≤ 65536)) :
    Calls Try.prog 24 #[.int .i64 n] w fun e w' => e = .returned (.tuple #[.pointer none, .int .i64 1]) ∧ w' = w := by
  by_cases c1 : n < 64
  · clear h
    go_enter Try.func24, Try.ntmps24
    go_wp2
    go_ret2
    exact ⟨rfl, rfl⟩
  · have c2 : 65536 < n := by omega
    clear h
    go_enter Try.func24, Try.ntmps24
    go_wp2
    go_ret2
    exact ⟨rfl, rfl⟩

set_option maxHeartbeats 400000 in
theorem rthere_yes (w : World) (p b n a k : Nat) (hc : w.cell? ⟨p, 0, none⟩ = some (.slice (some ⟨b, 0, none⟩) n n)) (hn : n ≤ 65536) (h : a + k ≤ n) :
    Calls Try.prog 52 #[.pointer (some ⟨p, 0, none⟩), .int .i64 a, .int .i64 k] w fun e w' => e = .returned (.bool true) ∧ w' = w := by
  have h2 : (k : Int) ≤ (n : Int) - (a : Int) := by omega
  have h3 : (a : Int) ≤ (n : Int) := by omega
  go_enter Try.func52, Try.ntmps52
  go_wp2
  go_ret
  exact ⟨rfl, rfl⟩

set_option maxHeartbeats 400000 in
theorem rthere_no (w : World) (p b n : Nat) (a k : Int) (hc : w.cell? ⟨p, 0, none⟩ = some (.slice (some ⟨b, 0, none⟩) n n)) (hn : n ≤ 65536) (h : ¬ (0 ≤ a ∧ 0 ≤ k ∧ a + k ≤ n)) :
    Calls Try.prog 52 #[.pointer (some ⟨p, 0, none⟩), .int .i64 a, .int .i64 k] w fun e w' => e = .returned (.bool false) ∧ w' = w := by
  by_cases c1 : 0 ≤ a
  · by_cases c2 : 0 ≤ k
    · by_cases c3 : a ≤ (n : Int)
      · have c4 : ¬ k ≤ (n : Int) - a := by omega
        clear h
        go_enter Try.func52, Try.ntmps52
        go_wp2
        go_ret
        exact ⟨rfl, rfl⟩
      · clear h
        go_enter Try.func52, Try.ntmps52
        go_wp2
        go_ret
        exact ⟨rfl, rfl⟩
    · clear h
      go_enter Try.func52, Try.ntmps52
      go_wp2
      go_ret
      exact ⟨rfl, rfl⟩
  · clear h
    go_enter Try.func52, Try.ntmps52
    go_wp2
    go_ret
    exact ⟨rfl, rfl⟩

set_option maxHeartbeats 400000 in
theorem rget_yes (w : World) (p b n a : Nat) (f : Nat → Int) (hm : RefAt w p b n f) (ha : a < n) :
    Calls Try.prog 62 #[.pointer (some ⟨p, 0, none⟩), .int .i64 a] w fun e w' => e = .returned (.tuple #[.int .u64 (f a), .int .i64 0]) ∧ ∃ q, w' = w.drewN q := by
  have hc := hm.cell
  have hr := hm.row.cell ha
  have hn := hm.hi
  go_enter Try.func62, Try.ntmps62
  go_wp2
  go_ret2
  exact ⟨rfl, 0, rfl⟩

set_option maxHeartbeats 400000 in
theorem rget_no (w : World) (p b n : Nat) (a : Int) (f : Nat → Int) (hm : RefAt w p b n f) (ha : ¬ (0 ≤ a ∧ a < n)) :
    Calls Try.prog 62 #[.pointer (some ⟨p, 0, none⟩), .int .i64 a] w fun e w' => e = .returned (.tuple #[.int .u64 0, .int .i64 1]) ∧ w' = w := by
  have hc := hm.cell
  have hn := hm.hi
  by_cases c1 : a < 0
  · clear ha
    go_enter Try.func62, Try.ntmps62
    go_wp2
    go_ret2
    exact ⟨rfl, rfl⟩
  · have c2 : (n : Int) ≤ a := by omega
    clear ha
    go_enter Try.func62, Try.ntmps62
    go_wp2
    go_ret2
    exact ⟨rfl, rfl⟩

theorem fieldNew {w : World} {p : Nat} {v : Value} (h : w.cell? ⟨p, 0, none⟩ = some v) (o : Obj) : (w.alloc o).cell? ⟨p, 0, none⟩ = some v :=
  (World.grownBy_alloc w o none).cell h (by simp)

theorem copied {a c j x : Nat} {f : Nat → Int} (hx : x = a + j) (i : Nat) :
    Value.int .u64 (if i = x then f (c + j) else if a ≤ i ∧ i < a + j then f (c + (i - a)) else f i) = .int .u64 (if a ≤ i ∧ i < a + (j + 1) then f (c + (i - a)) else f i) := by
  congr 1
  by_cases e1 : i = x
  · rw [if_pos e1, if_pos (by omega), show i - a = j by omega]
  · rw [if_neg e1]
    by_cases e2 : a ≤ i ∧ i < a + j
    · rw [if_pos e2, if_pos (by omega)]
    · rw [if_neg e2, if_neg (by omega)]

end Y2
end Go.Proofs.Ytfdnangceomeiaa
