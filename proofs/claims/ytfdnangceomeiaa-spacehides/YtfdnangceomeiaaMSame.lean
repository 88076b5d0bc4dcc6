/-
  WHAT IS COMPARED: two lists of words that hold the same are the same; the law's own first question.
-/
import Derived.Test.YtfdnangceomeiaaMLeaf
namespace Go.Proofs.Ytfdnangceomeiaa
set_option maxRecDepth 10000
namespace Y2
open Go.RowKit

/-- The slice value v holds n words, word i being f i. -/
def Sl (w : World) (v : Value) (n : Nat) (f : Nat → Int) : Prop :=
  (v = .slice none 0 0 ∧ n = 0) ∨ ∃ g cap, v = .slice (some ⟨g, 0, none⟩) n cap ∧ n ≤ 9223372036854775807 ∧ ∀ i, i < n → w.cell? ⟨g, i, none⟩ = some (.int .u64 (f i))

theorem Sl.ofRow {w : World} {g n c : Nat} {f : Nat → Int} (h : w.rowIs g 46 n (fun i => .int .u64 (f i))) (hn : n ≤ 65536) : Sl w (.slice (some ⟨g, 0, none⟩) n c) n f :=
  .inr ⟨g, c, rfl, by omega, fun _ hi => h.cell hi⟩

theorem Sl.keep {w w' : World} {v : Value} {n : Nat} {f : Nat → Int} (h : Sl w v n f) (hg : w.grownBy w' none) : Sl w' v n f := by
  rcases h with h | ⟨g, c, hv, hn, h⟩
  · exact .inl h
  · exact .inr ⟨g, c, hv, hn, fun i hi => hg.cell (h i hi) (by simp)⟩
theorem Sl.ofOwns {w : World} {B g n cap : Nat} {f : Nat → Int} (h : Owns w B g n cap (fun i => .int .u64 (f i))) (hn : n ≤ 1000000) : Sl w (.slice (some ⟨g, 0, none⟩) n cap) n f :=
  .inr ⟨g, cap, rfl, by omega, fun _ hi => h.cell hi⟩

set_option maxHeartbeats 400000 in
theorem same_none (w : World) (a1 a2 : Option Addr) (c1 c2 : Nat) : Calls Try.prog 14 #[.slice a1 0 c1, .slice a2 0 c2] w fun e w' => e = .returned (.bool true) ∧ ∃ q, w' = w.drewN q := by
  go_enter Try.func14, Try.ntmps14
  go_wp2
  refine wp_loop_rounds 1 ?_
  rw [rounds_succ]
  go_wp2
  go_ret
  exact ⟨rfl, 0, rfl⟩

set_option maxHeartbeats 800000 in
theorem same_rows (w : World) (g1 c1 g2 c2 n : Nat) (f : Nat → Int) (hn : n ≤ 9223372036854775807) (h1 : ∀ i, i < n → w.cell? ⟨g1, i, none⟩ = some (.int .u64 (f i))) (h2 : ∀ i, i < n → w.cell? ⟨g2, i, none⟩ = some (.int .u64 (f i))) :
    Calls Try.prog 14 #[.slice (some ⟨g1, 0, none⟩) n c1, .slice (some ⟨g2, 0, none⟩) n c2] w fun e w' => e = .returned (.bool true) ∧ ∃ q, w' = w.drewN q := by
  go_enter Try.func14, Try.ntmps14
  go_wp2
  go_loopw [5] (fun i wr => ∃ k q : Nat, k ≤ n ∧ i = .int .i64 k ∧ wr = w.drewN q) (fun i _ => n - (intOf i).toNat)
  case atStart => exact ⟨0, 0, Nat.zero_le _, rfl, rfl⟩
  case round =>
    obtain ⟨k, q, hk, rfl, rfl⟩ := hrel
    by_cases hlt : k < n
    · have e1 := h1 k hlt
      have e2 := h2 k hlt
      go_wp2
      go_quiet (fail)
      go_wp2
      go_roundw
      case rel => exact ⟨k + 1, _, by omega, by go_num, rfl⟩
      case measure => simp [intOf]; omega
    · go_wp2
      go_ret
      exact ⟨rfl, q, rfl⟩

theorem same_sl (w : World) (v1 v2 : Value) (n : Nat) (f g : Nat → Int) (h1 : Sl w v1 n f) (h2 : Sl w v2 n g) (e : ∀ i, i < n → f i = g i) :
    Calls Try.prog 14 #[v1, v2] w fun e w' => e = .returned (.bool true) ∧ ∃ q, w' = w.drewN q := by
  rcases h1 with ⟨rfl, rfl⟩ | ⟨g1, c1, rfl, hn, h1⟩
  · rcases h2 with ⟨rfl, _⟩ | ⟨g2, c2, rfl, _, h2⟩
    · exact same_none w _ _ _ _
    · exact same_none w _ _ _ _
  · rcases h2 with ⟨rfl, rfl⟩ | ⟨g2, c2, rfl, _, h2⟩
    · exact same_none w _ _ _ _
    · exact same_rows w g1 c1 g2 c2 n g hn (fun i hi => by rw [h1 i hi, e i hi]) h2

end Y2
end Go.Proofs.Ytfdnangceomeiaa
