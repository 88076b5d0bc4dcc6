/-
  WHAT BOTH SIDES BEGIN WITH, AND WHERE ADDRESSES LEAD: donjonref10's New; Radix and Count; moves' Find and Slot; donjonref08's Cap and Find upon the document's caps.
-/
import Derived.Test.YtdnoidnpiaadaaaGreatBth
import Derived.Test.YtdnoidnpiaadaaaGreatSRfnd
import Derived.Deep.RegionHeld3
namespace Go.Proofs.YtdnoidnpiaadaaaGreat
set_option maxRecDepth 10000
open Go.RowKit
set_option linter.unusedVariables false

theorem Cs.radix {w0 w : World} {O : Nat → Prop} {p s t m : Nat} {S : St} {f : T9.Fo} (h : Cs w0 w O p s t m S f) (id r : Int) (hid : I64 id) (hr : M.rad S id = r) :
    Calls Tryz.prog 9 #[.pointer (some ⟨s, 0, none⟩), .int .i64 id] w fun e w' => e = .returned (.int .i64 r) ∧ w.grownBy w' none := by
  obtain ⟨OS, OT, h1, _⟩ := h.ex
  exact radix_is h1 id r hid hr
theorem rcNew {w0 : World} (w : World) (g : w0.grownBy w none) : ∃ W, w.alloc (.cells #[.slice none 0 0, .slice none 0 0] 48) = W ∧ Rc w0 W (fun i => w.heap.size ≤ i ∧ i < W.heap.size) w.heap.size (fun _ => none) .nil ∧ w.grownBy W none := by
  have hb : (w.alloc (.cells #[.slice none 0 0, .slice none 0 0] 48)).heap[w.heap.size]? = some (.cells #[.slice none 0 0, .slice none 0 0] 48) := Deep.blk_alloc_new _ _
  have hs : (w.alloc (.cells #[.slice none 0 0, .slice none 0 0] 48)).heap.size = w.heap.size + 1 := by simp
  have g1 := gbAlloc w (.cells #[.slice none 0 0, .slice none 0 0] 48) none
  have h0 := g.size
  refine ⟨_, rfl, ⟨⟨.slice none 0 0, .slice none 0 0, fun i => i = w.heap.size, fun i => i = w.heap.size, ⟨.slice none 0 0, [], ⟨hb, World.ownsRow_nil _ _ _ 3, by simp, by simp, fun _ _ => rfl, by simp⟩, rfl, fun k hk => (nomatch hk), by simp⟩, ⟨.slice none 0 0, ⟨hb, T9.Lst3.nil _ _⟩, rfl, fun k hk => (nomatch hk)⟩, fun i h _ => h, fun i h => by omega, fun i h => by omega⟩, fun i h => by omega, gbTrans g g1, Good.none, T9.Good.nil⟩, g1⟩

set_option maxHeartbeats 400000 in
theorem newRc {w0 w : World} (g : w0.grownBy w none) : Calls Tryz.prog 6 #[] w fun e w' => ∃ q, e = .returned (.pointer (some ⟨q, 0, none⟩)) ∧ Rc w0 w' (fun i => w.heap.size ≤ i ∧ i < w'.heap.size) q (fun _ => none) .nil ∧ w.grownBy w' none := by
  obtain ⟨W, hW, A, g1⟩ := rcNew w g
  have HA := hideIt A
  have HG := hideIt g1
  clear A g1
  go_enter Tryz.func6, Tryz.ntmps6
  go_wp2
  go_ret
  exact ⟨_, rfl, HA.out, HG.out⟩

end Go.Proofs.YtdnoidnpiaadaaaGreat
