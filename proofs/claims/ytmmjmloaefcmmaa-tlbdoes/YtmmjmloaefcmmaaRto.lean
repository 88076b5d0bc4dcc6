/-
  THE CONTRACTS of the document's own To, Load and Store.
-/
import Derived.Test.YtmmjmloaefcmmaaRpg
namespace Go.Proofs.Ytmmjmloaefcmmaa
set_option maxRecDepth 10000
open Go.RowKit
set_option linter.unusedVariables false

set_option maxHeartbeats 400000 in
theorem from_any (v o : Bool) (a : Int) (w : World) : Calls Try.prog 23 #[ev ⟨v, o, a⟩] w fun e w' => e = .returned (ev ⟨v, o, a⟩) ∧ w.grownBy w' none := by
  have G0 := gbAlloc w (.cells #[.bool v, .bool o, .int .i64 a] 44) none
  have G1 := gbAllocN G0 (.cells #[.bool v, .bool o, .int .i64 a] 35)
  go_enter Try.func23, Try.ntmps23
  go_wp2
  exact bodyPost_ret (v := ev ⟨v, o, a⟩) (by simp [results, Try.results23, go_sem]) rfl ⟨rfl, G1⟩
end Go.Proofs.Ytmmjmloaefcmmaa
