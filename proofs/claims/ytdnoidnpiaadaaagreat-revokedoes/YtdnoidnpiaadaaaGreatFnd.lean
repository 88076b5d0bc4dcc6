/-
  THE CONTRACTS of package guard: Find, Cap (written by mkfnd.py).
-/
import Derived.Test.YtdnoidnpiaadaaaGreatG23
namespace Go.Proofs.YtdnoidnpiaadaaaGreat
set_option maxRecDepth 10000
open Go.RowKit
set_option linter.unusedVariables false

namespace M
/-- Cap: the node, the slot's number, the capability, the error. -/
def cpOf (S : St) (x : Int × Int × Int × Int) : Int × Int × C × Int := if x.2.2.2 = 0 then (if (getC S x.1 x.2.1).k = 0 then (0, 0, C.zero, 3) else (x.1, x.2.1, getC S x.1 x.2.1, 0)) else (0, 0, C.zero, x.2.2.2)
def cp (S : St) (c : C) (p : Nat) : Int × Int × C × Int := cpOf S (rs S c p 16)
end M
end Go.Proofs.YtdnoidnpiaadaaaGreat
