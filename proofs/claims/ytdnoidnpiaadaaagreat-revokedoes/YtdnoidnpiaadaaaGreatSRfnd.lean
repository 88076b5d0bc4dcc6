/-
  THE CONTRACTS of donjonref08: Find, Cap (written by mkfnd.py).
-/
import Derived.Test.YtdnoidnpiaadaaaGreatSRres
namespace Go.Proofs.YtdnoidnpiaadaaaGreat
open Go.RowKit
set_option linter.unusedVariables false
set_option maxRecDepth 10000
variable {u : Value}

end Go.Proofs.YtdnoidnpiaadaaaGreat
