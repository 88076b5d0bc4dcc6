/-
  THE CONTRACT of package cap's Of.
-/
import Derived.Test.YtkpcdfiebjigbaaWords
namespace Go.Proofs.Ytkpcdfiebjigbaa
set_option maxRecDepth 10000
open Go.RowKit

end Go.Proofs.Ytkpcdfiebjigbaa
