/-
  THE CONTRACT of package cap's Weaker.
-/
import Derived.Test.YtkpcdfiebjigbaaDrv3
namespace Go.Proofs.Ytkpcdfiebjigbaa
set_option maxRecDepth 10000
open Go.RowKit

end Go.Proofs.Ytkpcdfiebjigbaa
