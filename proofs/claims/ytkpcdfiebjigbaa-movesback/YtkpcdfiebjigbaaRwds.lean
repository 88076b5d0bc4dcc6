/-
  THE DOCUMENT'S SIDE (donjonref05): Words, Of.
-/
import Derived.Test.YtkpcdfiebjigbaaRchk
namespace Go.Proofs.Ytkpcdfiebjigbaa
set_option maxRecDepth 10000
open Go.RowKit

theorem boxesCC (w : World) (c d : C) : ∃ W, (w.alloc (.cells #[.int .i64 c.k, .int .i64 c.o, .int .i64 c.r, .int .u64 c.b, .int .u64 c.g, .int .i64 c.n] 32)).alloc (.cells #[.int .i64 d.k, .int .i64 d.o, .int .i64 d.r, .int .u64 d.b, .int .u64 d.g, .int .i64 d.n] 32) = W ∧ Box W w.heap.size c ∧ Box W (w.heap.size + 1) d ∧ w.grownBy W none :=
  ⟨_, rfl, boxes2 w c d _ rfl⟩

end Go.Proofs.Ytkpcdfiebjigbaa
