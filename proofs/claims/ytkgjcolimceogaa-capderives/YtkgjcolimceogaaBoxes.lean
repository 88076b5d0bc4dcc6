/-
  THE BLOCKS of what comes in.
-/
import Derived.Test.YtkgjcolimceogaaWorks
import Derived.Test.YtkgjcolimceogaaArgs
namespace Go.Proofs.Ytkgjcolimceogaa
open Go.RowKit

theorem ABox.made (w : World) (r0 b0 g0 n0 : Int) : ABox (w.alloc (.cells #[.int .i64 r0, .int .u64 b0, .int .u64 g0, .int .i64 n0] 33)) w.heap.size r0 b0 g0 n0 :=
  ⟨by simp, by simp, by simp, by simp, by simp⟩
theorem alloc_size (w : World) (o : Obj) : (w.alloc o).heap.size = w.heap.size + 1 := by simp
theorem Box.at {w : World} {x y : Nat} {c : C} (h : Box w x c) (e : x = y) : Box w y c := e ▸ h
theorem ABox.at {w : World} {x y : Nat} {a b c d : Int} (h : ABox w x a b c d) (e : x = y) : ABox w y a b c d := e ▸ h

theorem boxesCAA (w : World) (c : C) (r0 b0 g0 n0 r1 b1 g1 n1 : Int) : ∃ W, ((w.alloc (.cells #[.int .i64 c.k, .int .i64 c.o, .int .i64 c.r, .int .u64 c.b, .int .u64 c.g, .int .i64 c.n] 24)).alloc (.cells #[.int .i64 r0, .int .u64 b0, .int .u64 g0, .int .i64 n0] 33)).alloc (.cells #[.int .i64 r1, .int .u64 b1, .int .u64 g1, .int .i64 n1] 33) = W ∧
    Box W w.heap.size c ∧ ABox W (w.heap.size + 1) r0 b0 g0 n0 ∧ ABox W (w.heap.size + 1 + 1) r1 b1 g1 n1 ∧ w.grownBy W none :=
  ⟨_, rfl, ((Box.made w c).kept (gbAlloc _ _ _)).kept (gbAlloc _ _ _), ((ABox.made _ r0 b0 g0 n0).kept (gbAlloc _ _ _)).at (by simp), (ABox.made _ r1 b1 g1 n1).at (by simp), gbAllocN (gbAllocN (gbAlloc _ _ _) _) _⟩
theorem boxesCCA (w : World) (c d : C) (r1 b1 g1 n1 : Int) : ∃ W, ((w.alloc (.cells #[.int .i64 c.k, .int .i64 c.o, .int .i64 c.r, .int .u64 c.b, .int .u64 c.g, .int .i64 c.n] 24)).alloc (.cells #[.int .i64 d.k, .int .i64 d.o, .int .i64 d.r, .int .u64 d.b, .int .u64 d.g, .int .i64 d.n] 24)).alloc (.cells #[.int .i64 r1, .int .u64 b1, .int .u64 g1, .int .i64 n1] 33) = W ∧
    Box W w.heap.size c ∧ Box W (w.heap.size + 1) d ∧ ABox W (w.heap.size + 1 + 1) r1 b1 g1 n1 ∧ w.grownBy W none :=
  ⟨_, rfl, ((Box.made w c).kept (gbAlloc _ _ _)).kept (gbAlloc _ _ _), ((Box.made _ d).kept (gbAlloc _ _ _)).at (by simp), (ABox.made _ r1 b1 g1 n1).at (by simp), gbAllocN (gbAllocN (gbAlloc _ _ _) _) _⟩
theorem boxesCCC (w : World) (c d e : C) : ∃ W, ((w.alloc (.cells #[.int .i64 c.k, .int .i64 c.o, .int .i64 c.r, .int .u64 c.b, .int .u64 c.g, .int .i64 c.n] 24)).alloc (.cells #[.int .i64 d.k, .int .i64 d.o, .int .i64 d.r, .int .u64 d.b, .int .u64 d.g, .int .i64 d.n] 24)).alloc (.cells #[.int .i64 e.k, .int .i64 e.o, .int .i64 e.r, .int .u64 e.b, .int .u64 e.g, .int .i64 e.n] 24) = W ∧
    Box W w.heap.size c ∧ Box W (w.heap.size + 1) d ∧ Box W (w.heap.size + 1 + 1) e ∧ w.grownBy W none :=
  ⟨_, rfl, boxes3 w c d e _ rfl⟩
end Go.Proofs.Ytkgjcolimceogaa
