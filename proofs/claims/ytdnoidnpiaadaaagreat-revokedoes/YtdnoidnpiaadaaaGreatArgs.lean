/-
  WHAT COMES IN: a list of acts (donjonlaw10's Op, eighteen numbers), a capability, a list of numbers (written by mkargs.py).
-/
import Derived.Test.YtdnoidnpiaadaaaGreatG21
import Derived.Lib.SmallJoins
import Derived.Deep.Slices
import Derived.OpenShut
namespace Go.Proofs.YtdnoidnpiaadaaaGreat
set_option maxRecDepth 10000
open Go.ChangeShapes Go.WideShapes Go.ChangeAt Go.RowKit
set_option linter.unusedVariables false

theorem add_pos (y : Addr) (j : Nat) (h : j ≠ 0) : y.add j = ⟨y.block, y.off + j, none⟩ := by unfold Addr.add; rw [if_neg h]
theorem u64_lo {a : Int} (h : (Lit.int .u64 a).wf = true) : 0 ≤ a := by
  unfold Lit.wf at h
  rw [Bool.and_eq_true, decide_eq_true_eq, decide_eq_true_eq] at h
  have e1 : IntKind.u64.min = 0 := by decide
  rw [e1] at h
  omega

/-- An act's numbers. -/
structure Q where
  k : Int
  a : Int
  a2 : Int
  b : Int
  b2 : Int
  d : Int
  d2 : Int
  c : C
  n : Int
  rt : Int
  bd : Int
  gd : Int
  bt : Int
/-- An act in memory, from an address on. -/
structure El18 (w : World) (y : Addr) (q : Q) : Prop where
  at0 : w.cell? y = some (.int .i64 q.k)
  at1 : w.cell? ⟨y.block, y.off + 1, none⟩ = some (.int .i64 q.a)
  at2 : w.cell? ⟨y.block, y.off + 2, none⟩ = some (.int .i64 q.a2)
  at3 : w.cell? ⟨y.block, y.off + 3, none⟩ = some (.int .i64 q.b)
  at4 : w.cell? ⟨y.block, y.off + 4, none⟩ = some (.int .i64 q.b2)
  at5 : w.cell? ⟨y.block, y.off + 5, none⟩ = some (.int .i64 q.d)
  at6 : w.cell? ⟨y.block, y.off + 6, none⟩ = some (.int .i64 q.d2)
  at7 : w.cell? ⟨y.block, y.off + 7, none⟩ = some (.int .i64 q.c.k)
  at8 : w.cell? ⟨y.block, y.off + 8, none⟩ = some (.int .i64 q.c.o)
  at9 : w.cell? ⟨y.block, y.off + 9, none⟩ = some (.int .i64 q.c.r)
  at10 : w.cell? ⟨y.block, y.off + 10, none⟩ = some (.int .u64 q.c.b)
  at11 : w.cell? ⟨y.block, y.off + 11, none⟩ = some (.int .u64 q.c.g)
  at12 : w.cell? ⟨y.block, y.off + 12, none⟩ = some (.int .i64 q.c.n)
  at13 : w.cell? ⟨y.block, y.off + 13, none⟩ = some (.int .i64 q.n)
  at14 : w.cell? ⟨y.block, y.off + 14, none⟩ = some (.int .i64 q.rt)
  at15 : w.cell? ⟨y.block, y.off + 15, none⟩ = some (.int .u64 q.bd)
  at16 : w.cell? ⟨y.block, y.off + 16, none⟩ = some (.int .u64 q.gd)
  at17 : w.cell? ⟨y.block, y.off + 17, none⟩ = some (.int .i64 q.bt)
/-- Its numbers are numbers of their types. -/
structure Op18 (q : Q) : Prop where
  k : I64 q.k
  a : I64 q.a
  a2 : I64 q.a2
  b : I64 q.b
  b2 : I64 q.b2
  d : I64 q.d
  d2 : I64 q.d2
  n : I64 q.n
  cb : 0 ≤ q.c.b
  cg : 0 ≤ q.c.g
  bd : 0 ≤ q.bd
  gd : 0 ≤ q.gd
theorem El18.kept {w w' : World} {y : Addr} {q : Q} (h : El18 w y q) (g : w.grownBy w' none) : El18 w' y q :=
  ⟨g.cell h.at0 (by simp), g.cell h.at1 (by simp), g.cell h.at2 (by simp), g.cell h.at3 (by simp), g.cell h.at4 (by simp), g.cell h.at5 (by simp), g.cell h.at6 (by simp), g.cell h.at7 (by simp), g.cell h.at8 (by simp), g.cell h.at9 (by simp), g.cell h.at10 (by simp), g.cell h.at11 (by simp), g.cell h.at12 (by simp), g.cell h.at13 (by simp), g.cell h.at14 (by simp), g.cell h.at15 (by simp), g.cell h.at16 (by simp), g.cell h.at17 (by simp)⟩
/-- An act in a block of its own. -/
structure OBox (w : World) (x : Nat) (q : Q) : Prop where
  at0 : w.cell? ⟨x, 0, none⟩ = some (.int .i64 q.k)
  at1 : w.cell? ⟨x, 1, none⟩ = some (.int .i64 q.a)
  at2 : w.cell? ⟨x, 2, none⟩ = some (.int .i64 q.a2)
  at3 : w.cell? ⟨x, 3, none⟩ = some (.int .i64 q.b)
  at4 : w.cell? ⟨x, 4, none⟩ = some (.int .i64 q.b2)
  at5 : w.cell? ⟨x, 5, none⟩ = some (.int .i64 q.d)
  at6 : w.cell? ⟨x, 6, none⟩ = some (.int .i64 q.d2)
  at7 : w.cell? ⟨x, 7, none⟩ = some (.int .i64 q.c.k)
  at8 : w.cell? ⟨x, 8, none⟩ = some (.int .i64 q.c.o)
  at9 : w.cell? ⟨x, 9, none⟩ = some (.int .i64 q.c.r)
  at10 : w.cell? ⟨x, 10, none⟩ = some (.int .u64 q.c.b)
  at11 : w.cell? ⟨x, 11, none⟩ = some (.int .u64 q.c.g)
  at12 : w.cell? ⟨x, 12, none⟩ = some (.int .i64 q.c.n)
  at13 : w.cell? ⟨x, 13, none⟩ = some (.int .i64 q.n)
  at14 : w.cell? ⟨x, 14, none⟩ = some (.int .i64 q.rt)
  at15 : w.cell? ⟨x, 15, none⟩ = some (.int .u64 q.bd)
  at16 : w.cell? ⟨x, 16, none⟩ = some (.int .u64 q.gd)
  at17 : w.cell? ⟨x, 17, none⟩ = some (.int .i64 q.bt)
  lt : x < w.heap.size
theorem OBox.kept {w w' : World} {x : Nat} {q : Q} (h : OBox w x q) (g : w.grownBy w' none) : OBox w' x q :=
  ⟨g.cell h.at0 (by simp), g.cell h.at1 (by simp), g.cell h.at2 (by simp), g.cell h.at3 (by simp), g.cell h.at4 (by simp), g.cell h.at5 (by simp), g.cell h.at6 (by simp), g.cell h.at7 (by simp), g.cell h.at8 (by simp), g.cell h.at9 (by simp), g.cell h.at10 (by simp), g.cell h.at11 (by simp), g.cell h.at12 (by simp), g.cell h.at13 (by simp), g.cell h.at14 (by simp), g.cell h.at15 (by simp), g.cell h.at16 (by simp), g.cell h.at17 (by simp), Nat.lt_of_lt_of_le h.lt g.size⟩
theorem Fr.obox {O : Nat → Prop} {w w' : World} {x : Nat} {q : Q} (g : Fr O w w') (h : OBox w x q) (ho : ¬ O x) : OBox w' x q :=
  ⟨g.cell h.at0 ho, g.cell h.at1 ho, g.cell h.at2 ho, g.cell h.at3 ho, g.cell h.at4 ho, g.cell h.at5 ho, g.cell h.at6 ho, g.cell h.at7 ho, g.cell h.at8 ho, g.cell h.at9 ho, g.cell h.at10 ho, g.cell h.at11 ho, g.cell h.at12 ho, g.cell h.at13 ho, g.cell h.at14 ho, g.cell h.at15 ho, g.cell h.at16 ho, g.cell h.at17 ho, Nat.lt_of_lt_of_le h.lt g.size⟩
theorem oboxNew (w : World) (q : Q) : ∃ W, w.alloc (.cells #[.int .i64 q.k, .int .i64 q.a, .int .i64 q.a2, .int .i64 q.b, .int .i64 q.b2, .int .i64 q.d, .int .i64 q.d2, .int .i64 q.c.k, .int .i64 q.c.o, .int .i64 q.c.r, .int .u64 q.c.b, .int .u64 q.c.g, .int .i64 q.c.n, .int .i64 q.n, .int .i64 q.rt, .int .u64 q.bd, .int .u64 q.gd, .int .i64 q.bt] 33) = W ∧ OBox W w.heap.size q ∧ w.grownBy W none :=
  ⟨_, rfl, ⟨by simp, by simp, by simp, by simp, by simp, by simp, by simp, by simp, by simp, by simp, by simp, by simp, by simp, by simp, by simp, by simp, by simp, by simp, by simp⟩, gbAlloc _ _ _⟩
/-- An act that the parts do not have. -/
structure OB (wc : World) (Oc : Nat → Prop) (x : Nat) (q : Q) : Prop where
  ob : OBox wc x q
  no : ¬ Oc x
theorem OB.kept {wc wd : World} {Oc : Nat → Prop} {x : Nat} {q : Q} (h : OB wc Oc x q) (g : wc.grownBy wd none) : OB wd Oc x q := ⟨h.ob.kept g, h.no⟩
theorem OB.call {wc wd : World} {Oc : Nat → Prop} {x : Nat} {q : Q} (h : OB wc Oc x q) (F : Fr Oc wc wd) : OB wd (wide Oc wc wd) x q := ⟨F.obox h.ob h.no, wideNo h.no h.ob.lt⟩

end Go.Proofs.YtdnoidnpiaadaaaGreat
