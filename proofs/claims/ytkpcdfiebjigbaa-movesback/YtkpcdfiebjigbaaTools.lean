/-
  FOR THE LAWS: what is refused changes nothing; the tree's answers; lists that the parts do not have; slot, works' numbers.
-/
import Derived.Test.YtkpcdfiebjigbaaAct5
namespace Go.Proofs.Ytkpcdfiebjigbaa
set_option maxRecDepth 10000
open Go.RowKit
set_option linter.unusedVariables false

namespace Cs
theorem parent {w0 w : World} {O : Nat → Prop} {p s t m : Nat} {S : St} {f : T9.Fo} (h : Cs w0 w O p s t m S f) (n i : Int) (hn : I64 n) (hi : I64 i) (on oa : Int) (ob : Bool) (e1 : T9.oN (f.parent (n, i)) = on) (e2 : T9.oA (f.parent (n, i)) = oa) (e3 : T9.oB (f.parent (n, i)) = ob) :
    Calls Try.prog 24 #[.pointer (some ⟨t, 0, none⟩), sv n i] w fun e w' => e = .returned (.tuple #[sv on oa, .bool ob]) ∧ w.grownBy w' none := by
  obtain ⟨OS, OT, h1, h2, _⟩ := h.ex
  exact T9.parent_is h2 n i hn hi on oa ob e1 e2 e3
theorem children {w0 w : World} {O : Nat → Prop} {p s t m : Nat} {S : St} {f : T9.Fo} (h : Cs w0 w O p s t m S f) (n i : Int) (hn : I64 n) (hi : I64 i) (hl : (f.children (n, i)).length ≤ 1000) :
    Calls Try.prog 25 #[.pointer (some ⟨t, 0, none⟩), sv n i] w fun e w' => ∃ v', e = .returned v' ∧ Lst w' w.heap.size v' (f.children (n, i)) ∧ w.grownBy w' none := by
  obtain ⟨OS, OT, h1, h2, _⟩ := h.ex
  exact T9.children_is h2 n i hn hi _ rfl hl
end Cs

namespace M
theorem pla_no {S : St} {f : T9.Fo} {a : Int × Int} {c : C} (h : plaE S a c ≠ 0) : plaS S a c = S ∧ plaF S f a c = f := by
  refine ⟨?_, by unfold plaF; rw [if_neg h]⟩
  unfold plaS putS; unfold plaE at h; rw [if_neg h]
theorem chi_no {S : St} {f : T9.Fo} {o a : Int × Int} {c : C} (h : chiE S o a c ≠ 0) : chiS S o a c = S ∧ chiF S f o a c = f := ⟨by unfold chiS; rw [if_neg h], by unfold chiF; rw [if_neg h]⟩
theorem min_no {S : St} {f : T9.Fo} {a b : Int × Int} {rt bd gd bt : Int} (h : minE S a b rt bd gd bt ≠ 0) : minS S a b rt bd gd bt = S ∧ minF S f a b rt bd gd bt = f := ⟨by unfold minS; rw [if_neg h], by unfold minF; rw [if_neg h]⟩
theorem cop_no {S : St} {f : T9.Fo} {a b : Int × Int} {rt : Int} (h : copE S a b rt ≠ 0) : copS S a b rt = S ∧ copF S f a b rt = f := min_no h
theorem mov_no {S : St} {f : T9.Fo} {a b : Int × Int} (h : endE S a b ≠ 0) : movS S a b = S ∧ movF S f a b = f := ⟨by unfold movS; rw [if_neg h], by unfold movF; rw [if_neg h]⟩
theorem mut_no {S : St} {f : T9.Fo} {a b : Int × Int} {gd bt : Int} (h : mutE S a b gd bt ≠ 0) : mutS S a b gd bt = S ∧ mutF S f a b gd bt = f := ⟨by unfold mutS; rw [if_neg h], by unfold mutF; rw [if_neg h]⟩
theorem rot_no {S : St} {f : T9.Fo} {d p a : Int × Int} (h : rotE S d p a ≠ 0) : rotS S d p a = S ∧ rotF S f d p a = f := ⟨by unfold rotS; rw [if_neg h], by unfold rotF; rw [if_neg h]⟩
end M

/-- A list that the parts do not have. -/
structure LB (wc : World) (Oc : Nat → Prop) (v : Value) (L : List (Int × Int)) : Prop where
  ls : Lst wc 0 v L
  no : ∀ g, v.ownBlock = some g → ¬ Oc g
theorem LB.kept {wc wd : World} {Oc : Nat → Prop} {v : Value} {L : List (Int × Int)} (h : LB wc Oc v L) (g : wc.grownBy wd none) : LB wd Oc v L := ⟨h.ls.kept g, h.no⟩
theorem LB.call {wc wd : World} {Oc : Nat → Prop} {v : Value} {L : List (Int × Int)} (h : LB wc Oc v L) (F : Fr Oc wc wd) : LB wd (wide Oc wc wd) v L :=
  ⟨h.ls.fr F h.no, fun g hg e => by
    rcases e with e | e
    · exact h.no g hg e
    · have := (h.ls.lt g hg).2; omega⟩
theorem LB.new {w0 wc wd : World} {Oc : Nat → Prop} {p s t m : Nat} {S : St} {f : T9.Fo} {v : Value} {L : List (Int × Int)} (h : Cs w0 wc Oc p s t m S f) (l : Lst wd wc.heap.size v L) : LB wd Oc v L :=
  ⟨l.zero, fun g hg e => by have := (h.lo g e).2; have := (l.lt g hg).1; omega⟩

set_option maxHeartbeats 400000 in
theorem slot_is (n : Int) (w : World) : Calls Try.prog 20 #[.int .i64 n] w fun e w' => e = .returned (sv 0 n) ∧ w.grownBy w' none := by
  go_enter Try.func20, Try.ntmps20
  go_wp2
  exact bodyPost_ret (v := sv 0 n) (by simp [results, Try.results20, go_sem]) rfl ⟨rfl, by
    repeat (first | with_reducible exact gbRefl _ _ | with_reducible refine gbAllocN ?_ _ | with_reducible refine gbSetNew ?_ _ _ _ (Nat.le_refl _))⟩
theorem Ptr.kept {w w' : World} {p j q : Nat} (h : Ptr w p j q) (g : w.grownBy w' none) : Ptr w' p j q := g.cell h (by simp)

/-! ### The numbers of works -/
namespace Wk
def c0 : C := ⟨4, 4, 7, 0, 0, 0⟩
def S0 : St := fun _ => none
def S1 : St := M.addS S0 0 3
def S2 : St := M.plaS S1 (0, 0) c0
def f2 : T9.Fo := M.plaF S1 .nil (0, 0) c0
def S3 : St := M.minS S2 (0, 0) (0, 1) 1 7 0 0
def f3 : T9.Fo := M.minF S2 f2 (0, 0) (0, 1) 1 7 0 0
def S4 : St := M.copS S3 (0, 1) (0, 2) 7
def f4 : T9.Fo := M.copF S3 f3 (0, 1) (0, 2) 7
def S5 : St := M.movS S4 (0, 0) (0, 3)
def f5 : T9.Fo := M.movF S4 f4 (0, 0) (0, 3)
theorem I1 : M.Inv S1 .nil := M.Inv.same M.Inv.none (fun x => M.gc_add _ _ _ x)
theorem I2 : M.Inv S2 f2 := I1.pla (0, 0) (by decide) (by decide)
theorem I3 : M.Inv S3 f3 := I2.min (0, 0) (0, 1) (by decide) (by decide)
theorem I4 : M.Inv S4 f4 := I3.cop (0, 1) (0, 2) 7
theorem I5 : M.Inv S5 f5 := I4.mov (0, 0) (0, 3)
theorem e1 : M.addE S0 0 3 = 0 := by decide +kernel
theorem e2 : M.plaE S1 (0, 0) ⟨4, 4, 7, 0, 0, 0⟩ = 0 := by decide +kernel
theorem e3 : M.minE S2 (0, 0) (0, 1) 1 7 0 0 = 0 := by decide +kernel
theorem e4 : M.copE S3 (0, 1) (0, 2) 7 = 0 := by decide +kernel
theorem e5 : M.endE S4 (0, 0) (0, 3) = 0 := by decide +kernel
theorem k4 : f4.kin (0, 0) = [(0, 1), (0, 2)] := by decide +kernel
theorem k5 : f5.kin (0, 3) = [(0, 1), (0, 2)] := by decide +kernel
theorem x5 : M.getC S5 0 2 = ⟨4, 4, 1, 7, 0, 0⟩ := by kernel_rfl
theorem y5 : M.getE S5 0 2 = 0 := by decide +kernel
theorem e6 : M.copE S5 (0, 0) (0, 4) 7 = 3 := by decide +kernel
theorem e7 : M.copE S5 (0, 1) (0, 2) 7 = 4 := by decide +kernel
theorem e8 : M.rotE S5 (0, 1) (0, 1) (0, 2) = 10 := by decide +kernel
theorem l1 : T9.Fo.len T9.Fo.nil ≤ 1000 := by decide +kernel
theorem l2 : f2.len ≤ 1000 := by decide +kernel
theorem l3 : f3.len ≤ 1000 := by decide +kernel
theorem l4 : f4.len ≤ 1000 := by decide +kernel
theorem l5 : f5.len ≤ 1000 := by decide +kernel
theorem n6 : M.copS S5 (0, 0) (0, 4) 7 = S5 ∧ M.copF S5 f5 (0, 0) (0, 4) 7 = f5 := M.cop_no (by rw [e6]; decide)
theorem n7 : M.copS S5 (0, 1) (0, 2) 7 = S5 ∧ M.copF S5 f5 (0, 1) (0, 2) 7 = f5 := M.cop_no (by rw [e7]; decide)
end Wk
theorem i64s (n : Int) (h : -1000 ≤ n) (k : n ≤ 1000) : I64 n := i64_of (by omega) (by omega)
end Go.Proofs.Ytkpcdfiebjigbaa
