/-
  BOTH SIDES AT ONCE: the program's Tlb and memory, the document's, all of it new; an act in its block.
-/
import Derived.Test.YtmmjmloaefcmmaaRta
import Derived.Test.YtmmjmloaefcmmaaOpa
namespace Go.Proofs.Ytmmjmloaefcmmaa
set_option maxRecDepth 10000
open Go.RowKit
set_option linter.unusedVariables false

/-- Both Tlbs and both memories, all new since w0, apart from one another. -/
structure Wb (w0 w : World) (O R : Nat → Prop) (t x p b q c n : Nat) (F G : Nat → Nat) (L D : List K) : Prop where
  tp : Tp w0 w O t L
  tr : Tr w0 w R x D
  m : Mm w p b n F
  r : Rm w q c n G
  p0 : w0.heap.size ≤ p
  b0 : w0.heap.size ≤ b
  q0 : w0.heap.size ≤ q
  c0 : w0.heap.size ≤ c
  pc : p ≠ c
  bq : b ≠ q
  bc : b ≠ c
  oR : ∀ i, O i → ¬ R i
  nO : ¬ O p ∧ ¬ O b ∧ ¬ O q ∧ ¬ O c
  nR : ¬ R p ∧ ¬ R b ∧ ¬ R q ∧ ¬ R c
section
variable {w0 w w' : World} {O R : Nat → Prop} {t x p b q c n : Nat} {F G F' : Nat → Nat} {L D L' : List K}
theorem Wb.kept (h : Wb w0 w O R t x p b q c n F G L D) (g : w.grownBy w' none) : Wb w0 w' O R t x p b q c n F G L D :=
  ⟨h.tp.kept g, h.tr.kept g, h.m.kept g, h.r.kept g, h.p0, h.b0, h.q0, h.c0, h.pc, h.bq, h.bc, h.oR, h.nO, h.nR⟩
/-- A call of the program's Tlb. -/
theorem Wb.prog (h : Wb w0 w O R t x p b q c n F G L D) (T : Tp w0 w' (wide O w w') t L') (k : Fr O w w') : Wb w0 w' (wide O w w') R t x p b q c n F G L' D :=
  ⟨T, h.tr.fr k (fun i hi e => h.oR i e hi) (fun i hi => (h.tp.lo i hi).1), h.m.fr k h.nO.1 h.nO.2.1, h.r.fr k h.nO.2.2.1 h.nO.2.2.2, h.p0, h.b0, h.q0, h.c0, h.pc, h.bq, h.bc,
    fun i hi e => by
      rcases hi with hi | hi
      · exact h.oR i hi e
      · have := (h.tr.lo i e).2; omega,
    ⟨wideNo h.nO.1 h.m.plt, wideNo h.nO.2.1 h.m.blt, wideNo h.nO.2.2.1 h.r.plt, wideNo h.nO.2.2.2 h.r.blt⟩, h.nR⟩
/-- A call of the document's. -/
theorem Wb.doc (h : Wb w0 w O R t x p b q c n F G L D) (T : Tr w0 w' (wide R w w') x L') (k : Fr R w w') : Wb w0 w' O (wide R w w') t x p b q c n F G L L' :=
  ⟨h.tp.fr k h.oR (fun i hi => (h.tr.lo i hi).1), T, h.m.fr k h.nR.1 h.nR.2.1, h.r.fr k h.nR.2.2.1 h.nR.2.2.2, h.p0, h.b0, h.q0, h.c0, h.pc, h.bq, h.bc,
    fun i hi e => by
      rcases e with e | e
      · exact h.oR i hi e
      · have := (h.tp.lo i hi).2; omega,
    h.nO, ⟨wideNo h.nR.1 h.m.plt, wideNo h.nR.2.1 h.m.blt, wideNo h.nR.2.2.1 h.r.plt, wideNo h.nR.2.2.2 h.r.blt⟩⟩
theorem Wb.mput (h : Wb w0 w O R t x p b q c n F G L D) (m : Mm w' p b n F') (g : w.grownBy w' (some b)) : Wb w0 w' O R t x p b q c n F' G L D :=
  ⟨h.tp.keep g h.nO.2.1 h.b0, h.tr.keep g h.nR.2.1 h.b0, m, h.r.keep g (by simp; exact fun e => h.bq e.symm) (by simp; exact fun e => h.bc e.symm), h.p0, h.b0, h.q0, h.c0, h.pc, h.bq, h.bc, h.oR, h.nO, h.nR⟩
theorem Wb.rput (h : Wb w0 w O R t x p b q c n F G L D) (r : Rm w' q c n F') (g : w.grownBy w' (some c)) : Wb w0 w' O R t x p b q c n F F' L D :=
  ⟨h.tp.keep g h.nO.2.2.2 h.c0, h.tr.keep g h.nR.2.2.2 h.c0, h.m.keep g (by simp; exact h.pc) (by simp; exact h.bc), r, h.p0, h.b0, h.q0, h.c0, h.pc, h.bq, h.bc, h.oR, h.nO, h.nR⟩
end
/-- With an act in a block of its own. -/
structure We (w0 w : World) (O R : Nat → Prop) (t x p b q c n : Nat) (F G : Nat → Nat) (L D : List K) (y : Nat) (a : Q) : Prop where
  wb : Wb w0 w O R t x p b q c n F G L D
  ob : OBox w y a
  no : ¬ O y
  nr : ¬ R y
  nb : y ≠ b
  nc : y ≠ c
section
variable {w0 w w' : World} {O R : Nat → Prop} {t x p b q c n y : Nat} {F G F' : Nat → Nat} {L D L' : List K} {a : Q}
theorem We.kept (h : We w0 w O R t x p b q c n F G L D y a) (g : w.grownBy w' none) : We w0 w' O R t x p b q c n F G L D y a := ⟨h.wb.kept g, h.ob.kept g, h.no, h.nr, h.nb, h.nc⟩
theorem We.prog (h : We w0 w O R t x p b q c n F G L D y a) (T : Tp w0 w' (wide O w w') t L') (k : Fr O w w') : We w0 w' (wide O w w') R t x p b q c n F G L' D y a :=
  ⟨h.wb.prog T k, h.ob.fr k h.no, wideNo h.no h.ob.lt, h.nr, h.nb, h.nc⟩
theorem We.doc (h : We w0 w O R t x p b q c n F G L D y a) (T : Tr w0 w' (wide R w w') x L') (k : Fr R w w') : We w0 w' O (wide R w w') t x p b q c n F G L L' y a :=
  ⟨h.wb.doc T k, h.ob.fr k h.nr, h.no, wideNo h.nr h.ob.lt, h.nb, h.nc⟩
theorem We.mput (h : We w0 w O R t x p b q c n F G L D y a) (m : Mm w' p b n F') (g : w.grownBy w' (some b)) : We w0 w' O R t x p b q c n F' G L D y a :=
  ⟨h.wb.mput m g, h.ob.keep g h.nb, h.no, h.nr, h.nb, h.nc⟩
theorem We.rput (h : We w0 w O R t x p b q c n F G L D y a) (r : Rm w' q c n F') (g : w.grownBy w' (some c)) : We w0 w' O R t x p b q c n F F' L D y a :=
  ⟨h.wb.rput r g, h.ob.keep g h.nc, h.no, h.nr, h.nb, h.nc⟩
/-- The act's cells. -/
def Nine (w : World) (y : Nat) (a : Q) : Prop :=
  w.cell? ⟨y, 0, none⟩ = some (.int .i64 a.k) ∧ w.cell? ⟨y, 1, none⟩ = some (.int .i64 a.s) ∧ w.cell? ⟨y, 2, none⟩ = some (.int .i64 a.d) ∧ w.cell? ⟨y, 3, none⟩ = some (.int .i64 a.a) ∧ w.cell? ⟨y, 4, none⟩ = some (.bool a.w) ∧
  w.cell? ⟨y, 5, none⟩ = some (.bool a.e.v) ∧ w.cell? ⟨y, 6, none⟩ = some (.bool a.e.w) ∧ w.cell? ⟨y, 7, none⟩ = some (.int .i64 a.e.a) ∧ w.cell? ⟨y, 8, none⟩ = some (.int .u64 (a.v : Int))
theorem OBox.nine (h : OBox w y a) : Nine w y a := ⟨h.at0, h.at1, h.at2, h.at3, h.at4, h.at5, h.at6, h.at7, h.at8⟩
/-- The cells that a fill reads. -/
abbrev Fil (w : World) (y : Nat) (a : Q) : Prop :=
  w.cell? ⟨y, 1, none⟩ = some (.int .i64 a.s) ∧ w.cell? ⟨y, 3, none⟩ = some (.int .i64 a.a) ∧ w.cell? ⟨y, 5, none⟩ = some (.bool a.e.v) ∧ w.cell? ⟨y, 6, none⟩ = some (.bool a.e.w) ∧ w.cell? ⟨y, 7, none⟩ = some (.int .i64 a.e.a)
theorem OBox.fil (h : OBox w y a) : Fil w y a := ⟨h.at1, h.at3, h.at5, h.at6, h.at7⟩
/-- The cells that a put reads. -/
abbrev Ptt (w : World) (y : Nat) (a : Q) : Prop := w.cell? ⟨y, 3, none⟩ = some (.int .i64 a.a) ∧ w.cell? ⟨y, 8, none⟩ = some (.int .u64 (a.v : Int))
theorem OBox.ptt (h : OBox w y a) : Ptt w y a := ⟨h.at3, h.at8⟩
end

set_option maxHeartbeats 400000 in
theorem lawTo_any (v o : Bool) (a : Int) (w : World) : Calls Try.prog 13 #[ev ⟨v, o, a⟩] w fun e w' => e = .returned (ev ⟨v, o, a⟩) ∧ w.grownBy w' none := by
  have G0 := gbAlloc w (.cells #[.bool v, .bool o, .int .i64 a] 35) none
  have G1 := gbAllocN G0 (.cells #[.bool v, .bool o, .int .i64 a] 44)
  have G2 := gbAllocN G0 (.cells #[.bool false, .bool false, .int .i64 0] 44)
  go_enter Try.func13, Try.ntmps13
  go_wp2
  exact bodyPost_ret (v := ev ⟨v, o, a⟩) (by simp [results, Try.results13, go_sem]) rfl ⟨rfl, by repeat (first | with_reducible exact G1 | with_reducible exact G2 | refine gbSetNew ?_ _ _ _ (by simp))⟩
end Go.Proofs.Ytmmjmloaefcmmaa
