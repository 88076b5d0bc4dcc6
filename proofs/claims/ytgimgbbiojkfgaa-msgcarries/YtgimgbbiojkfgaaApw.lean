/-
  A LIST OF WORDS APPENDED ONTO AN EMPTY LIST, however long it is (each argument's bytes are bounded by the form's own reach); the step inside a region that draws its order.
-/
import Derived.Test.YtgimgbbiojkfgaaTwc
import Derived.Deep.DeepAppendWide
import Derived.SizedLaws
namespace Go.Proofs.Ytgimgbbiojkfgaa
set_option maxRecDepth 10000
open Go.ChangeShapes Go.WideShapes Go.ChangeAt Go.RowKit
set_option linter.unusedVariables false

/-- An empty list's block. -/
def Emp (w : World) (g : Nat) : Prop := w.heap[g]? = some (.cells #[] 22 (0, 0))
theorem Emp.new (w : World) : Emp (w.alloc (.cells #[] 22)) w.heap.size := heap_alloc_new w _
theorem Emp.two (w : World) (o : Obj) : Emp ((w.alloc o).alloc (.cells #[] 22)) (w.heap.size + 1) := by
  have := Emp.new (w.alloc o)
  rwa [show (w.alloc o).heap.size = w.heap.size + 1 by simp] at this
theorem Emp.lt {w : World} {g : Nat} (h : Emp w g) : g < w.heap.size := (Array.getElem?_eq_some_iff.1 h).1
theorem Emp.kept {w w' : World} {g : Nat} (h : Emp w g) (k : w.grownBy w' none) : Emp w' g := (k.block g h.lt (by simp)).trans h
theorem Emp.drew {w : World} {g : Nat} (h : Emp w g) : Emp w.drew g := h
theorem Emp.alloc {w : World} {g : Nat} (h : Emp w g) (o : Obj) : Emp (w.alloc o) g := h.kept (gbAlloc _ _ _)

theorem run_append_words (w : World) (ty : TypeId) (g : Nat) (E : Emp w g) (x : Option Addr) (len cap : Nat) (V : Nat → Nat) (L : Wl w x len V) (hz : len * 8 ≤ reachBytes) :
    ∃ x' cap' w', (Builtin.append_ #[35, 35] ty #[.slice (some ⟨g, 0, none⟩) 0 0, .slice x len cap]).run Try.prog w = .ok (.slice x' len cap') w' ∧ Wl w' x' len V ∧ w.grownBy w' (some g) := by
  obtain ⟨i, hi⟩ : ∃ i, Try.prog.info? 22 = some i := Option.isSome_iff_exists.1 (by kernel_rfl)
  have h1 : (Try.prog.info? 22).map (fun i => (i.zero, i.size, i.bytes)) = some (some (.int .u64 0), 1, 8) := by kernel_rfl
  rw [hi] at h1
  simp only [Option.map_some, Option.some.injEq, Prod.mk.injEq] at h1
  obtain ⟨hz0, hz1, hz2⟩ := h1
  have hr : reachBytes < 140737488355328 := reachBytes_lt
  cases x with
  | none =>
    have l0 : len = 0 := by
      cases len with
      | zero => rfl
      | succ n => obtain ⟨y, e, _⟩ := L 0 (by omega); simp at e
    subst l0
    refine ⟨some ⟨g, 0, none⟩, 0, w, ?_, fun i hi => by omega, gbRefl _ _⟩
    simp [Builtin.append_, run_underlying Try.underlying35, sizeOf, typeInfo, hi, Builtin.lenOf, Builtin.firstCells, storeCells]
  | some y =>
    have own : w.ownsRow 0 22 1 (.slice (some ⟨g, 0, none⟩) 0 0) 0 [] := ⟨rfl, .inr ⟨g, 0, #[], rfl, Nat.zero_le _, E, Nat.le_refl _, Nat.zero_le _, rfl, rfl⟩⟩
    obtain ⟨v', w', hrun, hown, hg, hn⟩ := run_append_own_wide (P := Try.prog) w 0 35 ty 22 i (.int .u64 0) 1 8 Try.underlying35 hi hz0 hz1 hz2 rfl (by decide) (.slice (some ⟨g, 0, none⟩) 0 0) 0 [] own
      y len cap ((List.range len).map (fun j => Value.int .u64 (V j : Int))) (by simp)
      (by
        intro j u hu
        simp only [List.getElem?_map, Option.map_eq_some_iff] at hu
        obtain ⟨l, hl, rfl⟩ := hu
        obtain ⟨hl1, rfl⟩ := List.getElem?_eq_some_iff.1 hl
        simp at hl1
        obtain ⟨y', e, hy, _⟩ := L j hl1
        obtain rfl : y = y' := by simpa using e
        simpa using hy)
      (by intro v hv; obtain ⟨j, _, rfl⟩ := List.mem_map.1 hv; rfl) (by unfold maxLen; omega) (by omega) (Nat.zero_le _)
    rw [Nat.zero_add, List.nil_append] at hown
    rcases hown.2 with ⟨rfl, _⟩ | ⟨g', cap', _, rfl, _⟩
    · simp at hn
    · refine ⟨some ⟨g', 0, none⟩, cap', w', hrun, fun i hi => ⟨_, rfl, ?_, (L i hi).choose_spec.2.2⟩, hg⟩
      exact World.ownsRow.cells hown (g := g') rfl i _ (by simp [hi])

/-- append inside a region that draws its order. -/
theorem step_append_words {ops : Array Oper} {o : Oper} {a : Act} {w : World} {K : Act → World → Prop} {Q : Exit → Act → World → Prop} {F : Prop} (hw : Region.wanted o (yielded ops a.tmps) = true) (s x : Operand)
    (ho : o.op = .call { callee := .builtin .append, args := #[s, x], argTypes := #[35, 35] }) (g : Nat) (hs : a.eval s = .slice (some ⟨g, 0, none⟩) 0 0) (E : Emp w g)
    (y : Option Addr) (len cap : Nat) (hx : a.eval x = .slice y len cap) (V : Nat → Nat) (L : Wl w y len V) (hz : len * 8 ≤ reachBytes)
    (h : ∀ x' cap' w', Wl w' x' len V → w.grownBy w' (some g) → K (a.put o.dst (.slice x' len cap')) w') :
    if Region.wanted o (yielded ops a.tmps) = true then Oper.wp Try.prog o a w K Q else F := by
  rw [if_pos hw]
  obtain ⟨x', cap', w', hr, h1, h2⟩ := run_append_words w o.type g E y len cap V L hz
  unfold Oper.wp execOp
  simp only [ho, resolve, invoke, builtin, Sem.run_bind, Sem.run_pure, Result.andThen_ok, List.map_toArray, List.map_cons, List.map_nil, hs, hx, hr]
  exact h x' cap' w' h1 h2

theorem gcellR {W w1 : World} {g : Nat} (h : W.grownBy w1 (some g)) (b o : Nat) (hg : ¬ b = g) (hb : b < W.heap.size) : w1.cell? ⟨b, o, none⟩ = W.cell? ⟨b, o, none⟩ :=
  World.cell?_of_block (h.block b hb (by simpa using hg))
theorem gfrozR {W w1 : World} {g : Nat} (h : W.grownBy w1 (some g)) (b o : Nat) (hg : ¬ b = g) (hb : b < W.heap.size) : w1.frozen? ⟨b, o, none⟩ = W.frozen? ⟨b, o, none⟩ := gbFrozen h hb (by simpa using hg)

theorem RA.madeAt (w : World) (n : Nat) (h : w.heap.size = n) (t : TypeId) : RA (w.alloc (.cells #[.int .u64 0, .int .u64 0, .int .u64 0, .int .u64 0, .int .u64 0, .int .u64 0, .int .u64 0, .int .u64 0] t)) n t nil8 :=
  h ▸ RA.made w nil8 t

/-- The bytes of a list of words that was handed in. -/
theorem wordsSized {H : Type} {enc : TypeId × Value → H} {W : World} {base : Nat} {spare : Nat → Bool} {held : Bool} {ts : List TypeId} {ds : List (DataW H)} {j : Nat} {a : Option Addr} {len cap : Nat} {d : DataW H} {p : List MemPlace}
    (hz : (DataW.weightsEach Try.prog ts ds).all (· ≤ reachBytes) = true) (ht : ts[j]? = some 35) (hd : ds[j]? = some d)
    (h : DataW.Trod enc Try.prog W base spare held 35 (.slice a len cap) d p) : len * 8 ≤ reachBytes := by
  obtain ⟨fuel, hf'⟩ := h
  have hf : DataW.trod enc Try.prog W base spare held fuel 35 [.slice a len cap] = some (d, p) := hf'
  rcases Deep.open_slice Try.underlying35 hf with ⟨hcs, _⟩ | ⟨y, l, c, m, n, D, Pl, hcs, _, hl, _, hm, hx, _⟩
  · simp at hcs
    rw [hcs.2.1]; exact Nat.zero_le _
  · simp at hcs
    obtain ⟨rfl, rfl, rfl⟩ := hcs
    simp only [Prod.mk.injEq] at hx
    rw [hx.1] at hd
    have := sized_slice hz ht hd Try.underlying35
    have e : Try.prog.bytesOf 22 = 8 := by kernel_rfl
    rw [e] at this
    simp only [List.length_map, List.length_range] at this
    exact Nat.le_trans (Nat.mul_le_mul_right 8 (Nat.le_add_right _ _)) this
end Go.Proofs.Ytgimgbbiojkfgaa
