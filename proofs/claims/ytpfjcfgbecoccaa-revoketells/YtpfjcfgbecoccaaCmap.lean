/-
  A MAP FROM SLOTS' NAMES TO CAPABILITIES (the law's own): what lies in it, as a plain function. Speaks of no function of the program.
-/
import Derived.Test.YtpfjcfgbecoccaaRnd
import Derived.DeepKeys4
import Derived.Maps.AppendAt
namespace Go.Proofs.Ytpfjcfgbecoccaa
open Go.RowKit Go.Maps
set_option linter.unusedVariables false

def capD (c : C) : DataW Unit := .agg [.lit (.int .i64 c.k), .lit (.int .i64 c.o), .lit (.int .i64 c.r), .lit (.int .u64 c.b), .lit (.int .u64 c.g), .lit (.int .i64 c.n)]
/-- How a capability reads. -/
def capElem (v : Value) : Option (DataW Unit × List MemPlace) :=
  match v with
  | .agg ⟨[.int .i64 k, .int .i64 o, .int .i64 r, .int .u64 b, .int .u64 g, .int .i64 n]⟩ => some (capD ⟨k, o, r, b, g, n⟩, [])
  | _ => none
theorem capElem_cv (c : C) : capElem (cv c) = some (capD c, []) := rfl
theorem capD_inj {c d : C} (h : capD c = capD d) : c = d := by
  obtain ⟨k, o, r, b, g, n⟩ := c
  obtain ⟨k', o', r', b', g', n'⟩ := d
  simp [capD] at h
  simp [h]
theorem capElem_inv {v : Value} {c : C} {ps : List MemPlace} (h : capElem v = some (capD c, ps)) : v = cv c := by
  unfold capElem at h
  split at h
  · simp only [Option.some.injEq, Prod.mk.injEq] at h
    rw [← capD_inj h.1]
  · cases h

theorem Try.laidOut7 : laidOutB Try.prog = true := by kernel_rfl
theorem Try.keySlot : Keyed Try.prog 24 := Keyed.of_law (deep_law_laid Try.laidOut7 (m := 2) (by omega) (of_decide_eq_true (by kernel_rfl)) (by kernel_rfl) (by kernel_rfl))

/-- A slot's name as a key. -/
def kl (n i : Int) : Lit := .string (keyBytes [.int .i64 n, .int .i64 i])
theorem keyLits_one {P : Program} {e : TypeId} (he : P.underlying e = some (.int .i64)) (d : Nat) (n : Int) (hn : (Lit.int IntKind.i64 n).wf = true) : P.keyLits (d + 1) e [.int .i64 n] = some [.int .i64 n] := by
  simp [Program.keyLits, he, hn]
theorem keyLits_two {P : Program} {k e : TypeId} (f0 f1 : Field) (hu : P.underlying k = some (.struct #[f0, f1])) (t0 : f0.type = e) (t1 : f1.type = e) (o0 : f0.offset = 0) (o1 : f1.offset = 1) (hnm : (#[f0, f1] : Array Field).all (·.name != "_") = true)
    (hc : P.cellsOf k = 2) (he : P.underlying e = some (.int .i64)) (hce : P.cellsOf e = 1) (d : Nat) (n i : Int) (hn : (Lit.int IntKind.i64 n).wf = true) (hi : (Lit.int IntKind.i64 i).wf = true) :
    P.keyLits (d + 1 + 1) k [.int .i64 n, .int .i64 i] = some [.int .i64 n, .int .i64 i] := by
  have e0 := keyLits_one he d n hn
  have e1 := keyLits_one he d i hi
  unfold Program.keyLits
  rw [hu]
  dsimp only
  rw [if_pos ⟨by rw [hc]; rfl, hnm⟩]
  simp [t0, t1, o0, o1, hce, e0, e1]
theorem keyOf_slot {n i : Int} (hn : I64 n) (hi : I64 i) : keyOf Try.prog 24 (sv n i) = some (kl n i) := by
  have h1 : Try.prog.keyType 24 = true := by kernel_rfl
  have h2 : Try.prog.cellsOf 24 = 2 := by kernel_rfl
  have h3 : Try.prog.cellsOf 3 = 1 := by kernel_rfl
  obtain ⟨m, hm⟩ : ∃ m, Try.prog.types.size + 1 = m + 1 + 1 := ⟨Try.prog.types.size - 1, by have : 1 ≤ Try.prog.types.size := of_decide_eq_true (by kernel_rfl); omega⟩
  have hk := keyLits_two _ _ Try.underlying24 rfl rfl rfl rfl (by decide +kernel) h2 Try.underlying3 h3 m n i hn hi
  have hf : (sv n i).formed Try.prog 24 = true := by simp [Value.formed, Try.underlying24, h2]
  unfold keyOf
  rw [Try.underlying24]
  simp only [h1, hf, Bool.and_self, if_true, hm]
  show (Try.prog.keyLits (m + 1 + 1) 24 [.int .i64 n, .int .i64 i]).map _ = _
  rw [hk]
  rfl
theorem kl_inj {n i n' i' : Int} (hn : I64 n) (hi : I64 i) (hn' : I64 n') (hi' : I64 i') (h : kl n i = kl n' i') : n = n' ∧ i = i' := by
  have := Try.keySlot.inj (keyOf_slot hn hi) (h ▸ keyOf_slot hn' hi')
  simpa [sv] using this
theorem kl_key {n i : Int} (hn : I64 n) (hi : I64 i) : WideAt.IsKeyLit (kl n i) := Try.keySlot.key (keyOf_slot hn hi)

/-- What lies in such a map. -/
def CMap (w : World) (b m : Nat) (F : Int → Int → Option C) : Prop :=
  ∃ D : DataW Unit, w.ownsMap Try.prog 24 capElem b m D ∧ ∀ n i, I64 n → I64 i → Maps.has D (kl n i) = (F n i).isSome ∧ D.atKey (kl n i) (capD C.zero) = capD ((F n i).getD C.zero)

theorem CMap.lt {w : World} {b m : Nat} {F : Int → Int → Option C} (h : CMap w b m F) : b < w.heap.size := by obtain ⟨D, h, _⟩ := h; exact h.lt
theorem CMap.fr {O : Nat → Prop} {w w' : World} {b m : Nat} {F : Int → Int → Option C} (h : CMap w b m F) (k : Fr O w w') (ho : ¬ O b) : CMap w' b m F := by
  have hlt := h.lt
  obtain ⟨D, ⟨es, clock, hb, F, hs, hD⟩, h2⟩ := h
  exact ⟨D, ⟨es, clock, (k.block b hlt ho).trans hb, F, hs, hD⟩, h2⟩
theorem CMap.made (w : World) : CMap (w.alloc (.map #[] 0)) w.heap.size 0 (fun _ _ => none) :=
  ⟨.map [], World.ownsMap_made _ _ _ _, fun _ _ _ _ => ⟨rfl, rfl⟩⟩
theorem zeroCap (w : World) : (zeroValue 36).run Try.prog w = .ok (cv C.zero) w := by kernel_rfl

theorem CMap.look {w : World} {b m : Nat} {F : Int → Int → Option C} (h : CMap w b m F) {n i : Int} (hn : I64 n) (hi : I64 i) :
    (Instr.lookup 49 (.map (some b)) (sv n i) false).run Try.prog w = .ok (cv ((F n i).getD C.zero)) w := by
  obtain ⟨D, h1, h2⟩ := h
  obtain ⟨v, ps, hr, hv⟩ := h1.lookup Try.keySlot Try.underlying49 (zeroCap w) (capElem_cv _) (keyOf_slot hn hi)
  rw [(h2 n i hn hi).2] at hv
  rw [hr, capElem_inv hv]
theorem CMap.put {w : World} {b m : Nat} {F : Int → Int → Option C} (h : CMap w b m F) {n i : Int} (hn : I64 n) (hi : I64 i) (c : C) (hm : m ≤ 1000) :
    ∃ w', (Instr.mapUpdate 49 (.map (some b)) (sv n i) (cv c)).run Try.prog w = .ok () w' ∧ CMap w' b (m + 1) (fun a j => if a = n ∧ j = i then some c else F a j) ∧ w.grownBy w' (some b) := by
  obtain ⟨D, h1, h2⟩ := h
  obtain ⟨w', hr, ho, hg⟩ := h1.update Try.keySlot Try.underlying49 (by unfold maxLen; omega) (keyOf_slot hn hi) (capElem_cv c)
  refine ⟨w', hr, ⟨_, ho, fun a j ha hj => ?_⟩, hg⟩
  show Maps.has _ _ = (if a = n ∧ j = i then some c else F a j).isSome ∧ _ = capD ((if a = n ∧ j = i then some c else F a j).getD C.zero)
  by_cases e : a = n ∧ j = i
  · rw [if_pos e]
    obtain ⟨rfl, rfl⟩ := e
    rw [has_put_same h1.isMap (kl_key ha hj), atKey_put_same h1.isMap (kl_key ha hj)]
    exact ⟨rfl, rfl⟩
  · rw [if_neg e]
    have hne : kl a j ≠ kl n i := fun x => e (kl_inj ha hj hn hi x)
    rw [has_put_other hne, atKey_put_other hne]
    exact h2 a j ha hj
theorem CMap.congr {w : World} {b m : Nat} {F G : Int → Int → Option C} (h : CMap w b m F) (e : ∀ n i, F n i = G n i) : CMap w b m G := by
  have : F = G := funext fun n => funext fun i => e n i
  rw [← this]; exact h
theorem CMap.mono {w : World} {b m m' : Nat} {F : Int → Int → Option C} (h : CMap w b m F) (hm : m ≤ m') : CMap w b m' F := by obtain ⟨D, h, k⟩ := h; exact ⟨D, h.mono hm, k⟩

theorem wpList_put_cap {w : World} {ops : Array Oper} {rest : List Oper} {o : Oper} {a : Act} {Q : Exit → Act → World → Prop} (hg : o.guard = none) (m x v : Operand) (hop : o.op = Op.mapUpdate 49 m x v)
    (b k : Nat) (F : Int → Int → Option C) (n i : Int) (c : C) (hm : a.eval m = .map (some b)) (hx : a.eval x = sv n i) (hv : a.eval v = cv c) (h : CMap w b k F) (hn : I64 n) (hi : I64 i) (hk : k ≤ 1000)
    (hK : ∀ w', CMap w' b (k + 1) (fun a j => if a = n ∧ j = i then some c else F a j) → w.grownBy w' (some b) → wpList Try.prog ops Q rest (a.put o.dst undef) w') : wpList Try.prog ops Q (o :: rest) a w := by
  refine wpList_plain hg fun K' hK' => ?_
  obtain ⟨w', hrun, r1, r2⟩ := h.put hn hi c hk
  unfold Oper.wp
  simp [execOp, hop, hm, hx, hv, hrun, Result.andThen]
  exact hK' _ _ (hK w' r1 r2)
end Go.Proofs.Ytpfjcfgbecoccaa
