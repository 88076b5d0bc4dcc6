/-
  THE LIST OF SLOTS THAT ARE NOT EMPTY falls by one where one is taken out; two nodes of eight slots; children whose parent goes. Speaks of no function of the program.
-/
import Derived.Test.YtpfjcfgbecoccaaOpq
namespace Go.Proofs.Ytpfjcfgbecoccaa
set_option maxRecDepth 10000
open Go.RowKit
set_option linter.unusedVariables false

theorem SBox.put {w : World} {x : Nat} {n i : Int} (h : SBox w x n i) (n' i' : Int) :
    ∃ W, (w.setCell ⟨x, 0, none⟩ (.int .i64 n')).setCell ⟨x, 1, none⟩ (.int .i64 i') = W ∧ SBox W x n' i' ∧ w.grownBy W (some x) := by
  obtain ⟨a0, a1, lt⟩ := h
  refine ⟨_, rfl, ⟨?_, ?_, ?_⟩, ?_⟩
  · exact (World.cell?_setCell_other _ _ _ _ (by simp)).trans (World.cell?_setCell_same _ _ _ a0)
  · exact World.cell?_setCell_same _ _ _ ((World.cell?_setCell_other _ _ _ _ (by simp)).trans a1)
  · simpa [World.setCell] using lt
  · exact gbTrans (gbSetCell _ _ _ _) (gbSetCell _ _ _ _)

namespace M
theorem row_nodup (id : Int) (d : Nd) (j : Nat) : (rowTo id d j).Nodup := by
  unfold rowTo
  refine T9.Fo.nodup_map_in _ _ ((List.nodup_range (n := j)).filter _) fun x _ y _ e => ?_
  simp only [Prod.mk.injEq, true_and] at e
  omega
theorem row_fst {id : Int} {d : Nd} {j : Nat} {x : Int × Int} (h : x ∈ rowTo id d j) : x.1 = id := by
  unfold rowTo at h
  obtain ⟨i, _, rfl⟩ := List.mem_map.1 h
  rfl
theorem fullTo_fst {S : St} : ∀ {m : Nat} {x : Int × Int}, x ∈ fullTo S m → x.1 < m := by
  intro m x h
  unfold fullTo at h
  obtain ⟨id, hid, hx⟩ := List.mem_flatMap.1 h
  cases hs : S id with
  | none => rw [hs] at hx; cases hx
  | some d =>
    rw [hs] at hx
    have := row_fst hx
    simp at hid
    omega
theorem fullTo_step (S : St) (m : Nat) : fullTo S (m + 1) = fullTo S m ++ (match S m with | none => [] | some d => rowTo (m : Int) d 16) := by
  unfold fullTo
  rw [List.range_succ, List.flatMap_append, List.flatMap_cons, List.flatMap_nil, List.append_nil]
  cases S m <;> rfl
theorem fullTo_nodup (S : St) : ∀ m, (fullTo S m).Nodup
  | 0 => by simp [fullTo]
  | m + 1 => by
    rw [fullTo_step]
    refine List.nodup_append.2 ⟨fullTo_nodup S m, ?_, fun x hx y hy e => ?_⟩
    · cases S m with
      | none => simp
      | some d => exact row_nodup _ _ _
    · have h1 := fullTo_fst hx
      subst e
      cases hs : S m with
      | none => rw [hs] at hy; cases hy
      | some d => rw [hs] at hy; have := row_fst hy; omega
theorem full_nodup (S : St) : (full S).Nodup := fullTo_nodup S 64
/-- Two lists without doubles: one lacks just x. -/
theorem nodup_less {x : Int × Int} : ∀ {l k : List (Int × Int)}, l.Nodup → k.Nodup → x ∈ l → (∀ y, y ∈ k ↔ y ∈ l ∧ y ≠ x) → k.length + 1 = l.length
  | l, k, hl, hk, hx, h => by
    have h1 : k.Perm (l.erase x) := by
      rw [List.perm_ext_iff_of_nodup hk (hl.erase x)]
      intro y
      rw [h y, hl.mem_erase_iff]
      exact ⟨fun ⟨a, b⟩ => ⟨b, a⟩, fun ⟨a, b⟩ => ⟨b, a⟩⟩
    rw [h1.length_eq, List.length_erase_of_mem hx]
    have := List.length_pos_of_mem hx
    omega
theorem full_tak {S : St} (G : Good S) {x : Int × Int} (h : srcE S x = 0) : (full (takS S x)).length + 1 = (full S).length := by
  have G' : Good (takS S x) := G.take _ _
  refine nodup_less (full_nodup S) (full_nodup _) ((mem_full G x).2 (srcE_ok h).2) fun y => ?_
  rw [mem_full G', mem_full G]
  unfold takS
  rw [takeS_up h, gc_up _ (srcE_ok h).1]
  by_cases e : y = x <;> simp [e]

/-! ### Two nodes of eight slots -/
structure Sh (S : St) : Prop where
  no : ∀ id, id ≠ 0 → id ≠ 1 → S id = none
  n0 : ∃ d, S 0 = some d ∧ d.r = 3
  n1 : ∃ d, S 1 = some d ∧ d.r = 3
theorem Sh.up {S : St} (h : Sh S) (x : Int × Int) (c : C) : Sh (up S x c) := by
  have key : ∀ id, (∃ d, S id = some d ∧ d.r = 3) → ∃ d, M.up S x c id = some d ∧ d.r = 3 := by
    rintro id ⟨d, hd, hr⟩
    unfold M.up upd
    by_cases e : id = x.1
    · rw [if_pos e, ← e, hd]; exact ⟨_, rfl, hr⟩
    · rw [if_neg e]; exact ⟨d, hd, hr⟩
  refine ⟨fun id h0 h1 => ?_, key 0 h.n0, key 1 h.n1⟩
  unfold M.up upd
  by_cases e : id = x.1
  · rw [if_pos e, ← e, h.no id h0 h1]; rfl
  · rw [if_neg e]; exact h.no id h0 h1
theorem Sh.pla {S : St} (h : Sh S) (a : Int × Int) (c : C) : Sh (plaS S a c) := by
  unfold plaS putS; split
  · exact h.up a c
  · exact h
theorem Sh.min {S : St} (h : Sh S) (a b : Int × Int) (rt bd gd bt : Int) : Sh (minS S a b rt bd gd bt) := by
  unfold minS; split
  · exact h.up b _
  · exact h
theorem Sh.cop {S : St} (h : Sh S) (a b : Int × Int) (rt : Int) : Sh (copS S a b rt) := h.min a b _ _ _ _
theorem Sh.tak {S : St} (h : Sh S) (a : Int × Int) : Sh (takS S a) := by
  unfold takS takeS; split
  · exact h.up a _
  · exact h
theorem Sh.start : Sh (addS (addS (fun _ => none) 0 3) 1 3) := by
  refine ⟨fun id h0 h1 => ?_, ⟨⟨3, fun _ => C.zero⟩, rfl, rfl⟩, ⟨⟨3, fun _ => C.zero⟩, rfl, rfl⟩⟩
  unfold addS
  rw [if_pos (by decide +kernel)]
  simp only [if_neg h1]
  show (if addE (fun _ => none) 0 3 = 0 then fun j => if j = (0 : Int) then some (⟨(3 : Int).toNat, fun _ => C.zero⟩ : Nd) else none else fun _ => none) id = none
  rw [if_pos (by decide +kernel)]
  exact if_neg h0
theorem row8 {S : St} (G : Good S) {id : Int} {d : Nd} (hs : S id = some d) (hr : d.r = 3) : (rowTo id d 16).length ≤ 8 := by
  unfold rowTo
  rw [List.length_map]
  have e : List.range 16 = List.range 8 ++ (List.range 8).map (8 + ·) := by decide
  rw [e, List.filter_append]
  have z : ((List.range 8).map (8 + ·)).filter (fun i => (d.f i).k != 0) = [] := by
    rw [List.filter_eq_nil_iff]
    intro i hi
    obtain ⟨j, _, rfl⟩ := List.mem_map.1 hi
    rw [G.out id d (8 + j) hs (by rw [hr]; omega)]
    simp
  rw [z, List.append_nil]
  exact Nat.le_trans (List.length_filter_le _ _) (by simp)
theorem Sh.len {S : St} (h : Sh S) (G : Good S) : (full S).length ≤ 16 := by
  have key : ∀ m, 2 ≤ m → (fullTo S m).length ≤ 16 := by
    intro m hm
    induction m with
    | zero => omega
    | succ m ih =>
      rw [fullTo_step, List.length_append]
      by_cases h2 : 2 ≤ m
      · have h0 : S m = none := h.no m (by omega) (by omega)
        rw [h0]
        have := ih h2
        simpa using this
      · obtain rfl : m = 1 := by omega
        obtain ⟨d0, e0, r0⟩ := h.n0
        obtain ⟨d1, e1, r1⟩ := h.n1
        have a1 : (rowTo ((1 : Nat) : Int) d1 16).length ≤ 8 := row8 G e1 r1
        have a0 : (rowTo ((0 : Nat) : Int) d0 16).length ≤ 8 := row8 G e0 r0
        have f1 : fullTo S 1 = rowTo ((0 : Nat) : Int) d0 16 := by
          rw [fullTo_step]
          have : S ((0 : Nat) : Int) = some d0 := e0
          rw [this]
          simp [fullTo]
        have : S ((1 : Nat) : Int) = some d1 := e1
        rw [f1, this]
        show _ + (rowTo ((1 : Nat) : Int) d1 16).length ≤ 16
        omega
  exact key 64 (by omega)
/-- Where nothing is full, both nodes go. -/
theorem Sh.clear {S : St} (h : Sh S) (G : Good S) (he : full S = []) : dropE S 0 = 0 ∧ dropE (dropS S 0) 1 = 0 := by
  have hk : ∀ x : Int × Int, (gc S x).k = 0 := fun x => Classical.byContradiction fun hc => by
    have := (mem_full G x).2 hc
    rw [he] at this; cases this
  have nul : ∀ (id : Int) (d : Nd), S id = some d → nulN d = true := fun id d hd => by
    unfold nulN
    rw [List.all_eq_true]
    intro i hi
    by_cases hlt : i < 2 ^ d.r
    · have := hk (id, (i : Int))
      unfold gc at this
      simp only at this
      rw [getC_at hd hlt] at this
      simpa using this
    · rw [G.out id d i hd (by omega)]; rfl
  obtain ⟨d0, e0, r0⟩ := h.n0
  obtain ⟨d1, e1, r1⟩ := h.n1
  have h0 : dropE S 0 = 0 := by unfold dropE; rw [e0]; simp only; rw [if_pos (nul 0 d0 e0)]
  refine ⟨h0, ?_⟩
  have e1' : dropS S 0 1 = some d1 := by
    unfold dropS
    rw [if_pos h0]
    show (if (1 : Int) = 0 then none else S 1) = some d1
    rw [if_neg (by decide)]; exact e1
  unfold dropE
  rw [e1']
  simp only
  rw [if_pos (nul 1 d1 e1)]
theorem sub_not {f d : T9.Fo} {a : Int × Int} (hn : f.pre.Nodup) (h : f.sub a = some d) : a ∉ d.pre := by
  induction f using T9.Fo.ind with
  | nil => cases h
  | node bb oo x e r ihe ihr =>
    obtain ⟨h1, h2, h3, h4, h5⟩ := T9.Fo.nodup_node.1 hn
    simp only [T9.Fo.sub] at h
    split at h
    · rename_i ex; cases h; rw [← ex]; exact h1
    · cases he : e.sub a with
      | some e' => rw [he] at h; simp at h; subst h; exact ihe h3 he
      | none => rw [he] at h; simp at h; exact ihr h4 h
theorem len_tak0 (S : St) {f : T9.Fo} (N : T9.Good f) (a : Int × Int) : (takF S f a).len ≤ f.len := by
  unfold takF; split
  · exact len_dropF N a
  · exact Nat.le_refl _
/-- What came of it comes of what it came of. -/
theorem tak_children {S : St} {f : T9.Fo} (I : Inv S f) (N : T9.Good f) {a c : Int × Int} (h : srcE S a = 0) (hc : c ∈ f.children a) : (takF S f a).parent c = f.parent a := by
  have ha := I.has (srcE_ok h).2
  unfold takF
  rw [if_pos h, (tak_ok I h).2]
  have hv := T9.Fo.has_view ha
  obtain ⟨dd, hd, hl⟩ := T9.Fo.view_some hv
  have hcp : c ∈ f.pre := by rw [hl] at hc; exact T9.Fo.sub_pre hd (T9.Fo.tops_pre hc)
  have hne : c ≠ a := fun e => by
    subst e
    have h1 : c ∈ dd.pre := by rw [hl] at hc; exact T9.Fo.tops_pre hc
    exact sub_not N.nd hd h1
  have V := T9.Fo.view_drop N.nd (p := none) (fun y e => (nomatch e)) hv c hne
  have hcv := T9.Fo.has_view (T9.Fo.has_iff.2 hcp)
  rw [hcv] at V
  simp only [Option.map_some, if_pos hc] at V
  exact (T9.Fo.view_has V).1
end M
/-- A number, taken as a word without sign, by how many there are. -/
theorem turnIdx (z : Int) (n : Nat) (h : 0 < n) (hn : n ≤ 1024) : ∃ U i0 : Nat, IntKind.u64.wrap z = (U : Int) ∧ U < 18446744073709551616 ∧ (U : Int) % (n : Int) = (i0 : Int) ∧ i0 < n := by
  have h0 : 0 ≤ IntKind.u64.wrap z ∧ IntKind.u64.wrap z < 18446744073709551616 := by
    unfold IntKind.wrap
    simp only [IntKind.bits, IntKind.signed, Bool.false_and, Bool.false_eq_true, if_false]
    omega
  refine ⟨(IntKind.u64.wrap z).toNat, (IntKind.u64.wrap z).toNat % n, by omega, by omega, ?_, Nat.mod_lt _ h⟩
  simp
theorem turnLen {n : Nat} (hn : n ≤ 1024) : IntKind.u64.wrap (n : Int) = (n : Int) := by
  unfold IntKind.wrap
  simp only [IntKind.bits, IntKind.signed, Bool.false_and, Bool.false_eq_true, if_false]
  omega
end Go.Proofs.Ytpfjcfgbecoccaa
