/-
  LISTS OF NUMBERS IN MEMORY, and the functions of package slices (Index, Contains, Clone, Delete) at them; the document's at and Same.
-/
import Derived.Test.YtpacgdplbddclaaLeaf
namespace Go.Proofs.Ytpacgdplbddclaa
set_option maxRecDepth 10000
open Go.RowKit
set_option linter.unusedVariables false

abbrev eI (x : Int) : List Value := [.int .i64 x]
theorem encI : Enc eI 1 := ⟨by decide, fun _ => rfl, fun x u hu => by simp at hu; subst hu; rfl⟩
/-- A list of numbers of the call's own. -/
abbrev IL (w : World) (B : Nat) (v : Value) (L : List Int) : Prop := Ls eI 3 1 w B v L
theorem IL.at {w : World} {B g n cap : Nat} {L : List Int} (h : IL w B (.slice (some ⟨g, 0, none⟩) n cap) L) (hn : L.length = n) (j : Nat) (x : Int) (hj : L[j]? = some x) : w.cell? ⟨g, j, none⟩ = some (.int .i64 x) := by
  have := h.cell encI hn j 0 x (.int .i64 x) hj rfl
  simpa using this
theorem Try.infoInt : (Try.prog.info? 3).map (fun i => (i.zero, i.size, i.bytes)) = some (some (.int .i64 0), 1, 8) := by kernel_rfl
theorem run_append_i (w : World) (B : Nat) (v : Value) (L : List Int) (hown : IL w B v L) (ty : TypeId) (ox : Option Addr) (m c : Nat) (D : List Int) (hm : D.length = m) (hno : ox = none → m = 0) (hx : ∀ ad, ox = some ad → ∀ j u, (cl eI D)[j]? = some u → w.cell? (ad.add j) = some u) (hn : L.length + m ≤ 100000) (hB : B ≤ w.heap.size) :
    ∃ v' w', (Builtin.append_ #[44, 44] ty #[v, .slice ox m c]).run Try.prog w = .ok v' w' ∧ IL w' B v' (L ++ D) ∧ w.grownBy w' v.ownBlock ∧ (v'.ownBlock = v.ownBlock ∨ v'.ownBlock = some w.heap.size) := by
  obtain ⟨i, hi, hx0⟩ := Option.map_eq_some_iff.1 Try.infoInt
  simp only [Prod.mk.injEq] at hx0
  exact run_append_l encI Try.underlying44 hi hx0.1 hx0.2.1 hx0.2.2 (by kernel_rfl) (by decide) w B v L hown ty ox m c D hm hno hx hn hB
theorem run_append_in (w : World) (B g n cap : Nat) (L : List Int) (hown : IL w B (.slice (some ⟨g, 0, none⟩) n cap) L) (hl : L.length = n) (ty : TypeId) (ad : Addr) (m c : Nat) (D : List Int) (hm : D.length = m) (hx : ∀ j u, (cl eI D)[j]? = some u → w.cell? (ad.add j) = some u) (hr : n + m ≤ cap) :
    ∃ w', (Builtin.append_ #[44, 44] ty #[.slice (some ⟨g, 0, none⟩) n cap, .slice (some ad) m c]).run Try.prog w = .ok (.slice (some ⟨g, 0, none⟩) (n + m) cap) w' ∧ IL w' B (.slice (some ⟨g, 0, none⟩) (n + m) cap) (L ++ D) ∧ w.grownBy w' (some g) := by
  obtain ⟨i, hi, hx0⟩ := Option.map_eq_some_iff.1 Try.infoInt
  simp only [Prod.mk.injEq] at hx0
  exact run_append_room encI Try.underlying44 hi hx0.2.1 w B g n cap L hown hl ty ad m c D hm hx hr
/-- clear of one cell behind a list. -/
theorem run_clear_i (w : World) (ty : TypeId) (B g n cap c : Nat) (L : List Int) (h : IL w B (.slice (some ⟨g, 0, none⟩) n cap) L) (hn : L.length = n) (hc : n < cap) :
    ∃ w', (Builtin.clear_ #[44] ty #[.slice (some ⟨g, n, none⟩) 1 c]).run Try.prog w = .ok (.tuple #[]) w' ∧ Hid (IL w' B (.slice (some ⟨g, 0, none⟩) n cap) L) ∧ w.grownBy w' (some g) := by
  obtain ⟨j, hj, hx0⟩ := Option.map_eq_some_iff.1 Try.infoInt
  simp only [Prod.mk.injEq] at hx0
  obtain ⟨h1, h2⟩ := h
  rcases h2 with ⟨e, _⟩ | ⟨g', cap', cur, e, hb, hg, hc2, hcm, hs, ht⟩
  · cases e
  · cases e
    have hst := run_storeCells_at Try.prog g L.length 3 [Value.int .i64 0] 0 cur w hg (by simp; omega) (by intro u hu; simp at hu; subst hu; rfl)
    simp only [Nat.add_zero] at hst
    have hlen : cur.toList.length = cap := by rw [Array.length_toList, hs]; omega
    refine ⟨w.setRow g (splice cur.toList L.length [Value.int .i64 0]).toArray, ?_, hideIt ⟨by rw [cl_len encI], .inr ⟨g, cap, _, rfl, hb, setRow_heap w g _ _ _ _ hg, by omega, hcm, ?_, ?_⟩⟩, ⟨rfl, rfl, rfl, by simp [World.setRow], fun k _ hk => setRow_other w g k _ (fun e => hk (by rw [e]))⟩⟩
    · have hz : (Builtin.zeroCells #[Value.int .i64 0] 1).toList = [Value.int .i64 0] := by simp [Builtin.zeroCells]
      simp [Builtin.clear_, run_underlying Try.underlying44, zeroValue, typeInfo, hj, hx0.1, Value.cells, hst, splice, hz]
    · rw [List.size_toArray, length_splice _ _ _ (by rw [hlen]; simp; omega), hlen]; omega
    · rw [List.toList_toArray]
      unfold splice
      rw [← ht, List.take_append_of_le_length (by rw [List.length_take, hlen]; omega), List.take_take]
      congr 1
      omega

/-! ### slices.Index, Contains; the document's at -/
set_option maxHeartbeats 1000000 in
theorem index_yes (w : World) (g n cap j : Nat) (a : Int) (L : List Int) (hn : Hid (L.length = n)) (hn2 : n ≤ 1000) (HR : Hid (∀ i x, L[i]? = some x → w.cell? ⟨g, i, none⟩ = some (.int .i64 x))) (hj : Hid (L[j]? = some a)) (hf : Hid (∀ i, i < j → L[i]? ≠ some a)) :
    Calls Try.prog 47 #[.slice (some ⟨g, 0, none⟩) n cap, .int .i64 a] w fun e w' => e = .returned (.int .i64 j) ∧ w' = w := by
  have hjn : j < n := by rw [← hn.out]; exact (List.getElem?_eq_some_iff.1 hj.out).1
  go_enter Try.func47, Try.ntmps47
  go_wp2
  go_loopg [8] (j + 1) (fun y i wr => ∃ c : Nat, c + y = j + 1 ∧ c ≤ j ∧ i = .int .i64 c ∧ wr = w)
  case atStart => exact ⟨0, by omega, by omega, rfl, rfl⟩
  case round =>
    obtain ⟨c, hc, hcj, rfl, rfl⟩ := hrel
    have hlt' : (c : Int) < (n : Int) := by omega
    obtain ⟨p, hp⟩ : ∃ q, L[c]? = some q := ⟨_, List.getElem?_eq_getElem (by rw [hn.out]; omega)⟩
    have e0 := HR.out c p hp
    by_cases ej : c = j
    · subst ej
      obtain rfl : p = a := by have := hj.out; rw [hp] at this; simpa using this
      clear hp
      go_wp2
      go_ret
      exact ⟨rfl, rfl⟩
    · have hs : (a == p) = false := by simp; rintro rfl; exact hf.out c (by omega) hp
      clear hp
      go_wp2
      go_roundg (gk - 1)
      case rel => exact ⟨c + 1, by omega, by omega, by go_num, rfl⟩
      case measure => omega
set_option maxHeartbeats 1000000 in
theorem index_not (w : World) (g n cap : Nat) (a : Int) (L : List Int) (hn : Hid (L.length = n)) (hn2 : n ≤ 1000) (HR : Hid (∀ i x, L[i]? = some x → w.cell? ⟨g, i, none⟩ = some (.int .i64 x))) (hf : Hid (a ∉ L)) :
    Calls Try.prog 47 #[.slice (some ⟨g, 0, none⟩) n cap, .int .i64 a] w fun e w' => e = .returned (.int .i64 (-1)) ∧ w' = w := by
  go_enter Try.func47, Try.ntmps47
  go_wp2
  go_loopg [8] (n + 1) (fun y i wr => ∃ c : Nat, c + y = n + 1 ∧ c ≤ n ∧ i = .int .i64 c ∧ wr = w)
  case atStart => exact ⟨0, by omega, by omega, rfl, rfl⟩
  case round =>
    obtain ⟨c, hc, hcj, rfl, rfl⟩ := hrel
    by_cases hlt : c < n
    · have hlt' : (c : Int) < (n : Int) := by omega
      obtain ⟨p, hp⟩ : ∃ q, L[c]? = some q := ⟨_, List.getElem?_eq_getElem (by rw [hn.out]; omega)⟩
      have e0 := HR.out c p hp
      have hs : (a == p) = false := by simp; rintro rfl; exact hf.out (List.mem_of_getElem? hp)
      clear hp
      go_wp2
      go_roundg (gk - 1)
      case rel => exact ⟨c + 1, by omega, by omega, by go_num, rfl⟩
      case measure => omega
    · have hlt' : ¬ (c : Int) < (n : Int) := by omega
      go_wp2
      go_ret
      exact ⟨rfl, rfl⟩
set_option maxHeartbeats 400000 in
theorem index_nil (w : World) (a : Int) : Calls Try.prog 47 #[.slice none 0 0, .int .i64 a] w fun e w' => e = .returned (.int .i64 (-1)) ∧ w' = w := by
  go_enter Try.func47, Try.ntmps47
  go_wp2
  refine wp_loop_rounds 1 ?_
  rw [rounds_succ]
  go_wp2
  go_ret
  exact ⟨rfl, rfl⟩
/-- Where a number is in a list; -1: nowhere. -/
def M.ix (L : List Int) (a : Int) : Int := if a ∈ L then (L.idxOf a : Int) else -1
theorem M.ix_bd (L : List Int) (a : Int) : -1 ≤ M.ix L a ∧ M.ix L a < L.length := by
  unfold M.ix
  split
  · rename_i h
    have := List.idxOf_lt_length_iff.2 h
    omega
  · omega
theorem M.idx_at {L : List Int} {a : Int} (h : a ∈ L) : L[L.idxOf a]? = some a := by
  have := List.idxOf_lt_length_iff.2 h
  rw [List.getElem?_eq_getElem this, List.getElem_idxOf]
theorem M.idx_first {L : List Int} {a : Int} : ∀ i, i < L.idxOf a → L[i]? ≠ some a := by
  intro i hi h
  obtain ⟨h1, h2⟩ := List.getElem?_eq_some_iff.1 h
  have := List.not_of_lt_findIdx hi
  simp at this
  exact this h2
theorem index_is {w : World} {B : Nat} {v : Value} {L : List Int} (h : IL w B v L) (hl : L.length ≤ 1000) (a r : Int) (hr : M.ix L a = r) :
    Calls Try.prog 47 #[v, .int .i64 a] w fun e w' => e = .returned (.int .i64 r) ∧ w' = w := by
  subst hr
  unfold M.ix
  rcases h.form with ⟨rfl, rfl⟩ | ⟨g, cap, rfl, _⟩
  · exact index_nil w a
  · by_cases ha : a ∈ L
    · rw [if_pos ha]
      exact index_yes w g _ cap (L.idxOf a) a L (hideIt rfl) hl (hideIt (fun i x hx => h.at rfl i x hx)) (hideIt (M.idx_at ha)) (hideIt M.idx_first)
    · rw [if_neg ha]
      exact index_not w g _ cap a L (hideIt rfl) hl (hideIt (fun i x hx => h.at rfl i x hx)) (hideIt ha)
theorem M.ix_ge (L : List Int) (a : Int) : decide (0 ≤ M.ix L a) = L.contains a := by
  unfold M.ix
  by_cases h : a ∈ L
  · rw [if_pos h]; simp [h]
  · rw [if_neg h]; simp [h]
set_option maxHeartbeats 400000 in
theorem contains_is {w : World} {B : Nat} {v : Value} {L : List Int} (h : IL w B v L) (hl : L.length ≤ 1000) (a : Int) (b : Bool) (hb : L.contains a = b) :
    Calls Try.prog 38 #[v, .int .i64 a] w fun e w' => e = .returned (.bool b) ∧ w' = w := by
  subst hb
  have HE := hideIt (M.ix_ge L a)
  obtain ⟨r, hr⟩ : ∃ r, M.ix L a = r := ⟨_, rfl⟩
  rw [hr] at HE
  have HI := hideIt (index_is h hl a r hr)
  clear hr h
  go_enter Try.func38, Try.ntmps38
  go_wp2_with fail
  refine HI.out.mono ?_
  rintro e w1 ⟨rfl, rfl⟩
  go_wp2
  go_ret
  exact ⟨ret_bool HE.out, rfl⟩
end Go.Proofs.Ytpacgdplbddclaa
