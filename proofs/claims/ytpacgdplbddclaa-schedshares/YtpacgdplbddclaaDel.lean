/-
  slices.Clone, slices.Delete of one element, without; the document's at and Same.
-/
import Derived.Test.YtpacgdplbddclaaIls
namespace Go.Proofs.Ytpacgdplbddclaa
set_option maxRecDepth 10000
open Go.RowKit
set_option linter.unusedVariables false

theorem sliceNil (w : World) (a : Option Addr) (n c : Nat) : (binOp .eql 44 (.slice a n c) (.slice none 0 0)).run Try.prog w = .ok (.bool a.isNone) w := Lib.run_eql_slice_nil w 44 3 a n c 0 0 Try.underlying44
/-! ### slices.Clone -/
set_option maxHeartbeats 400000 in
theorem clone_nil (w : World) : Calls Try.prog 48 #[.slice none 0 0] w fun e w' => e = .returned (.slice none 0 0) ∧ w.grownBy w' none := by
  have qnil := sliceNil
  go_enter Try.func48, Try.ntmps48
  go_wp2
  go_ret
  exact ⟨rfl, gbRefl _ _⟩
set_option maxHeartbeats 400000 in
theorem clone_row (w : World) (g n cap : Nat) (L : List Int) (hn : Hid (L.length = n)) (hn2 : n ≤ 1000) (HR : Hid (∀ j u, (cl eI L)[j]? = some u → w.cell? ((⟨g, 0, none⟩ : Addr).add j) = some u)) :
    Calls Try.prog 48 #[.slice (some ⟨g, 0, none⟩) n cap] w fun e w' => ∃ v, e = .returned v ∧ IL w' w.heap.size v L ∧ w.grownBy w' none := by
  obtain ⟨v1, w1, hr, l1, g1, o1⟩ := run_append_i (w.alloc (.cells #[] 3)) w.heap.size (.slice (some ⟨w.heap.size, 0, none⟩) 0 0) [] (Ls.empty eI 3 1 w) 44 (some ⟨g, 0, none⟩) n cap L hn.out (by simp) (by rintro ad ⟨⟩ j u hu; exact (gbAlloc w _ none).cell (HR.out j u hu) (by simp)) (by simp; omega) (by simp)
  have HL := hideIt l1
  clear l1 o1
  have qnil := sliceNil
  go_enter Try.func48, Try.ntmps48
  go_wp2_with (at_builtin; refine wpList_append_run rfl (.tmp 5) (.tmp 6) rfl (.slice (some ⟨w.heap.size, 0, none⟩) 0 0) (.slice (some ⟨g, 0, none⟩) n cap) rfl rfl v1 w1 hr ?_)
  go_ret
  exact ⟨_, rfl, HL.out, gbNew (gbTrans (gbAny (gbAlloc _ _ _) _) g1) (Nat.le_refl _)⟩
theorem clone_is {w : World} {B : Nat} {v : Value} {L : List Int} (h : IL w B v L) (hl : L.length ≤ 1000) :
    Calls Try.prog 48 #[v] w fun e w' => ∃ v', e = .returned v' ∧ IL w' w.heap.size v' L ∧ w.grownBy w' none := by
  rcases h.form with ⟨rfl, rfl⟩ | ⟨g, cap, rfl, _⟩
  · refine (clone_nil w).mono ?_
    rintro _ w1 ⟨rfl, g1⟩
    exact ⟨_, rfl, Ls.nil _ _ _ _ _, g1⟩
  · refine clone_row w g _ cap L (hideIt rfl) hl (hideIt ?_)
    have := h.row encI rfl 0 L (fun j => .inr (by rw [Nat.zero_add]))
    simpa using this

/-! ### slices.Delete -/
theorem del_list (L : List Int) (i : Nat) : L.take i ++ L.drop (i + 1) = L.eraseIdx i := (List.eraseIdx_eq_take_drop_succ L i).symm
set_option maxHeartbeats 1000000 in
theorem delete_row (w : World) (B g n cap i : Nat) (L : List Int) (h : Hid (IL w B (.slice (some ⟨g, 0, none⟩) n cap) L)) (hn : Hid (L.length = n)) (hn2 : n ≤ 1000) (hi : i < n) (hc : n ≤ cap) (hc2 : cap ≤ 9223372036854775807) :
    Calls Try.prog 49 #[.slice (some ⟨g, 0, none⟩) n cap, .int .i64 i, .int .i64 ((i + 1 : Nat) : Int)] w fun e w' => e = .returned (.slice (some ⟨g, 0, none⟩) (n - 1) cap) ∧ IL w' B (.slice (some ⟨g, 0, none⟩) (n - 1) cap) (L.eraseIdx i) ∧ w.grownBy w' (some g) := by
  obtain ⟨x, hx⟩ : ∃ x : Nat, Hid (x = i + 1) := ⟨_, hideIt rfl⟩
  rw [← hx.out]
  have hxi : i < x := by rw [hx.out]; omega
  have hxn : x ≤ n := by rw [hx.out]; omega
  obtain ⟨m, hm⟩ : ∃ m : Nat, Hid (m = n - 1) := ⟨_, hideIt rfl⟩
  rw [← hm.out]
  have hmi : i + (n - x) = m := by rw [hm.out, hx.out]; omega
  have hm1 : m < n := by rw [hm.out]; omega
  have h1 : (x : Int) ≤ (n : Int) := by omega
  have h2 : (i : Int) ≤ (x : Int) := by omega
  have h3 : (i : Int) ≤ (cap : Int) := by omega
  have h4 : (x : Int) ≤ (cap : Int) := by omega
  have h5 : (n : Int) ≤ (cap : Int) := by omega
  have h6 : ((i : Int) == (x : Int)) = false := by simp; omega
  have h7 : (i : Int) ≤ (n : Int) := by omega
  have hd : (L.drop x).length = n - x := by rw [List.length_drop, hn.out]
  have ht : (L.take i).length = i := by rw [List.length_take, hn.out]; omega
  have G := gbDrew (gbRefl w none)
  have HA : ∀ ad c, (x < cap → ad = (⟨g, x, none⟩ : Addr)) → ∃ w', (Builtin.append_ #[44, 44] 44 #[.slice (some ⟨g, 0, none⟩) i cap, .slice (some ad) (n - x) c]).run Try.prog w.drew = .ok (.slice (some ⟨g, 0, none⟩) m cap) w' ∧ IL w' B (.slice (some ⟨g, 0, none⟩) m cap) (L.eraseIdx i) ∧ w.drew.grownBy w' (some g) := by
    intro ad c had
    have := run_append_in w.drew B g i cap (L.take i) ((h.out.kept G).cutTo encI hn.out i (by omega)) ht 44 ad (n - x) c (L.drop x) hd (by
      intro j u hu
      have hlt : 0 < (L.drop x).length := by
        have := (List.getElem?_eq_some_iff.1 hu).1
        rw [cl_len encI] at this
        omega
      obtain rfl := had (by omega)
      have := (h.out.kept G).row encI hn.out x (L.drop x) (fun j => .inr (by rw [List.getElem?_drop])) j u hu
      simpa using this) (by omega)
    rw [hmi] at this
    have e : L.take i ++ L.drop x = L.eraseIdx i := by rw [hx.out, del_list]
    rw [e] at this
    exact this
  clear G hd ht
  by_cases hxc : x < cap
  · obtain ⟨w1, hr, hl1, g1⟩ := HA ⟨g, x, none⟩ (cap - x) (fun _ => rfl)
    have hle : (L.eraseIdx i).length = m := by rw [List.length_eraseIdx, hn.out, if_pos hi, hm.out]
    obtain ⟨w2, hr2, hl2, g2⟩ := run_clear_i w1 0 B g m cap (cap - m) (L.eraseIdx i) hl1 hle (by omega)
    have h9 : ¬ cap = x := by omega
    have h10 : (m : Int) < (cap : Int) := by omega
    have h11 : (m : Int) ≤ (n : Int) := by omega
    have h12 : ¬ (m : Int) = (cap : Int) := by omega
    have h13 : n - m = 1 := by have := hm.out; omega
    clear hl1 HA hle hmi
    go_enter Try.func49, Try.ntmps49
    go_wp2
    go_region_law (refine step_append_run rfl (.tmp 22) (.tmp 25) rfl (.slice (some ⟨g, 0, none⟩) i cap) (.slice (some ⟨g, x, none⟩) (n - x) (cap - x)) (by simp [Act.eval, Act.put]) (by simp [Act.eval, Act.put]) (.slice (some ⟨g, 0, none⟩) m cap) w1 hr ?_)
    go_wp2
    go_ret
    exact ⟨rfl, hl2.out, gbTrans (gbTrans (gbAny (gbDrew (gbRefl w none)) _) g1) g2⟩
  · have hxe : cap = x := by omega
    subst hxe
    obtain ⟨w1, hr, hl1, g1⟩ := HA ⟨g, 0, none⟩ (cap - cap) (fun h => absurd h (Nat.lt_irrefl _))
    have hle : (L.eraseIdx i).length = m := by rw [List.length_eraseIdx, hn.out, if_pos hi, hm.out]
    obtain ⟨w2, hr2, hl2, g2⟩ := run_clear_i w1 0 B g m cap (cap - m) (L.eraseIdx i) hl1 hle (by omega)
    have h10 : (m : Int) < (cap : Int) := by omega
    have h11 : (m : Int) ≤ (n : Int) := by omega
    have h12 : ¬ (m : Int) = (cap : Int) := by omega
    have h13 : n - m = 1 := by have := hm.out; omega
    clear hl1 HA hle hmi
    go_enter Try.func49, Try.ntmps49
    go_wp2
    go_region_law (refine step_append_run rfl (.tmp 22) (.tmp 25) rfl (.slice (some ⟨g, 0, none⟩) i cap) (.slice (some ⟨g, 0, none⟩) (n - cap) (cap - cap)) (by simp [Act.eval, Act.put]) (by simp [Act.eval, Act.put]; omega) (.slice (some ⟨g, 0, none⟩) m cap) w1 hr ?_)
    go_wp2
    go_ret
    exact ⟨rfl, hl2.out, gbTrans (gbTrans (gbAny (gbDrew (gbRefl w none)) _) g1) g2⟩

/-! ### without -/
/-- A list without one of its numbers. -/
def M.wo (L : List Int) (a : Int) : List Int := L.filter fun x => x != a
theorem M.wo_not {L : List Int} {a : Int} (h : a ∉ L) : M.wo L a = L := by
  unfold M.wo
  rw [List.filter_eq_self]
  intro x hx
  simp
  rintro rfl
  exact h hx
theorem M.wo_erase {L : List Int} {a : Int} (h : L.Nodup) : L.eraseIdx (L.idxOf a) = M.wo L a := by
  rw [← List.erase_eq_eraseIdx_of_idxOf rfl, List.Nodup.erase_eq_filter h]
  rfl
theorem M.wo_nodup {L : List Int} {a : Int} (h : L.Nodup) : (M.wo L a).Nodup := h.sublist List.filter_sublist
theorem M.wo_len (L : List Int) (a : Int) : (M.wo L a).length ≤ L.length := List.length_filter_le _ _
set_option maxHeartbeats 400000 in
theorem without_no {w : World} {B : Nat} {v : Value} {L : List Int} (h : IL w B v L) (hl : L.length ≤ 1000) (a : Int) (ha : a ∉ L) :
    Calls Try.prog 43 #[v, .int .i64 a] w fun e w' => e = .returned (.tuple #[v, .bool false]) ∧ w' = w := by
  have HI := hideIt (index_is h hl a (-1) (by unfold M.ix; rw [if_neg ha]))
  clear h ha
  go_enter Try.func43, Try.ntmps43
  go_wp2_with fail
  refine HI.out.mono ?_
  rintro e w1 ⟨rfl, rfl⟩
  go_wp2
  go_ret2
  exact ⟨rfl, rfl⟩
set_option maxHeartbeats 400000 in
theorem without_yes {w : World} {B g n cap : Nat} {L : List Int} (h : Hid (IL w B (.slice (some ⟨g, 0, none⟩) n cap) L)) (hn : Hid (L.length = n)) (hl : n ≤ 1000) (hc : n ≤ cap) (hc2 : cap ≤ 9223372036854775807) (a : Int) (i : Nat) (ha : Hid (M.ix L a = (i : Int))) (hi : i < n) :
    Calls Try.prog 43 #[.slice (some ⟨g, 0, none⟩) n cap, .int .i64 a] w fun e w' => e = .returned (.tuple #[.slice (some ⟨g, 0, none⟩) (n - 1) cap, .bool true]) ∧ IL w' B (.slice (some ⟨g, 0, none⟩) (n - 1) cap) (L.eraseIdx i) ∧ w.grownBy w' (some g) := by
  have HI := hideIt (index_is h.out (by rw [hn.out]; exact hl) a i ha.out)
  have HD := hideIt (delete_row w B g n cap i L h hn hl hi hc hc2)
  go_enter Try.func43, Try.ntmps43
  go_wp2_with fail
  refine HI.out.mono ?_
  rintro e w1 ⟨rfl, rfl⟩
  go_wp2_with fail
  refine HD.out.mono ?_
  rintro e w2 ⟨rfl, l2, g2⟩
  have l2 := hideIt l2
  go_wp2
  go_ret2
  exact ⟨rfl, l2.out, g2⟩
theorem without_is {w : World} {B : Nat} {v : Value} {L : List Int} (h : IL w B v L) (hl : L.length ≤ 1000) (hd : L.Nodup) (a : Int) (b : Bool) (hb : L.contains a = b) :
    Calls Try.prog 43 #[v, .int .i64 a] w fun e w' => ∃ v', e = .returned (.tuple #[v', .bool b]) ∧ IL w' B v' (M.wo L a) ∧ v'.ownBlock = v.ownBlock ∧ w.grownBy w' v.ownBlock := by
  subst hb
  by_cases ha : a ∈ L
  · rcases h.form with ⟨rfl, rfl⟩ | ⟨g, cap, rfl, hc, _, _, hc2⟩
    · cases ha
    · refine (without_yes (hideIt h) (hideIt rfl) hl hc hc2 a (L.idxOf a) (hideIt (by unfold M.ix; rw [if_pos ha])) (List.idxOf_lt_length_iff.2 ha)).mono ?_
      rintro e w' ⟨rfl, h2, h3⟩
      refine ⟨.slice (some ⟨g, 0, none⟩) (L.length - 1) cap, by simp [ha], ?_, rfl, h3⟩
      rw [← M.wo_erase hd]
      exact h2
  · refine (without_no h hl a ha).mono ?_
    rintro e w' ⟨rfl, rfl⟩
    refine ⟨v, by simp [ha], ?_, rfl, gbRefl _ _⟩
    rw [M.wo_not ha]
    exact h

/-! ### The document's at, Same -/
end Go.Proofs.Ytpacgdplbddclaa
