/-
  LISTS OF ACTS in memory; who leaves and comes again stands last of its level, plain; a level's bit in the word.
-/
import Derived.Test.YtlekmpidhgjpdaaBes
namespace Go.Proofs.Ytlekmpidhgjpdaa
set_option maxRecDepth 10000
open Go.RowKit
set_option linter.unusedVariables false

abbrev eQ (q : Q) : List Value := [.int .i64 q.k, .int .i64 q.i, .int .i64 q.l]
theorem encQ : Enc eQ 3 := ⟨by decide, fun _ => rfl, fun x u hu => by simp at hu; rcases hu with rfl | rfl | rfl <;> rfl⟩
abbrev QL (w : World) (B : Nat) (v : Value) (L : List Q) : Prop := Ls eQ 30 3 w B v L
theorem QL.at {w : World} {B g n cap : Nat} {L : List Q} (h : QL w B (.slice (some ⟨g, 0, none⟩) n cap) L) (hn : L.length = n) (j : Nat) (q : Q) (hj : L[j]? = some q) : w.cell? ⟨g, j * 3, none⟩ = some (.int .i64 q.k) ∧ w.cell? ⟨g, j * 3 + 1, none⟩ = some (.int .i64 q.i) ∧ w.cell? ⟨g, j * 3 + 2, none⟩ = some (.int .i64 q.l) :=
  ⟨by have := h.cell encQ hn j 0 q _ hj rfl; simpa using this, h.cell encQ hn j 1 q _ hj rfl, h.cell encQ hn j 2 q _ hj rfl⟩
theorem Try.infoOp : (Try.prog.info? 30).map (fun i => (i.zero, i.size, i.bytes)) = some (some (.agg #[.int .i64 0, .int .i64 0, .int .i64 0]), 3, 24) := by kernel_rfl
theorem run_append_q (w : World) (B : Nat) (v : Value) (L : List Q) (hown : QL w B v L) (ty : TypeId) (ox : Option Addr) (m c : Nat) (D : List Q) (hm : D.length = m) (hno : ox = none → m = 0) (hx : ∀ ad, ox = some ad → ∀ j u, (cl eQ D)[j]? = some u → w.cell? (ad.add j) = some u) (hn : L.length + m ≤ 100000) (hB : B ≤ w.heap.size) :
    ∃ v' w', (Builtin.append_ #[22, 22] ty #[v, .slice ox m c]).run Try.prog w = .ok v' w' ∧ QL w' B v' (L ++ D) ∧ w.grownBy w' v.ownBlock ∧ (v'.ownBlock = v.ownBlock ∨ v'.ownBlock = some w.heap.size) := by
  obtain ⟨i, hi, hx0⟩ := Option.map_eq_some_iff.1 Try.infoOp
  simp only [Prod.mk.injEq] at hx0
  exact run_append_l encQ Try.underlying22 hi hx0.1 hx0.2.1 hx0.2.2 (by kernel_rfl) (by decide) w B v L hown ty ox m c D hm hno hx hn hB
theorem rowQ (w : World) (q : Q) : ∀ j u, (cl eQ [q])[j]? = some u → (w.alloc (.cells #[.int .i64 q.k, .int .i64 q.i, .int .i64 q.l] 30)).cell? ((⟨w.heap.size, 0, none⟩ : Addr).add j) = some u := by
  intro j u h
  have hj : j < 3 := by have := (List.getElem?_eq_some_iff.1 h).1; rwa [cl_len encQ] at this
  have : j = 0 ∨ j = 1 ∨ j = 2 := by omega
  rw [Addr.add_lit]
  rcases this with rfl | rfl | rfl <;> (simp [cl] at h; subst h; simp)
/-- An act, in a block of its own. -/
structure QBox (w : World) (x : Nat) (q : Q) : Prop where
  at0 : w.cell? ⟨x, 0, none⟩ = some (.int .i64 q.k)
  at1 : w.cell? ⟨x, 1, none⟩ = some (.int .i64 q.i)
  at2 : w.cell? ⟨x, 2, none⟩ = some (.int .i64 q.l)
  lt : x < w.heap.size
theorem QBox.fr {O : Nat → Prop} {w w' : World} {x : Nat} {q : Q} (h : QBox w x q) (k : Fr O w w') (ho : ¬ O x) : QBox w' x q := ⟨k.cell h.at0 ho, k.cell h.at1 ho, k.cell h.at2 ho, Nat.lt_of_lt_of_le h.lt k.size⟩
theorem QBox.kept {w w' : World} {x : Nat} {q : Q} (h : QBox w x q) (g : w.grownBy w' none) : QBox w' x q := h.fr (O := fun _ => False) (Fr.grown g) (fun e => e)
theorem qboxNew (w : World) (q : Q) : ∃ W, w.alloc (.cells #[.int .i64 q.k, .int .i64 q.i, .int .i64 q.l] 30) = W ∧ QBox W w.heap.size q ∧ w.grownBy W none := ⟨_, rfl, ⟨by simp, by simp, by simp, by simp⟩, gbAlloc _ _ _⟩

namespace M
/-- Whom a list of acts puts there. -/
def of (I : List Q) : List (Int × Int) := I.map fun q => (q.i, q.l)
theorem of_app (I : List Q) (q : Q) : of (I ++ [q]) = of I ++ [(q.i, q.l)] := by unfold of; simp
theorem of_len (I : List Q) : (of I).length = I.length := by unfold of; simp
theorem of_mem {I : List Q} {j : Nat} {q : Q} (h : I[j]? = some q) : (q.i, q.l) ∈ of I := List.mem_map.2 ⟨q, List.mem_of_getElem? h, rfl⟩
theorem rl_ok {D : List (Int × Int)} {a l : Int} (h : re D a l = 0) : rl D a l = D ++ [(a, l)] ∧ 0 ≤ a ∧ a < 64 := by
  unfold re at h
  unfold rl
  split at h
  · rename_i q1
    split at h
    · cases h
    · rename_i q2
      rw [if_pos ⟨q1, q2⟩]
      exact ⟨rfl, q1.1, q1.2.1⟩
  · cases h
theorem rl_no {D : List (Int × Int)} {a l : Int} (h : ¬ re D a l = 0) : rl D a l = D := by
  unfold re at h
  unfold rl
  split
  · rename_i q
    rw [if_pos q.1, if_neg q.2] at h
    exact absurd rfl h
  · rfl
/-- A level's bit. -/
theorem lw_bit (D : List (Int × Int)) (c : Nat) (hc : c < 8) : decide (0 < (lv D (c : Int)).length) = (lw D / 2 ^ c % 2 == 1) := by
  have h := wd_bit (bb D) 8 c
  rw [Nat.testBit_eq_decide_div_mod_eq] at h
  have e : decide (0 < (lv D (c : Int)).length) = bb D c := by
    unfold bb
    cases lv D (c : Int) <;> simp
  rw [e]
  unfold lw
  simp only [hc, decide_true, Bool.true_and] at h
  rw [← h]
  generalize wd (bb D) 8 / 2 ^ c % 2 = x
  rw [Bool.eq_iff_iff, decide_eq_true_iff, beq_iff_eq]
/-- Who leaves and comes again. -/
theorem again {D : List (Int × Int)} (hg : Gd D) {a l : Int} (hm : (a, l) ∈ D) (ha : 0 ≤ a ∧ a < 64) : (ids D).contains a = true ∧ re (rd D a) a l = 0 ∧ rl (rd D a) a l = rd D a ++ [(a, l)] ∧ lw (rd D a ++ [(a, l)]) = lw D ∧ lv (rd D a ++ [(a, l)]) l = M.wo (lv D l) a ++ [a] := by
  have hl := hg.le a l hm
  have hn : a ∉ ids (rd D a) := by rw [ids_rd]; unfold M.wo; simp
  refine ⟨?_, ?_, ?_, ?_, ?_⟩
  · simp; exact mem_ids.2 ⟨l, hm⟩
  · unfold re; rw [if_pos ⟨ha.1, ha.2, hl.1, hl.2⟩, if_neg hn]
  · unfold rl; rw [if_pos ⟨⟨ha.1, ha.2, hl.1, hl.2⟩, hn⟩]
  · obtain ⟨h, rfl⟩ : ∃ h : Nat, l = (h : Int) := ⟨l.toNat, by omega⟩
    have e : ∀ i, bb (rd D a ++ [(a, (h : Int))]) i = bb D i := fun i => by
      unfold bb
      rw [lv_app]
      by_cases c : i = h
      · subst c
        rw [if_pos rfl]
        have := mem_lv.2 hm
        cases e2 : lv D (i : Int) with
        | nil => rw [e2] at this; cases this
        | cons _ _ => simp
      · rw [if_neg (by omega), lv_rd, M.wo_not]
        intro e2
        have := hg.one hm (mem_lv.1 e2)
        omega
    have e3 : bb (rd D a ++ [(a, (h : Int))]) = bb D := funext e
    unfold lw
    rw [e3]
  · rw [lv_app, if_pos rfl, lv_rd]
end M
end Go.Proofs.Ytlekmpidhgjpdaa
