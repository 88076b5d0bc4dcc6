/-
  THE CONTRACTS of package slots: New, isEmpty, find, Radix.
-/
import Derived.Test.YtkpcdfiebjigbaaMem
import Derived.RegionTactic
namespace Go.Proofs.Ytkpcdfiebjigbaa
set_option maxRecDepth 10000
open Go.RowKit
set_option linter.unusedVariables false

set_option maxHeartbeats 400000 in
theorem empty_is (k o r b g n : Int) (v : Bool) (h : (k == 0) = v) (w : World) : Calls Try.prog 40 #[cv ⟨k, o, r, b, g, n⟩] w fun e w' => e = .returned (.bool v) ∧ w.grownBy w' none := by
  go_enter Try.func40, Try.ntmps40
  go_wp2
  go_ret
  exact ⟨rfl, gbAlloc _ _ _⟩

set_option maxHeartbeats 400000 in
theorem new_is (w : World) : Calls Try.prog 27 #[] w fun e w' => ∃ p, e = .returned (.pointer (some ⟨p, 0, none⟩)) ∧ SAt w' p 0 (fun i => w.heap.size ≤ i ∧ i < w'.heap.size) (fun _ => none) ∧ w.grownBy w' none := by
  have hmm := @run_makeMap Try.prog
  go_enter Try.func27, Try.ntmps27
  go_wp2
  go_ret
  refine ⟨w.heap.size + 1, rfl, ⟨w.heap.size, fun _ => none, ⟨?_, ?_, fun _ _ => rfl, fun _ _ h => (nomatch h), fun _ _ _ h _ => (nomatch h)⟩, ⟨by omega, by simp⟩, ⟨by omega, by simp; omega⟩, fun _ _ h => (nomatch h)⟩, ?_⟩
  · have e := Deep.blk_alloc_new (w.alloc (.map #[] 0)) (.cells #[.map (some w.heap.size)] 69)
    rw [Deep.nblk_alloc] at e; exact e
  · exact (KMap.made w).fr (O := fun _ => False) (Fr.grown (gbAlloc _ _ _)) (fun e => e)
  · exact gbTrans (gbAlloc _ _ _) (gbAlloc _ _ _)

/-- What the region reads, in every world that it grows into. -/
structure Reads (W : World) (p b x : Nat) (n i : Int) (v : Value) : Prop where
  c0 : ∀ y : Gr W, y.w.cell? ⟨p, 0, none⟩ = some (.map (some b))
  x0 : ∀ y : Gr W, y.w.cell? ⟨x, 0, none⟩ = some (.int .i64 n)
  x1 : ∀ y : Gr W, y.w.cell? ⟨x, 1, none⟩ = some (.int .i64 i)
  hl : ∀ y : Gr W, (Instr.lookup 67 (.map (some b)) (.int .i64 n) false).run Try.prog y.w = .ok v y.w
theorem Reads.mk' {w W : World} {p b m x : Nat} {K : Int → Option Nat} {S : St} {n i : Int} (h : SA w p b m K S) (hn : I64 n) (g0 : w.grownBy W none) (X : SBox W x n i) : Reads W p b x n i (ptr (K n)) :=
  ⟨fun y => y.g.cell (g0.cell h.cell (by simp)) (by simp), fun y => (X.kept y.g).at0, fun y => (X.kept y.g).at1, fun y => (h.map.fr (O := fun _ => False) (Fr.grown (gbTrans g0 y.g)) (fun e => e)).look n hn⟩

set_option maxHeartbeats 400000 in
theorem find_none (w : World) (p b : Nat) (n i : Int) (H : ∀ W, w.grownBy W none → SBox W w.heap.size n i → Reads W p b w.heap.size n i (.pointer none)) :
    Calls Try.prog 41 #[.pointer (some ⟨p, 0, none⟩), sv n i] w fun e w' => e = .returned (.pointer none) ∧ w.grownBy w' none := by
  go_enter Try.func41, Try.ntmps41
  go_upto_region 1 with fail
  obtain ⟨W, hW, X, g0⟩ := sboxNew w n i
  rw [hW]
  clear hW
  obtain ⟨c0, x0, x1, hl⟩ := H W g0 X
  refine wp_region_grown (by kernel_rfl) (by kernel_rfl) fun _ => ?_
  repeat (go_big_quiet_step (fail))
  refine wpQuiet_nil ?_
  rintro w1 ⟨⟨_, g1⟩, rfl⟩
  clear c0 x0 x1 hl
  obtain ⟨c0, x0, x1, hl⟩ := H w1 (gbTrans g0 g1) (X.kept g1)
  go_wp2
  refine wp_region_grown (by kernel_rfl) (by kernel_rfl) fun _ => ?_
  repeat (go_big_quiet_step (fail))
  refine wpQuiet_nil ?_
  rintro w2 ⟨⟨_, g2⟩, rfl⟩
  go_wp2
  go_ret
  exact ⟨rfl, gbTrans g0 (gbTrans g1 g2)⟩

set_option maxHeartbeats 400000 in
theorem find_out (w : World) (p b q r m : Nat) (n i : Int) (H : ∀ W, w.grownBy W none → SBox W w.heap.size n i → Reads W p b w.heap.size n i (.pointer (some ⟨q, 0, none⟩)))
    (hr : w.cell? ⟨q, 0, none⟩ = some (.int .i64 r)) (hm : wrap64 (2 ^ min r 64) = (m : Int)) (hi : i < 0 ∨ (m : Int) ≤ i) :
    Calls Try.prog 41 #[.pointer (some ⟨p, 0, none⟩), sv n i] w fun e w' => e = .returned (.pointer none) ∧ w.grownBy w' none := by
  have go : ∀ (dn : Bool) (dm : decide (i < 0) = dn) (dk : dn = false → decide ((m : Int) ≤ i) = true), Calls Try.prog 41 #[.pointer (some ⟨p, 0, none⟩), sv n i] w fun e w' => e = .returned (.pointer none) ∧ w.grownBy w' none := by
    intro dn dm dk
    cases dn
    · have dk := dk rfl
      have dk' : decide (i < (m : Int)) = false := by simp at dk ⊢; exact dk
      go_enter Try.func41, Try.ntmps41
      go_upto_region 1 with fail
      obtain ⟨W, hW, X, g0⟩ := sboxNew w n i
      rw [hW]
      clear hW
      obtain ⟨c0, x0, x1, hl⟩ := H W g0 X
      refine wp_region_grown (by kernel_rfl) (by kernel_rfl) fun _ => ?_
      repeat (go_big_quiet_step (fail))
      refine wpQuiet_nil ?_
      rintro w1 ⟨⟨_, g1⟩, rfl⟩
      clear c0 x0 x1 hl
      obtain ⟨c0, x0, x1, hl⟩ := H w1 (gbTrans g0 g1) (X.kept g1)
      have r0 : ∀ y : Gr w1, y.w.cell? ⟨q, 0, none⟩ = some (.int .i64 r) := fun y => y.g.cell (g1.cell (g0.cell hr (by simp)) (by simp)) (by simp)
      go_wp2
      refine wp_region_grown (by kernel_rfl) (by kernel_rfl) fun _ => ?_
      repeat (go_big_quiet_step (fail))
      refine wpQuiet_nil ?_
      rintro w2 ⟨⟨_, g2⟩, rfl⟩
      go_wp2
      go_ret
      exact ⟨rfl, gbTrans g0 (gbTrans g1 g2)⟩
    · clear dk
      go_enter Try.func41, Try.ntmps41
      go_upto_region 1 with fail
      obtain ⟨W, hW, X, g0⟩ := sboxNew w n i
      rw [hW]
      clear hW
      obtain ⟨c0, x0, x1, hl⟩ := H W g0 X
      refine wp_region_grown (by kernel_rfl) (by kernel_rfl) fun _ => ?_
      repeat (go_big_quiet_step (fail))
      refine wpQuiet_nil ?_
      rintro w1 ⟨⟨_, g1⟩, rfl⟩
      clear c0 x0 x1 hl
      obtain ⟨c0, x0, x1, hl⟩ := H w1 (gbTrans g0 g1) (X.kept g1)
      have r0 : ∀ y : Gr w1, y.w.cell? ⟨q, 0, none⟩ = some (.int .i64 r) := fun y => y.g.cell (g1.cell (g0.cell hr (by simp)) (by simp)) (by simp)
      go_wp2
      refine wp_region_grown (by kernel_rfl) (by kernel_rfl) fun _ => ?_
      repeat (go_big_quiet_step (fail))
      refine wpQuiet_nil ?_
      rintro w2 ⟨⟨_, g2⟩, rfl⟩
      go_wp2
      go_ret
      exact ⟨rfl, gbTrans g0 (gbTrans g1 g2)⟩
  exact go _ rfl (fun e => by simp at e ⊢; omega)

set_option maxHeartbeats 400000 in
theorem find_yes (w : World) (p b q r m : Nat) (n : Int) (i : Nat) (H : ∀ W, w.grownBy W none → SBox W w.heap.size n i → Reads W p b w.heap.size n i (.pointer (some ⟨q, 0, none⟩)))
    (hr : w.cell? ⟨q, 0, none⟩ = some (.int .i64 r)) (hm : wrap64 (2 ^ min r 64) = (m : Int)) (hi : i < m) (hm2 : m ≤ 16) :
    Calls Try.prog 41 #[.pointer (some ⟨p, 0, none⟩), sv n i] w fun e w' => e = .returned (.pointer (some ⟨q, 1 + i * 6, none⟩)) ∧ w.grownBy w' none := by
  have d0 : decide ((i : Int) < 0) = false := by simp
  have d1 : decide ((m : Int) ≤ (i : Int)) = false := by simp; omega
  have d2 : decide ((i : Int) < (m : Int)) = true := by simp; omega
  have h16 : (i : Int) < 16 := by omega
  go_enter Try.func41, Try.ntmps41
  go_upto_region 1 with fail
  obtain ⟨W, hW, X, g0⟩ := sboxNew w n i
  rw [hW]
  clear hW
  obtain ⟨c0, x0, x1, hl⟩ := H W g0 X
  refine wp_region_grown (by kernel_rfl) (by kernel_rfl) fun _ => ?_
  repeat (go_big_quiet_step (fail))
  refine wpQuiet_nil ?_
  rintro w1 ⟨⟨_, g1⟩, rfl⟩
  clear c0 x0 x1 hl
  obtain ⟨c0, x0, x1, hl⟩ := H w1 (gbTrans g0 g1) (X.kept g1)
  have r0 : ∀ y : Gr w1, y.w.cell? ⟨q, 0, none⟩ = some (.int .i64 r) := fun y => y.g.cell (g1.cell (g0.cell hr (by simp)) (by simp)) (by simp)
  go_wp2
  refine wp_region_grown (by kernel_rfl) (by kernel_rfl) fun _ => ?_
  repeat (go_big_quiet_step (fail))
  refine wpQuiet_nil ?_
  rintro w2 ⟨⟨_, g2⟩, rfl⟩
  clear c0 x0 x1 hl r0
  obtain ⟨c0, x0, x1, hl⟩ := H w2 (gbTrans g0 (gbTrans g1 g2)) ((X.kept g1).kept g2)
  go_wp2
  refine wp_region_grown (by kernel_rfl) (by kernel_rfl) fun _ => ?_
  repeat (go_big_quiet_step (fail))
  refine wpQuiet_nil ?_
  rintro w3 ⟨⟨_, g3⟩, rfl⟩
  go_wp2
  go_ret
  exact ⟨rfl, gbTrans g0 (gbTrans g1 (gbTrans g2 g3))⟩

/-! ### In the chapter's words -/
/-- Whether there is such a slot. -/
def M.there (S : St) (n i : Int) : Bool := match S n with
  | none => false
  | some d => decide (0 ≤ i) && decide (i < ((2 ^ d.r : Nat) : Int))
theorem M.there_yes {S : St} {n i : Int} (h : M.there S n i = true) : ∃ d, ∃ j : Nat, S n = some d ∧ i = (j : Int) ∧ j < 2 ^ d.r := by
  unfold M.there at h
  cases hs : S n with
  | none => rw [hs] at h; cases h
  | some d =>
    rw [hs] at h
    simp only [Bool.and_eq_true, decide_eq_true_eq] at h
    exact ⟨d, i.toNat, rfl, by omega, by have := h.2; omega⟩
theorem M.there_at {S : St} {n : Int} {d : Nd} {j : Nat} (hs : S n = some d) (hj : j < 2 ^ d.r) : M.there S n j = true := by
  unfold M.there
  rw [hs]
  simp only [Bool.and_eq_true, decide_eq_true_eq]
  omega
theorem M.radW (r : Nat) (h1 : 1 ≤ r) (h4 : r ≤ 4) : wrap64 (2 ^ min r 64) = ((2 ^ r : Nat) : Int) ∧ 2 ^ r ≤ 16 ∧ 2 ≤ 2 ^ r := by
  have : r = 1 ∨ r = 2 ∨ r = 3 ∨ r = 4 := by omega
  rcases this with rfl | rfl | rfl | rfl <;> exact ⟨by decide +kernel, by decide, by decide⟩

theorem SA.has {w : World} {p b m : Nat} {K : Int → Option Nat} {S : St} (h : SA w p b m K S) {n : Int} {d : Nd} (hs : S n = some d) : ∃ q, K n = some q ∧ NodeAt w q d := by
  cases hk : K n with
  | none => rw [h.gone n hk] at hs; cases hs
  | some q =>
    obtain ⟨d', h1, h2⟩ := h.node n q hk
    rw [h1] at hs; cases hs
    exact ⟨q, rfl, h2⟩
theorem SA.kept {w w' : World} {p b m : Nat} {K : Int → Option Nat} {S : St} (h : SA w p b m K S) (g : w.grownBy w' none) : SA w' p b m K S :=
  h.fr (O := fun _ => False) (Fr.grown g) (fun e => e) (fun e => e) (fun _ _ _ e => e)

theorem find_no {w : World} {p b m : Nat} {K : Int → Option Nat} {S : St} (h : SA w p b m K S) (G : Good S) {n i : Int} (hn : I64 n) (ht : M.there S n i = false) :
    Calls Try.prog 41 #[.pointer (some ⟨p, 0, none⟩), sv n i] w fun e w' => e = .returned (.pointer none) ∧ w.grownBy w' none := by
  have H := fun W (g : w.grownBy W none) (X : SBox W w.heap.size n i) => Reads.mk' h hn g X
  cases hk : K n with
  | none => rw [hk] at H; exact find_none w p b n i H
  | some q =>
    rw [hk] at H
    obtain ⟨d, hd, N⟩ := h.node n q hk
    obtain ⟨hm, _, _⟩ := M.radW d.r (G.rad n d hd).1 (G.rad n d hd).2
    refine find_out w p b q d.r (2 ^ d.r) n i H N.rad hm ?_
    unfold M.there at ht
    rw [hd] at ht
    simp only [Bool.and_eq_false_iff, decide_eq_false_iff_not] at ht
    omega
theorem find_at {w : World} {p b m : Nat} {K : Int → Option Nat} {S : St} (h : SA w p b m K S) (G : Good S) {n : Int} {j q : Nat} {d : Nd} (hn : I64 n) (hs : S n = some d) (hk : K n = some q) (hj : j < 2 ^ d.r) :
    Calls Try.prog 41 #[.pointer (some ⟨p, 0, none⟩), sv n j] w fun e w' => e = .returned (.pointer (some ⟨q, 1 + j * 6, none⟩)) ∧ w.grownBy w' none := by
  have H := fun W (g : w.grownBy W none) (X : SBox W w.heap.size n j) => Reads.mk' h hn g X
  rw [hk] at H
  obtain ⟨d', hd, N⟩ := h.node n q hk
  rw [hs] at hd; cases hd
  obtain ⟨hm, h16, _⟩ := M.radW d.r (G.rad n d hs).1 (G.rad n d hs).2
  exact find_yes w p b q d.r (2 ^ d.r) n j H N.rad hm hj h16

def M.rad (S : St) (id : Int) : Int := match S id with
  | none => 0
  | some d => d.r
end Go.Proofs.Ytkpcdfiebjigbaa
