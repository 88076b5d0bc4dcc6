/-
  THE CONTRACTS of package slots: New, isEmpty, find, Radix.
-/
import Derived.Test.YtpfjcfgbecoccaaMem
import Derived.RegionTactic
namespace Go.Proofs.Ytpfjcfgbecoccaa
set_option maxRecDepth 10000
open Go.RowKit
set_option linter.unusedVariables false

set_option maxHeartbeats 400000 in
theorem empty_is (k o r b g n : Int) (v : Bool) (h : (k == 0) = v) (w : World) : Calls Try.prog 28 #[cv ⟨k, o, r, b, g, n⟩] w fun e w' => e = .returned (.bool v) ∧ w.grownBy w' none := by
  go_enter Try.func28, Try.ntmps28
  go_wp2
  go_ret
  exact ⟨rfl, gbAlloc _ _ _⟩

set_option maxHeartbeats 400000 in
theorem new_is (w : World) : Calls Try.prog 36 #[] w fun e w' => ∃ p, e = .returned (.pointer (some ⟨p, 0, none⟩)) ∧ SAt w' p 0 (fun i => w.heap.size ≤ i ∧ i < w'.heap.size) (fun _ => none) ∧ w.grownBy w' none := by
  have hmm := @run_makeMap Try.prog
  go_enter Try.func36, Try.ntmps36
  go_wp2
  go_ret
  refine ⟨w.heap.size + 1, rfl, ⟨w.heap.size, fun _ => none, ⟨?_, ?_, fun _ _ => rfl, fun _ _ h => (nomatch h), fun _ _ _ h _ => (nomatch h)⟩, ⟨by omega, by simp⟩, ⟨by omega, by simp; omega⟩, fun _ _ h => (nomatch h)⟩, ?_⟩
  · have e := Deep.blk_alloc_new (w.alloc (.map #[] 0)) (.cells #[.map (some w.heap.size)] 70)
    rw [Deep.nblk_alloc] at e; exact e
  · exact (KMap.made w).fr (O := fun _ => False) (Fr.grown (gbAlloc _ _ _)) (fun e => e)
  · exact gbTrans (gbAlloc _ _ _) (gbAlloc _ _ _)

set_option maxHeartbeats 400000 in
theorem radix_no (w : World) (p b : Nat) (id : Int) (hc : w.cell? ⟨p, 0, none⟩ = some (.map (some b)))
    (hl : (Instr.lookup 68 (.map (some b)) (.int .i64 id) false).run Try.prog w = .ok (.pointer none) w) :
    Calls Try.prog 21 #[.pointer (some ⟨p, 0, none⟩), .int .i64 id] w fun e w' => e = .returned (.int .i64 0) ∧ w' = w := by
  go_enter Try.func21, Try.ntmps21
  go_wp2
  go_ret
  exact ⟨rfl, rfl⟩

set_option maxHeartbeats 400000 in
theorem radix_yes (w : World) (p b q r : Nat) (id : Int) (hc : w.cell? ⟨p, 0, none⟩ = some (.map (some b)))
    (hl : (Instr.lookup 68 (.map (some b)) (.int .i64 id) false).run Try.prog w = .ok (.pointer (some ⟨q, 0, none⟩)) w) (hr : w.cell? ⟨q, 0, none⟩ = some (.int .i64 r)) :
    Calls Try.prog 21 #[.pointer (some ⟨p, 0, none⟩), .int .i64 id] w fun e w' => e = .returned (.int .i64 r) ∧ w' = w := by
  go_enter Try.func21, Try.ntmps21
  go_wp2
  go_ret
  exact ⟨rfl, rfl⟩

/-- What the region reads, in every world that it grows into. -/
structure Reads (W : World) (p b x : Nat) (n i : Int) (v : Value) : Prop where
  c0 : ∀ y : Gr W, y.w.cell? ⟨p, 0, none⟩ = some (.map (some b))
  x0 : ∀ y : Gr W, y.w.cell? ⟨x, 0, none⟩ = some (.int .i64 n)
  x1 : ∀ y : Gr W, y.w.cell? ⟨x, 1, none⟩ = some (.int .i64 i)
  hl : ∀ y : Gr W, (Instr.lookup 68 (.map (some b)) (.int .i64 n) false).run Try.prog y.w = .ok v y.w
theorem Reads.mk' {w W : World} {p b m x : Nat} {K : Int → Option Nat} {S : St} {n i : Int} (h : SA w p b m K S) (hn : I64 n) (g0 : w.grownBy W none) (X : SBox W x n i) : Reads W p b x n i (ptr (K n)) :=
  ⟨fun y => y.g.cell (g0.cell h.cell (by simp)) (by simp), fun y => (X.kept y.g).at0, fun y => (X.kept y.g).at1, fun y => (h.map.fr (O := fun _ => False) (Fr.grown (gbTrans g0 y.g)) (fun e => e)).look n hn⟩

set_option maxHeartbeats 400000 in
theorem find_none (w : World) (p b : Nat) (n i : Int) (H : ∀ W, w.grownBy W none → SBox W w.heap.size n i → Reads W p b w.heap.size n i (.pointer none)) :
    Calls Try.prog 29 #[.pointer (some ⟨p, 0, none⟩), sv n i] w fun e w' => e = .returned (.pointer none) ∧ w.grownBy w' none := by
  go_enter Try.func29, Try.ntmps29
  go_upto_region 1 with fail
  obtain ⟨W, hW, X, g0⟩ := sboxNew w n i
  rw [hW]
  clear hW
  obtain ⟨c0, x0, x1, hl⟩ := H W g0 X
  refine wp_region_grown (by kernel_rfl) (by kernel_rfl) fun _ => ?_
  repeat (go_big_quiet_step (fail))
  refine wpQuiet_nil ?_
  rintro w1 ⟨⟨_, g1⟩, rfl⟩
  clear c0 x0 x1 hl
  obtain ⟨c0, x0, x1, hl⟩ := H w1 (gbTrans g0 g1) (X.kept g1)
  go_wp2
  refine wp_region_grown (by kernel_rfl) (by kernel_rfl) fun _ => ?_
  repeat (go_big_quiet_step (fail))
  refine wpQuiet_nil ?_
  rintro w2 ⟨⟨_, g2⟩, rfl⟩
  go_wp2
  go_ret
  exact ⟨rfl, gbTrans g0 (gbTrans g1 g2)⟩

set_option maxHeartbeats 400000 in
theorem find_out (w : World) (p b q r m : Nat) (n i : Int) (H : ∀ W, w.grownBy W none → SBox W w.heap.size n i → Reads W p b w.heap.size n i (.pointer (some ⟨q, 0, none⟩)))
    (hr : w.cell? ⟨q, 0, none⟩ = some (.int .i64 r)) (hm : wrap64 (2 ^ min r 64) = (m : Int)) (hi : i < 0 ∨ (m : Int) ≤ i) :
    Calls Try.prog 29 #[.pointer (some ⟨p, 0, none⟩), sv n i] w fun e w' => e = .returned (.pointer none) ∧ w.grownBy w' none := by
  have go : ∀ (dn : Bool) (dm : decide (i < 0) = dn) (dk : dn = false → decide ((m : Int) ≤ i) = true), Calls Try.prog 29 #[.pointer (some ⟨p, 0, none⟩), sv n i] w fun e w' => e = .returned (.pointer none) ∧ w.grownBy w' none := by
    intro dn dm dk
    cases dn
    · have dk := dk rfl
      have dk' : decide (i < (m : Int)) = false := by simp at dk ⊢; exact dk
      go_enter Try.func29, Try.ntmps29
      go_upto_region 1 with fail
      obtain ⟨W, hW, X, g0⟩ := sboxNew w n i
      rw [hW]
      clear hW
      obtain ⟨c0, x0, x1, hl⟩ := H W g0 X
      refine wp_region_grown (by kernel_rfl) (by kernel_rfl) fun _ => ?_
      repeat (go_big_quiet_step (fail))
      refine wpQuiet_nil ?_
      rintro w1 ⟨⟨_, g1⟩, rfl⟩
      clear c0 x0 x1 hl
      obtain ⟨c0, x0, x1, hl⟩ := H w1 (gbTrans g0 g1) (X.kept g1)
      have r0 : ∀ y : Gr w1, y.w.cell? ⟨q, 0, none⟩ = some (.int .i64 r) := fun y => y.g.cell (g1.cell (g0.cell hr (by simp)) (by simp)) (by simp)
      go_wp2
      refine wp_region_grown (by kernel_rfl) (by kernel_rfl) fun _ => ?_
      repeat (go_big_quiet_step (fail))
      refine wpQuiet_nil ?_
      rintro w2 ⟨⟨_, g2⟩, rfl⟩
      go_wp2
      go_ret
      exact ⟨rfl, gbTrans g0 (gbTrans g1 g2)⟩
    · clear dk
      go_enter Try.func29, Try.ntmps29
      go_upto_region 1 with fail
      obtain ⟨W, hW, X, g0⟩ := sboxNew w n i
      rw [hW]
      clear hW
      obtain ⟨c0, x0, x1, hl⟩ := H W g0 X
      refine wp_region_grown (by kernel_rfl) (by kernel_rfl) fun _ => ?_
      repeat (go_big_quiet_step (fail))
      refine wpQuiet_nil ?_
      rintro w1 ⟨⟨_, g1⟩, rfl⟩
      clear c0 x0 x1 hl
      obtain ⟨c0, x0, x1, hl⟩ := H w1 (gbTrans g0 g1) (X.kept g1)
      have r0 : ∀ y : Gr w1, y.w.cell? ⟨q, 0, none⟩ = some (.int .i64 r) := fun y => y.g.cell (g1.cell (g0.cell hr (by simp)) (by simp)) (by simp)
      go_wp2
      refine wp_region_grown (by kernel_rfl) (by kernel_rfl) fun _ => ?_
      repeat (go_big_quiet_step (fail))
      refine wpQuiet_nil ?_
      rintro w2 ⟨⟨_, g2⟩, rfl⟩
      go_wp2
      go_ret
      exact ⟨rfl, gbTrans g0 (gbTrans g1 g2)⟩
  exact go _ rfl (fun e => by simp at e ⊢; omega)

set_option maxHeartbeats 400000 in
theorem find_yes (w : World) (p b q r m : Nat) (n : Int) (i : Nat) (H : ∀ W, w.grownBy W none → SBox W w.heap.size n i → Reads W p b w.heap.size n i (.pointer (some ⟨q, 0, none⟩)))
    (hr : w.cell? ⟨q, 0, none⟩ = some (.int .i64 r)) (hm : wrap64 (2 ^ min r 64) = (m : Int)) (hi : i < m) (hm2 : m ≤ 16) :
    Calls Try.prog 29 #[.pointer (some ⟨p, 0, none⟩), sv n i] w fun e w' => e = .returned (.pointer (some ⟨q, 1 + i * 6, none⟩)) ∧ w.grownBy w' none := by
  have d0 : decide ((i : Int) < 0) = false := by simp
  have d1 : decide ((m : Int) ≤ (i : Int)) = false := by simp; omega
  have d2 : decide ((i : Int) < (m : Int)) = true := by simp; omega
  have h16 : (i : Int) < 16 := by omega
  go_enter Try.func29, Try.ntmps29
  go_upto_region 1 with fail
  obtain ⟨W, hW, X, g0⟩ := sboxNew w n i
  rw [hW]
  clear hW
  obtain ⟨c0, x0, x1, hl⟩ := H W g0 X
  refine wp_region_grown (by kernel_rfl) (by kernel_rfl) fun _ => ?_
  repeat (go_big_quiet_step (fail))
  refine wpQuiet_nil ?_
  rintro w1 ⟨⟨_, g1⟩, rfl⟩
  clear c0 x0 x1 hl
  obtain ⟨c0, x0, x1, hl⟩ := H w1 (gbTrans g0 g1) (X.kept g1)
  have r0 : ∀ y : Gr w1, y.w.cell? ⟨q, 0, none⟩ = some (.int .i64 r) := fun y => y.g.cell (g1.cell (g0.cell hr (by simp)) (by simp)) (by simp)
  go_wp2
  refine wp_region_grown (by kernel_rfl) (by kernel_rfl) fun _ => ?_
  repeat (go_big_quiet_step (fail))
  refine wpQuiet_nil ?_
  rintro w2 ⟨⟨_, g2⟩, rfl⟩
  clear c0 x0 x1 hl r0
  obtain ⟨c0, x0, x1, hl⟩ := H w2 (gbTrans g0 (gbTrans g1 g2)) ((X.kept g1).kept g2)
  go_wp2
  refine wp_region_grown (by kernel_rfl) (by kernel_rfl) fun _ => ?_
  repeat (go_big_quiet_step (fail))
  refine wpQuiet_nil ?_
  rintro w3 ⟨⟨_, g3⟩, rfl⟩
  go_wp2
  go_ret
  exact ⟨rfl, gbTrans g0 (gbTrans g1 (gbTrans g2 g3))⟩

/-! ### In the chapter's words -/
/-- Whether there is such a slot. -/
def M.there (S : St) (n i : Int) : Bool := match S n with
  | none => false
  | some d => decide (0 ≤ i) && decide (i < ((2 ^ d.r : Nat) : Int))
theorem M.there_yes {S : St} {n i : Int} (h : M.there S n i = true) : ∃ d, ∃ j : Nat, S n = some d ∧ i = (j : Int) ∧ j < 2 ^ d.r := by
  unfold M.there at h
  cases hs : S n with
  | none => rw [hs] at h; cases h
  | some d =>
    rw [hs] at h
    simp only [Bool.and_eq_true, decide_eq_true_eq] at h
    exact ⟨d, i.toNat, rfl, by omega, by have := h.2; omega⟩
theorem M.there_at {S : St} {n : Int} {d : Nd} {j : Nat} (hs : S n = some d) (hj : j < 2 ^ d.r) : M.there S n j = true := by
  unfold M.there
  rw [hs]
  simp only [Bool.and_eq_true, decide_eq_true_eq]
  omega
theorem M.radW (r : Nat) (h1 : 1 ≤ r) (h4 : r ≤ 4) : wrap64 (2 ^ min r 64) = ((2 ^ r : Nat) : Int) ∧ 2 ^ r ≤ 16 ∧ 2 ≤ 2 ^ r := by
  have : r = 1 ∨ r = 2 ∨ r = 3 ∨ r = 4 := by omega
  rcases this with rfl | rfl | rfl | rfl <;> exact ⟨by decide +kernel, by decide, by decide⟩

theorem SA.has {w : World} {p b m : Nat} {K : Int → Option Nat} {S : St} (h : SA w p b m K S) {n : Int} {d : Nd} (hs : S n = some d) : ∃ q, K n = some q ∧ NodeAt w q d := by
  cases hk : K n with
  | none => rw [h.gone n hk] at hs; cases hs
  | some q =>
    obtain ⟨d', h1, h2⟩ := h.node n q hk
    rw [h1] at hs; cases hs
    exact ⟨q, rfl, h2⟩
theorem SA.kept {w w' : World} {p b m : Nat} {K : Int → Option Nat} {S : St} (h : SA w p b m K S) (g : w.grownBy w' none) : SA w' p b m K S :=
  h.fr (O := fun _ => False) (Fr.grown g) (fun e => e) (fun e => e) (fun _ _ _ e => e)

theorem find_no {w : World} {p b m : Nat} {K : Int → Option Nat} {S : St} (h : SA w p b m K S) (G : Good S) {n i : Int} (hn : I64 n) (ht : M.there S n i = false) :
    Calls Try.prog 29 #[.pointer (some ⟨p, 0, none⟩), sv n i] w fun e w' => e = .returned (.pointer none) ∧ w.grownBy w' none := by
  have H := fun W (g : w.grownBy W none) (X : SBox W w.heap.size n i) => Reads.mk' h hn g X
  cases hk : K n with
  | none => rw [hk] at H; exact find_none w p b n i H
  | some q =>
    rw [hk] at H
    obtain ⟨d, hd, N⟩ := h.node n q hk
    obtain ⟨hm, _, _⟩ := M.radW d.r (G.rad n d hd).1 (G.rad n d hd).2
    refine find_out w p b q d.r (2 ^ d.r) n i H N.rad hm ?_
    unfold M.there at ht
    rw [hd] at ht
    simp only [Bool.and_eq_false_iff, decide_eq_false_iff_not] at ht
    omega
theorem find_at {w : World} {p b m : Nat} {K : Int → Option Nat} {S : St} (h : SA w p b m K S) (G : Good S) {n : Int} {j q : Nat} {d : Nd} (hn : I64 n) (hs : S n = some d) (hk : K n = some q) (hj : j < 2 ^ d.r) :
    Calls Try.prog 29 #[.pointer (some ⟨p, 0, none⟩), sv n j] w fun e w' => e = .returned (.pointer (some ⟨q, 1 + j * 6, none⟩)) ∧ w.grownBy w' none := by
  have H := fun W (g : w.grownBy W none) (X : SBox W w.heap.size n j) => Reads.mk' h hn g X
  rw [hk] at H
  obtain ⟨d', hd, N⟩ := h.node n q hk
  rw [hs] at hd; cases hd
  obtain ⟨hm, h16, _⟩ := M.radW d.r (G.rad n d hs).1 (G.rad n d hs).2
  exact find_yes w p b q d.r (2 ^ d.r) n j H N.rad hm hj h16

def M.rad (S : St) (id : Int) : Int := match S id with
  | none => 0
  | some d => d.r
theorem radix_is {w : World} {p m : Nat} {O : Nat → Prop} {S : St} (h : SAt w p m O S) (id r : Int) (hid : I64 id) (hr : M.rad S id = r) :
    Calls Try.prog 21 #[.pointer (some ⟨p, 0, none⟩), .int .i64 id] w fun e w' => e = .returned (.int .i64 r) ∧ w.grownBy w' none := by
  subst hr
  obtain ⟨b, K, h, _, _, _⟩ := h
  have hl := h.map.look id hid
  cases hk : K id with
  | none =>
    rw [hk] at hl
    unfold M.rad
    rw [h.gone id hk]
    exact (radix_no w p b id h.cell hl).mono fun e w' k => ⟨k.1, by rw [k.2]; exact gbRefl _ _⟩
  | some q =>
    rw [hk] at hl
    obtain ⟨d, hd, N⟩ := h.node id q hk
    unfold M.rad
    rw [hd]
    exact (radix_yes w p b q d.r id h.cell hl N.rad).mono fun e w' k => ⟨k.1, by rw [k.2]; exact gbRefl _ _⟩
end Go.Proofs.Ytpfjcfgbecoccaa

/-
  THE CONTRACTS of package slots: Get, Put, Take.
-/
namespace Go.Proofs.Ytpfjcfgbecoccaa
set_option maxRecDepth 10000
open Go.RowKit
set_option linter.unusedVariables false

/-- Both parameters, laid. -/
theorem twoNew (w : World) (n i : Int) (c : C) : ∃ W, (w.alloc (.cells #[.int .i64 n, .int .i64 i] 24)).alloc (.cells #[.int .i64 c.k, .int .i64 c.o, .int .i64 c.r, .int .u64 c.b, .int .u64 c.g, .int .i64 c.n] 36) = W ∧
    SBox W w.heap.size n i ∧ Box W (w.heap.size + 1) c ∧ w.grownBy W none :=
  ⟨_, rfl, (SBox.made w n i).kept (gbAlloc _ _ _), by simpa using Box.made (w.alloc (.cells #[.int .i64 n, .int .i64 i] 24)) c, gbTrans (gbAlloc _ _ _) (gbAlloc _ _ _)⟩

abbrev gFind (w : World) (p : Nat) (n i : Int) (v : Value) : Prop := ∀ W, w.grownBy W none → Calls Try.prog 29 #[.pointer (some ⟨p, 0, none⟩), sv n i] W fun e w' => e = .returned v ∧ W.grownBy w' none

set_option maxHeartbeats 400000 in
theorem put_no (w : World) (p : Nat) (n i k o r b g t : Int) (HF : gFind w p n i (.pointer none)) :
    Calls Try.prog 39 #[.pointer (some ⟨p, 0, none⟩), sv n i, cv ⟨k, o, r, b, g, t⟩] w fun e w' => e = .returned (.int .i64 6) ∧ w.grownBy w' none := by
  go_enter Try.func39, Try.ntmps39
  go_upto_region 1 with fail
  obtain ⟨W, hW, X, Y, g0⟩ := twoNew w n i ⟨k, o, r, b, g, t⟩
  simp only at hW
  rw [hW]
  clear hW
  have x0 := X.at0
  have x1 := X.at1
  go_wp2_with fail
  refine (HF _ g0).mono ?_
  rintro _ w1 ⟨rfl, g1⟩
  go_wp2
  go_ret
  exact ⟨rfl, gbTrans g0 g1⟩

set_option maxHeartbeats 400000 in
theorem put_chk (w : World) (p q a : Nat) (n i k o r b g t v : Int) (HF : gFind w p n i (.pointer (some ⟨q, a, none⟩))) (hv : (v != 0) = true)
    (HC : ∀ w, Calls Try.prog 51 #[cv ⟨k, o, r, b, g, t⟩] w fun e w' => e = .returned (.int .i64 v) ∧ w.grownBy w' none) :
    Calls Try.prog 39 #[.pointer (some ⟨p, 0, none⟩), sv n i, cv ⟨k, o, r, b, g, t⟩] w fun e w' => e = .returned (.int .i64 v) ∧ w.grownBy w' none := by
  go_enter Try.func39, Try.ntmps39
  go_upto_region 1 with fail
  obtain ⟨W, hW, X, Y, g0⟩ := twoNew w n i ⟨k, o, r, b, g, t⟩
  simp only at hW
  rw [hW]
  clear hW
  have x0 := X.at0
  have x1 := X.at1
  go_wp2_with fail
  refine (HF _ g0).mono ?_
  rintro _ w1 ⟨rfl, g1⟩
  obtain ⟨y0, y1, y2, y3, y4, y5, _, _⟩ := Y.kept g1
  clear x0 x1
  go_wp2_with fail
  refine (HC _).mono ?_
  rintro _ w2 ⟨rfl, g2⟩
  go_wp2
  go_ret
  exact ⟨rfl, gbTrans g0 (gbTrans g1 g2)⟩

set_option maxHeartbeats 400000 in
theorem put_null (w : World) (p q a : Nat) (n i k o r b g t : Int) (HF : gFind w p n i (.pointer (some ⟨q, a, none⟩))) (hk : (k == 0) = true)
    (HC : ∀ w, Calls Try.prog 51 #[cv ⟨k, o, r, b, g, t⟩] w fun e w' => e = .returned (.int .i64 0) ∧ w.grownBy w' none) :
    Calls Try.prog 39 #[.pointer (some ⟨p, 0, none⟩), sv n i, cv ⟨k, o, r, b, g, t⟩] w fun e w' => e = .returned (.int .i64 3) ∧ w.grownBy w' none := by
  have HE := fun w => empty_is k o r b g t true hk w
  clear hk
  go_enter Try.func39, Try.ntmps39
  go_upto_region 1 with fail
  obtain ⟨W, hW, X, Y, g0⟩ := twoNew w n i ⟨k, o, r, b, g, t⟩
  simp only at hW
  rw [hW]
  clear hW
  have x0 := X.at0
  have x1 := X.at1
  go_wp2_with fail
  refine (HF _ g0).mono ?_
  rintro _ w1 ⟨rfl, g1⟩
  obtain ⟨y0, y1, y2, y3, y4, y5, _, _⟩ := Y.kept g1
  clear x0 x1
  go_wp2_with fail
  refine (HC _).mono ?_
  rintro _ w2 ⟨rfl, g2⟩
  clear y0 y1 y2 y3 y4 y5
  obtain ⟨y0, y1, y2, y3, y4, y5, _, _⟩ := Y.kept (gbTrans g1 g2)
  go_wp2_with fail
  refine (HE _).mono ?_
  rintro _ w3 ⟨rfl, g3⟩
  go_wp2
  go_ret
  exact ⟨rfl, gbTrans g0 (gbTrans g1 (gbTrans g2 g3))⟩

set_option maxHeartbeats 400000 in
theorem put_twice (w : World) (p q a : Nat) (n i k o r b g t k' o' r' b' g' t' : Int) (HF : gFind w p n i (.pointer (some ⟨q, a, none⟩))) (hk : (k == 0) = false) (hk' : (k' == 0) = false) (Z : Cell6 w q a ⟨k', o', r', b', g', t'⟩)
    (HC : ∀ w, Calls Try.prog 51 #[cv ⟨k, o, r, b, g, t⟩] w fun e w' => e = .returned (.int .i64 0) ∧ w.grownBy w' none) :
    Calls Try.prog 39 #[.pointer (some ⟨p, 0, none⟩), sv n i, cv ⟨k, o, r, b, g, t⟩] w fun e w' => e = .returned (.int .i64 4) ∧ w.grownBy w' none := by
  have HE := fun w => empty_is k o r b g t false hk w
  have HE' := fun w => empty_is k' o' r' b' g' t' false hk' w
  clear hk hk'
  go_enter Try.func39, Try.ntmps39
  go_upto_region 1 with fail
  obtain ⟨W, hW, X, Y, g0⟩ := twoNew w n i ⟨k, o, r, b, g, t⟩
  simp only at hW
  rw [hW]
  clear hW
  have x0 := X.at0
  have x1 := X.at1
  go_wp2_with fail
  refine (HF _ g0).mono ?_
  rintro _ w1 ⟨rfl, g1⟩
  obtain ⟨y0, y1, y2, y3, y4, y5, _, _⟩ := Y.kept g1
  clear x0 x1
  go_wp2_with fail
  refine (HC _).mono ?_
  rintro _ w2 ⟨rfl, g2⟩
  clear y0 y1 y2 y3 y4 y5
  obtain ⟨y0, y1, y2, y3, y4, y5, _, _⟩ := Y.kept (gbTrans g1 g2)
  go_wp2_with fail
  refine (HE _).mono ?_
  rintro _ w3 ⟨rfl, g3⟩
  clear y0 y1 y2 y3 y4 y5
  have G3 := gbTrans g0 (gbTrans g1 (gbTrans g2 g3))
  obtain ⟨y0, y1, y2, y3, y4, y5, _⟩ := Z.kept G3
  go_wp2_with fail
  refine (HE' _).mono ?_
  rintro _ w4 ⟨rfl, g4⟩
  go_wp2
  go_ret
  exact ⟨rfl, gbTrans G3 g4⟩

set_option maxHeartbeats 1000000 in
theorem put_yes (w : World) (p q a : Nat) (n i k o r b g t k' o' r' b' g' t' : Int) (HF : gFind w p n i (.pointer (some ⟨q, a, none⟩))) (hk : (k == 0) = false) (hk' : (k' == 0) = true) (Z : Cell6 w q a ⟨k', o', r', b', g', t'⟩)
    (HC : ∀ w, Calls Try.prog 51 #[cv ⟨k, o, r, b, g, t⟩] w fun e w' => e = .returned (.int .i64 0) ∧ w.grownBy w' none) :
    Calls Try.prog 39 #[.pointer (some ⟨p, 0, none⟩), sv n i, cv ⟨k, o, r, b, g, t⟩] w fun e w' => e = .returned (.int .i64 0) ∧ ∃ W, w.grownBy W none ∧ Put6 W w' q a ⟨k, o, r, b, g, t⟩ := by
  have HE := fun w => empty_is k o r b g t false hk w
  have HE' := fun w => empty_is k' o' r' b' g' t' true hk' w
  clear hk hk'
  go_enter Try.func39, Try.ntmps39
  go_upto_region 1 with fail
  obtain ⟨W, hW, X, Y, g0⟩ := twoNew w n i ⟨k, o, r, b, g, t⟩
  simp only at hW
  rw [hW]
  clear hW
  have x0 := X.at0
  have x1 := X.at1
  go_wp2_with fail
  refine (HF _ g0).mono ?_
  rintro _ w1 ⟨rfl, g1⟩
  obtain ⟨y0, y1, y2, y3, y4, y5, _, _⟩ := Y.kept g1
  clear x0 x1
  go_wp2_with fail
  refine (HC _).mono ?_
  rintro _ w2 ⟨rfl, g2⟩
  clear y0 y1 y2 y3 y4 y5
  obtain ⟨y0, y1, y2, y3, y4, y5, _, _⟩ := Y.kept (gbTrans g1 g2)
  go_wp2_with fail
  refine (HE _).mono ?_
  rintro _ w3 ⟨rfl, g3⟩
  clear y0 y1 y2 y3 y4 y5
  have G3 := gbTrans g0 (gbTrans g1 (gbTrans g2 g3))
  obtain ⟨y0, y1, y2, y3, y4, y5, _⟩ := Z.kept G3
  go_wp2_with fail
  refine (HE' _).mono ?_
  rintro _ w4 ⟨rfl, g4⟩
  clear y0 y1 y2 y3 y4 y5
  have G4 := gbTrans G3 g4
  obtain ⟨y0, y1, y2, y3, y4, y5, _, _⟩ := Y.kept (gbTrans g1 (gbTrans g2 (gbTrans g3 g4)))
  obtain ⟨z0, z1, z2, z3, z4, z5, zf⟩ := Z.kept G4
  have f0 := zf a
  have f1 := zf (a + 1)
  have f2 := zf (a + 2)
  have f3 := zf (a + 3)
  have f4 := zf (a + 4)
  have f5 := zf (a + 5)
  clear zf
  go_upto_region 12 with fail
  go_wp2
  go_ret
  exact ⟨rfl, w4, G4, rfl⟩

end Go.Proofs.Ytpfjcfgbecoccaa

/-
  THE CONTRACTS of package slots: Get, Take.
-/
namespace Go.Proofs.Ytpfjcfgbecoccaa
set_option maxRecDepth 10000
open Go.RowKit
set_option linter.unusedVariables false

/-- A slot's name and an empty capability, laid. -/
theorem slotZero (w : World) (n i : Int) : ∃ W, (w.alloc (.cells #[.int .i64 n, .int .i64 i] 24)).alloc (.cells #[.int .i64 0, .int .i64 0, .int .i64 0, .int .u64 0, .int .u64 0, .int .i64 0] 36) = W ∧
    SBox W w.heap.size n i ∧ Box W (w.heap.size + 1) C.zero ∧ w.grownBy W none := twoNew w n i C.zero

set_option maxHeartbeats 1000000 in
theorem get_no (w : World) (p : Nat) (n i : Int) (HF : gFind w p n i (.pointer none)) :
    Calls Try.prog 11 #[.pointer (some ⟨p, 0, none⟩), sv n i] w fun e w' => e = .returned (.tuple #[cv C.zero, .int .i64 6]) ∧ w.grownBy w' none := by
  go_enter Try.func11, Try.ntmps11
  go_upto_region 1 with fail
  obtain ⟨W, hW, X, Y, g0⟩ := slotZero w n i
  rw [hW]
  clear hW
  have x0 := X.at0
  have x1 := X.at1
  go_wp2_with fail
  refine (HF _ g0).mono ?_
  rintro _ w1 ⟨rfl, g1⟩
  have Y1 := Y.kept g1
  obtain ⟨y0, y1, y2, y3, y4, y5, yl, yf⟩ := id Y1
  have f0 := yf 0
  have f1 := yf 1
  have f2 := yf 2
  have f3 := yf 3
  have f4 := yf 4
  have f5 := yf 5
  clear x0 x1
  go_wp2
  obtain ⟨W2, hW2, Y2, g2⟩ := Y1.put C.zero
  simp only at hW2
  rw [hW2]
  clear hW2 y0 y1 y2 y3 y4 y5 f0 f1 f2 f3 f4 f5
  obtain ⟨y0, y1, y2, y3, y4, y5, _, _⟩ := Y2
  exact bodyPost_ret (v := .tuple #[cv C.zero, .int .i64 6]) (by simp [results, Try.results11, go_sem, y0, y1, y2, y3, y4, y5]) rfl ⟨rfl, gbNew (gbTrans (gbAny (gbTrans g0 g1) _) g2) (Nat.le_succ _)⟩

set_option maxHeartbeats 1000000 in
theorem get_yes (w : World) (p q a : Nat) (n i k o r b g t : Int) (HF : gFind w p n i (.pointer (some ⟨q, a, none⟩))) (Z : Cell6 w q a ⟨k, o, r, b, g, t⟩) :
    Calls Try.prog 11 #[.pointer (some ⟨p, 0, none⟩), sv n i] w fun e w' => e = .returned (.tuple #[cv ⟨k, o, r, b, g, t⟩, .int .i64 0]) ∧ w.grownBy w' none := by
  go_enter Try.func11, Try.ntmps11
  go_upto_region 1 with fail
  obtain ⟨W, hW, X, Y, g0⟩ := slotZero w n i
  rw [hW]
  clear hW
  have x0 := X.at0
  have x1 := X.at1
  go_wp2_with fail
  refine (HF _ g0).mono ?_
  rintro _ w1 ⟨rfl, g1⟩
  have Y1 := Y.kept g1
  obtain ⟨y0, y1, y2, y3, y4, y5, yl, yf⟩ := id Y1
  have f0 := yf 0
  have f1 := yf 1
  have f2 := yf 2
  have f3 := yf 3
  have f4 := yf 4
  have f5 := yf 5
  clear x0 x1
  obtain ⟨z0, z1, z2, z3, z4, z5, zf⟩ := Z.kept (gbTrans g0 g1)
  go_wp2
  obtain ⟨W2, hW2, Y2, g2⟩ := Y1.put ⟨k, o, r, b, g, t⟩
  simp only at hW2
  rw [hW2]
  clear hW2 y0 y1 y2 y3 y4 y5 f0 f1 f2 f3 f4 f5
  obtain ⟨y0, y1, y2, y3, y4, y5, _, _⟩ := Y2
  exact bodyPost_ret (v := .tuple #[cv ⟨k, o, r, b, g, t⟩, .int .i64 0]) (by simp [results, Try.results11, go_sem, y0, y1, y2, y3, y4, y5]) rfl ⟨rfl, gbNew (gbTrans (gbAny (gbTrans g0 g1) _) g2) (Nat.le_succ _)⟩

set_option maxHeartbeats 1000000 in
theorem take_no (w : World) (p : Nat) (n i : Int) (HF : gFind w p n i (.pointer none)) :
    Calls Try.prog 59 #[.pointer (some ⟨p, 0, none⟩), sv n i] w fun e w' => e = .returned (.tuple #[cv C.zero, .int .i64 6]) ∧ w.grownBy w' none := by
  go_enter Try.func59, Try.ntmps59
  go_upto_region 1 with fail
  obtain ⟨W, hW, X, Y, g0⟩ := slotZero w n i
  rw [hW]
  clear hW
  have x0 := X.at0
  have x1 := X.at1
  go_wp2_with fail
  refine (HF _ g0).mono ?_
  rintro _ w1 ⟨rfl, g1⟩
  have Y1 := Y.kept g1
  obtain ⟨y0, y1, y2, y3, y4, y5, yl, yf⟩ := id Y1
  have f0 := yf 0
  have f1 := yf 1
  have f2 := yf 2
  have f3 := yf 3
  have f4 := yf 4
  have f5 := yf 5
  clear x0 x1
  go_wp2
  obtain ⟨W2, hW2, Y2, g2⟩ := Y1.put C.zero
  simp only at hW2
  rw [hW2]
  clear hW2 y0 y1 y2 y3 y4 y5 f0 f1 f2 f3 f4 f5
  obtain ⟨y0, y1, y2, y3, y4, y5, _, _⟩ := Y2
  exact bodyPost_ret (v := .tuple #[cv C.zero, .int .i64 6]) (by simp [results, Try.results59, go_sem, y0, y1, y2, y3, y4, y5]) rfl ⟨rfl, gbNew (gbTrans (gbAny (gbTrans g0 g1) _) g2) (Nat.le_succ _)⟩

set_option maxHeartbeats 1000000 in
theorem take_null (w : World) (p q a : Nat) (n i k o r b g t : Int) (HF : gFind w p n i (.pointer (some ⟨q, a, none⟩))) (Z : Cell6 w q a ⟨k, o, r, b, g, t⟩) (hk : (k == 0) = true) :
    Calls Try.prog 59 #[.pointer (some ⟨p, 0, none⟩), sv n i] w fun e w' => e = .returned (.tuple #[cv C.zero, .int .i64 3]) ∧ w.grownBy w' none := by
  have HE := fun w => empty_is k o r b g t true hk w
  clear hk
  go_enter Try.func59, Try.ntmps59
  go_upto_region 1 with fail
  obtain ⟨W, hW, X, Y, g0⟩ := slotZero w n i
  rw [hW]
  clear hW
  have x0 := X.at0
  have x1 := X.at1
  go_wp2_with fail
  refine (HF _ g0).mono ?_
  rintro _ w1 ⟨rfl, g1⟩
  clear x0 x1
  obtain ⟨z0, z1, z2, z3, z4, z5, zf⟩ := Z.kept (gbTrans g0 g1)
  go_wp2_with fail
  refine (HE _).mono ?_
  rintro _ w2 ⟨rfl, g2⟩
  clear z0 z1 z2 z3 z4 z5 zf
  have Y1 := Y.kept (gbTrans g1 g2)
  obtain ⟨y0, y1, y2, y3, y4, y5, yl, yf⟩ := id Y1
  have f0 := yf 0
  have f1 := yf 1
  have f2 := yf 2
  have f3 := yf 3
  have f4 := yf 4
  have f5 := yf 5
  go_wp2
  obtain ⟨W2, hW2, Y2, g3⟩ := Y1.put C.zero
  simp only at hW2
  rw [hW2]
  clear hW2 y0 y1 y2 y3 y4 y5 f0 f1 f2 f3 f4 f5
  obtain ⟨y0, y1, y2, y3, y4, y5, _, _⟩ := Y2
  exact bodyPost_ret (v := .tuple #[cv C.zero, .int .i64 3]) (by simp [results, Try.results59, go_sem, y0, y1, y2, y3, y4, y5]) rfl ⟨rfl, gbNew (gbTrans (gbAny (gbTrans g0 (gbTrans g1 g2)) _) g3) (Nat.le_succ _)⟩

/-- A slot has become empty; a new block was written behind that. -/
def Took (w w' : World) (q a : Nat) : Prop := ∃ W W', w.grownBy W none ∧ Put6 W W' q a C.zero ∧ ∃ x, w.heap.size ≤ x ∧ W'.grownBy w' (some x)

set_option maxHeartbeats 1000000 in
theorem take_yes (w : World) (p q a : Nat) (n i k o r b g t : Int) (HF : gFind w p n i (.pointer (some ⟨q, a, none⟩))) (Z : Cell6 w q a ⟨k, o, r, b, g, t⟩) (hk : (k == 0) = false) :
    Calls Try.prog 59 #[.pointer (some ⟨p, 0, none⟩), sv n i] w fun e w' => e = .returned (.tuple #[cv ⟨k, o, r, b, g, t⟩, .int .i64 0]) ∧ Took w w' q a := by
  have HE := fun w => empty_is k o r b g t false hk w
  clear hk
  go_enter Try.func59, Try.ntmps59
  go_upto_region 1 with fail
  obtain ⟨W, hW, X, Y, g0⟩ := slotZero w n i
  rw [hW]
  clear hW
  have x0 := X.at0
  have x1 := X.at1
  have hqw : q < w.heap.size := World.block_lt_of_cell? w _ Z.at0
  go_wp2_with fail
  refine (HF _ g0).mono ?_
  rintro _ w1 ⟨rfl, g1⟩
  clear x0 x1
  obtain ⟨z0, z1, z2, z3, z4, z5, zf⟩ := Z.kept (gbTrans g0 g1)
  go_wp2_with fail
  refine (HE _).mono ?_
  rintro _ w2 ⟨rfl, g2⟩
  clear z0 z1 z2 z3 z4 z5 zf
  have G2 := gbTrans g0 (gbTrans g1 g2)
  have Z2 := Z.kept G2
  obtain ⟨z0, z1, z2, z3, z4, z5, zf⟩ := id Z2
  go_upto_region 7 with fail
  obtain ⟨W3, hW3, V, g3⟩ := boxNew w2 ⟨k, o, r, b, g, t⟩
  simp only at hW3
  rw [hW3]
  clear hW3 z0 z1 z2 z3 z4 z5 zf
  have G3 := gbTrans G2 g3
  have Z3 := Z2.kept g3
  obtain ⟨z0, z1, z2, z3, z4, z5, zf⟩ := id Z3
  have f0 := zf a
  have f1 := zf (a + 1)
  have f2 := zf (a + 2)
  have f3 := zf (a + 3)
  have f4 := zf (a + 4)
  have f5 := zf (a + 5)
  go_upto_region 8 with fail
  obtain ⟨W4, hP, g4⟩ := Put6.mk W3 q a C.zero
  have hW4 := hP
  unfold Put6 at hW4
  simp only at hW4
  rw [hW4]
  clear hW4 z0 z1 z2 z3 z4 z5 zf f0 f1 f2 f3 f4 f5
  have Y1 := ((Y.kept (gbTrans g1 g2)).kept g3).keep g4 (by simp; omega)
  have V1 := V.keep g4 (by simp; have := G2.size; omega)
  obtain ⟨v0, v1, v2, v3, v4, v5, vl, vf⟩ := id V1
  obtain ⟨y0, y1, y2, y3, y4, y5, yl, yf⟩ := id Y1
  have f0 := yf 0
  have f1 := yf 1
  have f2 := yf 2
  have f3 := yf 3
  have f4 := yf 4
  have f5 := yf 5
  go_wp2
  obtain ⟨W5, hW5, Y2, g5⟩ := Y1.put ⟨k, o, r, b, g, t⟩
  simp only at hW5
  rw [hW5]
  clear hW5 y0 y1 y2 y3 y4 y5 f0 f1 f2 f3 f4 f5
  obtain ⟨y0, y1, y2, y3, y4, y5, _, _⟩ := Y2
  exact bodyPost_ret (v := .tuple #[cv ⟨k, o, r, b, g, t⟩, .int .i64 0]) (by simp [results, Try.results59, go_sem, y0, y1, y2, y3, y4, y5]) rfl ⟨rfl, W3, W4, G3, hP, _, Nat.le_succ _, g5⟩

/-! ### In the chapter's words -/
namespace M
/-- What lies in a slot; the empty one where there is none. -/
def getC (S : St) (n i : Int) : C := match S n with
  | none => C.zero
  | some d => if there S n i then d.f i.toNat else C.zero
def getE (S : St) (n i : Int) : Int := if there S n i then 0 else 6
/-- A slot written over. -/
def upd (S : St) (n i : Int) (c : C) : St := fun id => if id = n then (S n).map (fun d => d.set i.toNat c) else S id
def putE (S : St) (n i : Int) (c : C) : Int := if there S n i then (if chk c = 0 then (if c.k = 0 then 3 else if (getC S n i).k = 0 then 0 else 4) else chk c) else 6
def putS (S : St) (n i : Int) (c : C) : St := if putE S n i c = 0 then upd S n i c else S
def takeE (S : St) (n i : Int) : Int := if there S n i then (if (getC S n i).k = 0 then 3 else 0) else 6
def takeC (S : St) (n i : Int) : C := if takeE S n i = 0 then getC S n i else C.zero
def takeS (S : St) (n i : Int) : St := if takeE S n i = 0 then upd S n i C.zero else S

theorem getC_at {S : St} {n : Int} {d : Nd} {j : Nat} (hs : S n = some d) (hj : j < 2 ^ d.r) : getC S n j = d.f j := by
  unfold getC
  rw [hs, there_at hs hj]
  simp
theorem getC_no {S : St} {n i : Int} (h : there S n i = false) : getC S n i = C.zero := by
  unfold getC
  rw [h]
  cases S n <;> rfl
end M

theorem Nd.set_at (d : Nd) (i : Nat) (c : C) (j : Nat) : (d.set i c).f j = if j = i then c else d.f j := rfl
theorem Nd.set_r (d : Nd) (i : Nat) (c : C) : (d.set i c).r = d.r := rfl

theorem Good.upd {S : St} (G : Good S) {n i : Int} {c : C} (ht : M.there S n i = true) (hc : M.chk c = 0) (hz : c.k = 0 → c = C.zero) : Good (M.upd S n i c) := by
  obtain ⟨d0, j, hd0, rfl, hj⟩ := M.there_yes ht
  have key : ∀ id d, M.upd S n j c id = some d → (id = n ∧ d = d0.set j c) ∨ (id ≠ n ∧ S id = some d) := by
    intro id d h
    unfold M.upd at h
    by_cases e : id = n
    · rw [if_pos e, hd0] at h
      simp at h
      exact .inl ⟨e, h.symm⟩
    · rw [if_neg e] at h
      exact .inr ⟨e, h⟩
  refine ⟨?_, ?_, ?_, ?_, ?_⟩
  · intro id d h
    rcases key id d h with ⟨rfl, _⟩ | ⟨_, h⟩
    · exact G.lo _ _ hd0
    · exact G.lo _ _ h
  · intro id d h
    rcases key id d h with ⟨rfl, rfl⟩ | ⟨_, h⟩
    · exact G.rad _ d0 hd0
    · exact G.rad _ _ h
  · intro id d i h hi
    rcases key id d h with ⟨rfl, rfl⟩ | ⟨_, h⟩
    · rw [Nd.set_r] at hi
      rw [Nd.set_at, if_neg (by omega)]
      exact G.out _ d0 i hd0 hi
    · exact G.out _ _ i h hi
  · intro id d i h
    rcases key id d h with ⟨rfl, rfl⟩ | ⟨_, h⟩
    · rw [Nd.set_at]
      split
      · exact hz
      · exact G.nul _ d0 i hd0
    · exact G.nul _ _ i h
  · intro id d i h
    rcases key id d h with ⟨rfl, rfl⟩ | ⟨_, h⟩
    · rw [Nd.set_at]
      split
      · exact hc
      · exact G.chk _ d0 i hd0
    · exact G.chk _ _ i h

theorem M.chk_zero : M.chk C.zero = 0 := by decide +kernel
theorem M.putE_ok {S : St} {n i : Int} {c : C} (h : M.putE S n i c = 0) : M.there S n i = true ∧ M.chk c = 0 ∧ c.k ≠ 0 ∧ (M.getC S n i).k = 0 := by
  unfold M.putE at h
  split at h
  · rename_i h1
    split at h
    · rename_i h2
      split at h
      · cases h
      · rename_i h3
        split at h
        · rename_i h4; exact ⟨h1, h2, h3, h4⟩
        · cases h
    · rename_i h2; exact absurd h h2
  · cases h
theorem M.takeE_ok {S : St} {n i : Int} (h : M.takeE S n i = 0) : M.there S n i = true ∧ (M.getC S n i).k ≠ 0 := by
  unfold M.takeE at h
  split at h
  · rename_i h1
    split at h
    · cases h
    · rename_i h2; exact ⟨h1, h2⟩
  · cases h
theorem Good.put {S : St} (G : Good S) (n i : Int) (c : C) : Good (M.putS S n i c) := by
  unfold M.putS
  split
  · rename_i h
    obtain ⟨h1, h2, h3, _⟩ := M.putE_ok h
    exact G.upd h1 h2 (fun e => absurd e h3)
  · exact G
theorem Good.take {S : St} (G : Good S) (n i : Int) : Good (M.takeS S n i) := by
  unfold M.takeS
  split
  · rename_i h
    exact G.upd (M.takeE_ok h).1 M.chk_zero (fun _ => rfl)
  · exact G

theorem SA.upd {w w' : World} {p b m : Nat} {K : Int → Option Nat} {S : St} (h : SA w p b m K S) {n : Int} {j q : Nat} {d : Nd} {c : C} (hs : S n = some d) (hk : K n = some q) (hj : j < 16) (hP : Put6 w w' q (1 + j * 6) c) :
    SA w' p b m K (M.upd S n j c) ∧ w.grownBy w' (some q) := by
  obtain ⟨d', hd', N⟩ := h.node n q hk
  rw [hs] at hd'; cases hd'
  obtain ⟨N', g⟩ := N.put j c hj hP
  have F : Fr (fun i => i = q) w w' := Fr.at g rfl
  refine ⟨⟨(F.block p h.plt (h.qp hk).symm).trans h.box, h.map.fr F (h.qb hk).symm, ?_, ?_, h.inj⟩, g⟩
  · intro id hid
    unfold M.upd
    rw [if_neg (by rintro rfl; rw [hk] at hid; cases hid)]
    exact h.gone id hid
  · intro id q' hid
    unfold M.upd
    by_cases e : id = n
    · subst e
      rw [hk] at hid; cases hid
      rw [if_pos rfl, hs]
      exact ⟨d.set j c, by simp, N'⟩
    · rw [if_neg e]
      obtain ⟨d2, h2, N2⟩ := h.node id q' hid
      exact ⟨d2, h2, N2.fr F (fun e2 => e (h.inj id n q' hid (by rw [e2]; exact hk)))⟩

theorem find_g {w : World} {p b m : Nat} {K : Int → Option Nat} {S : St} (h : SA w p b m K S) (G : Good S) {n : Int} {j q : Nat} {d : Nd} (hn : I64 n) (hs : S n = some d) (hk : K n = some q) (hj : j < 2 ^ d.r) :
    gFind w p n j (.pointer (some ⟨q, 1 + j * 6, none⟩)) := fun W g => find_at (h.kept g) G hn hs hk hj

theorem get_is {w : World} {p m : Nat} {O : Nat → Prop} {S : St} (h : SAt w p m O S) (G : Good S) (n i k o r b g t e : Int) (hn : I64 n) (hc : M.getC S n i = ⟨k, o, r, b, g, t⟩) (he : M.getE S n i = e) :
    Calls Try.prog 11 #[.pointer (some ⟨p, 0, none⟩), sv n i] w fun x w' => x = .returned (.tuple #[cv ⟨k, o, r, b, g, t⟩, .int .i64 e]) ∧ w.grownBy w' none := by
  obtain ⟨bb, K, h, _, _, _⟩ := h
  subst he
  cases ht : M.there S n i
  · rw [M.getC_no ht] at hc
    have : M.getE S n i = 6 := by unfold M.getE; rw [ht]; rfl
    rw [this, ← hc]
    exact get_no w p n i (fun W g => find_no (h.kept g) G hn ht)
  · obtain ⟨d, j, hs, rfl, hj⟩ := M.there_yes ht
    obtain ⟨q, hk, N⟩ := h.has hs
    have : M.getE S n j = 0 := by unfold M.getE; rw [ht]; rfl
    rw [this]
    rw [M.getC_at hs hj] at hc
    have h16 := (M.radW d.r (G.rad n d hs).1 (G.rad n d hs).2).2.1
    have Z := N.six j (by omega)
    rw [hc] at Z
    exact get_yes w p q _ n j k o r b g t (find_g h G hn hs hk hj) Z

theorem put_is {w : World} {p m : Nat} {O : Nat → Prop} {S : St} (h : SAt w p m O S) (G : Good S) (n i k o r b g t e : Int) (hn : I64 n) (hb : 0 ≤ b) (hg : 0 ≤ g) (he : M.putE S n i ⟨k, o, r, b, g, t⟩ = e) :
    Calls Try.prog 39 #[.pointer (some ⟨p, 0, none⟩), sv n i, cv ⟨k, o, r, b, g, t⟩] w fun x w' => x = .returned (.int .i64 e) ∧ SAt w' p m O (M.putS S n i ⟨k, o, r, b, g, t⟩) ∧ Fr O w w' := by
  obtain ⟨bb, K, h, op, ob, oq⟩ := h
  have HC := fun w => check_is k o r b g t _ hb hg rfl w
  have still : M.putE S n i ⟨k, o, r, b, g, t⟩ ≠ 0 → ∀ w', w.grownBy w' none → SAt w' p m O (M.putS S n i ⟨k, o, r, b, g, t⟩) ∧ Fr O w w' := by
    intro hne w' gw
    unfold M.putS
    rw [if_neg hne]
    exact ⟨⟨bb, K, h.kept gw, op, ob, oq⟩, Fr.grown gw⟩
  subst he
  cases ht : M.there S n i
  · have e : M.putE S n i ⟨k, o, r, b, g, t⟩ = 6 := by unfold M.putE; rw [ht]; rfl
    refine (put_no w p n i k o r b g t (fun W g => find_no (h.kept g) G hn ht)).mono fun x w' q => ⟨by rw [q.1, e], still (by rw [e]; decide) w' q.2⟩
  · obtain ⟨d, j, hs, rfl, hj⟩ := M.there_yes ht
    obtain ⟨q, hk, N⟩ := h.has hs
    have HF := find_g h G hn hs hk hj
    have h16 := (M.radW d.r (G.rad n d hs).1 (G.rad n d hs).2).2.1
    have Z := N.six j (by omega)
    by_cases h0 : M.chk ⟨k, o, r, b, g, t⟩ = 0
    · rw [h0] at HC
      by_cases hk0 : k = 0
      · have e : M.putE S n j ⟨k, o, r, b, g, t⟩ = 3 := by unfold M.putE; rw [ht, if_pos rfl, if_pos h0, if_pos hk0]
        refine (put_null w p q _ n j k o r b g t HF (by simpa using hk0) HC).mono fun x w' q => ⟨by rw [q.1, e], still (by rw [e]; decide) w' q.2⟩
      · by_cases hk1 : (d.f j).k = 0
        · have e : M.putE S n j ⟨k, o, r, b, g, t⟩ = 0 := by unfold M.putE; rw [ht, if_pos rfl, if_pos h0, if_neg hk0, M.getC_at hs hj, if_pos hk1]
          refine (put_yes w p q _ n j k o r b g t _ _ _ _ _ _ HF (by simpa using hk0) (by simpa using hk1) Z HC).mono ?_
          rintro x w' ⟨rfl, W, gW, hP⟩
          obtain ⟨h2, g2⟩ := (h.kept gW).upd hs hk (by omega) hP
          have : M.putS S n j ⟨k, o, r, b, g, t⟩ = M.upd S n j ⟨k, o, r, b, g, t⟩ := by unfold M.putS; rw [if_pos e]
          rw [e, this]
          exact ⟨rfl, ⟨bb, K, h2, op, ob, oq⟩, (Fr.grown gW).trans (Fr.at g2 (oq n q hk))⟩
        · have e : M.putE S n j ⟨k, o, r, b, g, t⟩ = 4 := by unfold M.putE; rw [ht, if_pos rfl, if_pos h0, if_neg hk0, M.getC_at hs hj, if_neg hk1]
          refine (put_twice w p q _ n j k o r b g t _ _ _ _ _ _ HF (by simpa using hk0) (by simpa using hk1) Z HC).mono fun x w' q => ⟨by rw [q.1, e], still (by rw [e]; decide) w' q.2⟩
    · have e : M.putE S n j ⟨k, o, r, b, g, t⟩ = M.chk ⟨k, o, r, b, g, t⟩ := by unfold M.putE; rw [ht, if_pos rfl, if_neg h0]
      refine (put_chk w p q _ n j k o r b g t _ HF (by simpa using h0) HC).mono fun x w' q => ⟨by rw [q.1, e], still (by rw [e]; exact h0) w' q.2⟩

theorem take_is {w : World} {p m : Nat} {O : Nat → Prop} {S : St} (h : SAt w p m O S) (G : Good S) (n i k o r b g t e : Int) (hn : I64 n) (hc : M.takeC S n i = ⟨k, o, r, b, g, t⟩) (he : M.takeE S n i = e) :
    Calls Try.prog 59 #[.pointer (some ⟨p, 0, none⟩), sv n i] w fun x w' => x = .returned (.tuple #[cv ⟨k, o, r, b, g, t⟩, .int .i64 e]) ∧ SAt w' p m O (M.takeS S n i) ∧ Fr O w w' := by
  obtain ⟨bb, K, h, op, ob, oq⟩ := h
  have still : M.takeE S n i ≠ 0 → cv C.zero = cv ⟨k, o, r, b, g, t⟩ ∧ ∀ w', w.grownBy w' none → SAt w' p m O (M.takeS S n i) ∧ Fr O w w' := by
    intro hne
    unfold M.takeS
    unfold M.takeC at hc
    rw [if_neg hne] at hc ⊢
    exact ⟨by rw [← hc], fun w' gw => ⟨⟨bb, K, h.kept gw, op, ob, oq⟩, Fr.grown gw⟩⟩
  subst he
  cases ht : M.there S n i
  · have e : M.takeE S n i = 6 := by unfold M.takeE; rw [ht]; rfl
    obtain ⟨h1, h2⟩ := still (by rw [e]; decide)
    refine (take_no w p n i (fun W g => find_no (h.kept g) G hn ht)).mono fun x w' q => ⟨by rw [q.1, e, h1], h2 w' q.2⟩
  · obtain ⟨d, j, hs, rfl, hj⟩ := M.there_yes ht
    obtain ⟨q, hk, N⟩ := h.has hs
    have HF := find_g h G hn hs hk hj
    have h16 := (M.radW d.r (G.rad n d hs).1 (G.rad n d hs).2).2.1
    have Z := N.six j (by omega)
    by_cases hk1 : (d.f j).k = 0
    · have e : M.takeE S n j = 3 := by unfold M.takeE; rw [ht, if_pos rfl, M.getC_at hs hj, if_pos hk1]
      obtain ⟨h1, h2⟩ := still (by rw [e]; decide)
      refine (take_null w p q _ n j _ _ _ _ _ _ HF Z (by simpa using hk1)).mono fun x w' q => ⟨by rw [q.1, e, h1], h2 w' q.2⟩
    · have e : M.takeE S n j = 0 := by unfold M.takeE; rw [ht, if_pos rfl, M.getC_at hs hj, if_neg hk1]
      have ec : M.takeC S n j = d.f j := by unfold M.takeC; rw [if_pos e, M.getC_at hs hj]
      have es : M.takeS S n j = M.upd S n j C.zero := by unfold M.takeS; rw [if_pos e]
      rw [ec] at hc
      rw [hc] at Z hk1
      refine (take_yes w p q _ n j k o r b g t HF Z (by simpa using hk1)).mono ?_
      rintro x w' ⟨rfl, W, W', gW, hP, y, hy, g3⟩
      obtain ⟨h2, g2⟩ := (h.kept gW).upd hs hk (by omega) hP
      have F2 : Fr O w W' := (Fr.grown gW).trans (Fr.at g2 (oq n q hk))
      have hlt : ∀ z, z < w.heap.size → z ≠ y := fun z hz e => by omega
      have F3 : Fr (fun z => z = y) W' w' := Fr.at g3 rfl
      have h3 := h2.fr F3 (hlt _ h.plt) (hlt _ h.map.lt) (fun id q' hq' => by obtain ⟨d', _, N'⟩ := h.node id q' hq'; exact hlt _ N'.lt)
      rw [e, es]
      refine ⟨rfl, ⟨bb, K, h3, op, ob, oq⟩, F2.join F3 (fun z hz e => absurd e (hlt z hz))⟩

end Go.Proofs.Ytpfjcfgbecoccaa

/-
  THE CONTRACTS of package slots: Add, Drop.
-/
namespace Go.Proofs.Ytpfjcfgbecoccaa
set_option maxRecDepth 10000
open Go.RowKit Go.Maps
set_option linter.unusedVariables false

/-- A new node's cells. -/
def newCells (r : Int) : Array Value := #[.int .i64 r, .int .i64 0, .int .i64 0, .int .i64 0, .int .u64 0, .int .u64 0, .int .i64 0, .int .i64 0, .int .i64 0, .int .i64 0, .int .u64 0, .int .u64 0, .int .i64 0, .int .i64 0, .int .i64 0, .int .i64 0, .int .u64 0, .int .u64 0, .int .i64 0, .int .i64 0, .int .i64 0, .int .i64 0, .int .u64 0, .int .u64 0, .int .i64 0, .int .i64 0, .int .i64 0, .int .i64 0, .int .u64 0, .int .u64 0, .int .i64 0, .int .i64 0, .int .i64 0, .int .i64 0, .int .u64 0, .int .u64 0, .int .i64 0, .int .i64 0, .int .i64 0, .int .i64 0, .int .u64 0, .int .u64 0, .int .i64 0, .int .i64 0, .int .i64 0, .int .i64 0, .int .u64 0, .int .u64 0, .int .i64 0, .int .i64 0, .int .i64 0, .int .i64 0, .int .u64 0, .int .u64 0, .int .i64 0, .int .i64 0, .int .i64 0, .int .i64 0, .int .u64 0, .int .u64 0, .int .i64 0, .int .i64 0, .int .i64 0, .int .i64 0, .int .u64 0, .int .u64 0, .int .i64 0, .int .i64 0, .int .i64 0, .int .i64 0, .int .u64 0, .int .u64 0, .int .i64 0, .int .i64 0, .int .i64 0, .int .i64 0, .int .u64 0, .int .u64 0, .int .i64 0, .int .i64 0, .int .i64 0, .int .i64 0, .int .u64 0, .int .u64 0, .int .i64 0, .int .i64 0, .int .i64 0, .int .i64 0, .int .u64 0, .int .u64 0, .int .i64 0, .int .i64 0, .int .i64 0, .int .i64 0, .int .u64 0, .int .u64 0, .int .i64 0]

theorem zeroNode (w : World) : (zeroValue 74).run Try.prog w = .ok (.agg (newCells 0)) w := by kernel_rfl
theorem newCells_ne : (newCells 0 = #[]) = False := by simp [newCells]
theorem newCells_set (r : Int) : (newCells 0).setIfInBounds 0 (.int .i64 r) = newCells r := by rfl
theorem newCells_is (r : Nat) (i : Nat) (hi : i < 97) : (newCells r)[i]? = some (ndv ⟨r, fun _ => C.zero⟩ i) := by
  have h : (newCells r).toList = (List.range 97).map (ndv ⟨r, fun _ => C.zero⟩) := by rfl
  rw [← Array.getElem?_toList, h]
  simp [hi]
theorem nodeNew (w : World) (r : Nat) : ∃ W, w.alloc (.cells (newCells r) 74) = W ∧ NodeAt W w.heap.size ⟨r, fun _ => C.zero⟩ ∧ w.grownBy W none :=
  ⟨_, rfl, World.rowIs_alloc w (newCells r) 74 _ (fun i hi => newCells_is r i hi), gbAlloc _ _ _⟩

theorem wpList_put_node {w : World} {ops : Array Oper} {rest : List Oper} {o : Oper} {a : Act} {Q : Exit → Act → World → Prop} (hg : o.guard = none) (m x v : Operand) (hop : o.op = Op.mapUpdate 68 m x v)
    (b n q : Nat) (K : Int → Option Nat) (id : Int) (hm : a.eval m = .map (some b)) (hx : a.eval x = .int .i64 id) (hv : a.eval v = .pointer (some ⟨q, 0, none⟩)) (h : KMap w b n K) (hid : I64 id) (hn : n ≤ 1000)
    (hK : ∀ w', KMap w' b (n + 1) (fun j => if j = id then some q else K j) → w.grownBy w' (some b) → wpList Try.prog ops Q rest (a.put o.dst undef) w') : wpList Try.prog ops Q (o :: rest) a w := by
  refine wpList_plain hg fun K' hK' => ?_
  obtain ⟨w', hrun, r1, r2⟩ := h.put id q hid hn
  unfold Oper.wp
  simp [execOp, hop, hm, hx, hv, hrun, Result.andThen]
  exact hK' _ _ (hK w' r1 r2)

theorem wpList_del_node {w : World} {ops : Array Oper} {rest : List Oper} {o : Oper} {a : Act} {Q : Exit → Act → World → Prop} (hg : o.guard = none) (m x : Operand) (hop : o.op = Op.call { callee := Callee.builtin Builtin.delete, args := #[m, x], argTypes := #[68, 3] })
    (b n : Nat) (K : Int → Option Nat) (id : Int) (hm : a.eval m = .map (some b)) (hx : a.eval x = .int .i64 id) (h : KMap w b n K) (hid : I64 id)
    (hK : ∀ w', KMap w' b n (fun j => if j = id then none else K j) → w.grownBy w' (some b) → wpList Try.prog ops Q rest (a.put o.dst (.tuple #[])) w') : wpList Try.prog ops Q (o :: rest) a w := by
  refine wpList_plain hg fun K' hK' => ?_
  obtain ⟨w', hrun, r1, r2⟩ := h.del id hid o.type
  unfold Oper.wp
  simp [execOp, hop, resolve, invoke, builtin, hm, hx, hrun, Result.andThen]
  exact hK' _ _ (hK w' r1 r2)

set_option maxHeartbeats 400000 in
theorem add_range (w : World) (p : Nat) (id r : Int) (h : ¬ (0 ≤ id ∧ id ≤ 63 ∧ 1 ≤ r ∧ r ≤ 4)) :
    Calls Try.prog 38 #[.pointer (some ⟨p, 0, none⟩), .int .i64 id, .int .i64 r] w fun e w' => e = .returned (.int .i64 1) ∧ w' = w := by
  by_cases c1 : id < 0
  · clear h
    go_enter Try.func38, Try.ntmps38
    go_wp2
    go_ret
    exact ⟨rfl, rfl⟩
  · by_cases c2 : 64 ≤ id
    · clear h
      go_enter Try.func38, Try.ntmps38
      go_wp2
      go_ret
      exact ⟨rfl, rfl⟩
    · by_cases c3 : r < 1
      · clear h
        go_enter Try.func38, Try.ntmps38
        go_wp2
        go_ret
        exact ⟨rfl, rfl⟩
      · have c4 : 4 < r := by omega
        clear h
        go_enter Try.func38, Try.ntmps38
        go_wp2
        go_ret
        exact ⟨rfl, rfl⟩

set_option maxHeartbeats 400000 in
theorem add_twice (w : World) (p b q : Nat) (id r : Int) (c1 : ¬ id < 0) (c2 : ¬ 64 ≤ id) (c3 : ¬ r < 1) (c4 : ¬ 4 < r) (hc : w.cell? ⟨p, 0, none⟩ = some (.map (some b)))
    (hl : (Instr.lookup 68 (.map (some b)) (.int .i64 id) false).run Try.prog w = .ok (.pointer (some ⟨q, 0, none⟩)) w) :
    Calls Try.prog 38 #[.pointer (some ⟨p, 0, none⟩), .int .i64 id, .int .i64 r] w fun e w' => e = .returned (.int .i64 4) ∧ w' = w := by
  go_enter Try.func38, Try.ntmps38
  go_wp2
  go_ret
  exact ⟨rfl, rfl⟩

/-- A node was laid, and its pointer into the map. -/
def Added (w w' : World) (b n r : Nat) (K : Int → Option Nat) (id : Int) : Prop :=
  ∃ W, NodeAt W w.heap.size ⟨r, fun _ => C.zero⟩ ∧ w.grownBy W none ∧ W.heap.size = w.heap.size + 1 ∧ W.grownBy w' (some b) ∧ KMap w' b (n + 1) (fun j => if j = id then some w.heap.size else K j)

set_option maxHeartbeats 1000000 in
theorem add_yes (w : World) (p b n r : Nat) (K : Int → Option Nat) (id : Int) (c1 : ¬ id < 0) (c2 : ¬ 64 ≤ id) (c3 : ¬ (r : Int) < 1) (c4 : ¬ 4 < (r : Int)) (hc : w.cell? ⟨p, 0, none⟩ = some (.map (some b)))
    (hl : (Instr.lookup 68 (.map (some b)) (.int .i64 id) false).run Try.prog w = .ok (.pointer none) w) (hM : KMap w b n K) (hid : I64 id) (hn : n ≤ 1000) :
    Calls Try.prog 38 #[.pointer (some ⟨p, 0, none⟩), .int .i64 id, .int .i64 r] w fun e w' => e = .returned (.int .i64 0) ∧ Added w w' b n r K id := by
  have z0 := zeroNode
  have z1 := newCells_ne
  have z2 := newCells_set r
  go_enter Try.func38, Try.ntmps38
  go_wp2_with (at_mapUpdate; refine wpList_put_node rfl _ _ _ rfl b n w.heap.size K id rfl rfl rfl (hM.fr (O := fun _ => False) (Fr.grown (gbAlloc _ _ _)) (fun e => e)) hid hn ?_; intro w' hM' hg')
  go_ret
  exact ⟨rfl, _, World.rowIs_alloc w (newCells r) 74 _ (fun i hi => newCells_is r i hi), gbAlloc _ _ _, by simp, hg', hM'⟩

/-! ### A node's slots as one value -/
def rowCells (d : Nd) : Array Value := #[.int .i64 (d.f 0).k, .int .i64 (d.f 0).o, .int .i64 (d.f 0).r, .int .u64 (d.f 0).b, .int .u64 (d.f 0).g, .int .i64 (d.f 0).n, .int .i64 (d.f 1).k, .int .i64 (d.f 1).o, .int .i64 (d.f 1).r, .int .u64 (d.f 1).b, .int .u64 (d.f 1).g, .int .i64 (d.f 1).n, .int .i64 (d.f 2).k, .int .i64 (d.f 2).o, .int .i64 (d.f 2).r, .int .u64 (d.f 2).b, .int .u64 (d.f 2).g, .int .i64 (d.f 2).n, .int .i64 (d.f 3).k, .int .i64 (d.f 3).o, .int .i64 (d.f 3).r, .int .u64 (d.f 3).b, .int .u64 (d.f 3).g, .int .i64 (d.f 3).n, .int .i64 (d.f 4).k, .int .i64 (d.f 4).o, .int .i64 (d.f 4).r, .int .u64 (d.f 4).b, .int .u64 (d.f 4).g, .int .i64 (d.f 4).n, .int .i64 (d.f 5).k, .int .i64 (d.f 5).o, .int .i64 (d.f 5).r, .int .u64 (d.f 5).b, .int .u64 (d.f 5).g, .int .i64 (d.f 5).n, .int .i64 (d.f 6).k, .int .i64 (d.f 6).o, .int .i64 (d.f 6).r, .int .u64 (d.f 6).b, .int .u64 (d.f 6).g, .int .i64 (d.f 6).n, .int .i64 (d.f 7).k, .int .i64 (d.f 7).o, .int .i64 (d.f 7).r, .int .u64 (d.f 7).b, .int .u64 (d.f 7).g, .int .i64 (d.f 7).n, .int .i64 (d.f 8).k, .int .i64 (d.f 8).o, .int .i64 (d.f 8).r, .int .u64 (d.f 8).b, .int .u64 (d.f 8).g, .int .i64 (d.f 8).n, .int .i64 (d.f 9).k, .int .i64 (d.f 9).o, .int .i64 (d.f 9).r, .int .u64 (d.f 9).b, .int .u64 (d.f 9).g, .int .i64 (d.f 9).n, .int .i64 (d.f 10).k, .int .i64 (d.f 10).o, .int .i64 (d.f 10).r, .int .u64 (d.f 10).b, .int .u64 (d.f 10).g, .int .i64 (d.f 10).n, .int .i64 (d.f 11).k, .int .i64 (d.f 11).o, .int .i64 (d.f 11).r, .int .u64 (d.f 11).b, .int .u64 (d.f 11).g, .int .i64 (d.f 11).n, .int .i64 (d.f 12).k, .int .i64 (d.f 12).o, .int .i64 (d.f 12).r, .int .u64 (d.f 12).b, .int .u64 (d.f 12).g, .int .i64 (d.f 12).n, .int .i64 (d.f 13).k, .int .i64 (d.f 13).o, .int .i64 (d.f 13).r, .int .u64 (d.f 13).b, .int .u64 (d.f 13).g, .int .i64 (d.f 13).n, .int .i64 (d.f 14).k, .int .i64 (d.f 14).o, .int .i64 (d.f 14).r, .int .u64 (d.f 14).b, .int .u64 (d.f 14).g, .int .i64 (d.f 14).n, .int .i64 (d.f 15).k, .int .i64 (d.f 15).o, .int .i64 (d.f 15).r, .int .u64 (d.f 15).b, .int .u64 (d.f 15).g, .int .i64 (d.f 15).n]
theorem rowCells_is (d : Nd) : (rowCells d).toList = (List.range 96).map (fun k => ndv d (1 + k)) := by rfl
theorem rowCells_part (d : Nd) : ∀ i, i < 16 → (rowCells d).extract (i * 6) (i * 6 + 6) = #[.int .i64 (d.f i).k, .int .i64 (d.f i).o, .int .i64 (d.f i).r, .int .u64 (d.f i).b, .int .u64 (d.f i).g, .int .i64 (d.f i).n]
  | 0, _ => rfl
  | 1, _ => rfl
  | 2, _ => rfl
  | 3, _ => rfl
  | 4, _ => rfl
  | 5, _ => rfl
  | 6, _ => rfl
  | 7, _ => rfl
  | 8, _ => rfl
  | 9, _ => rfl
  | 10, _ => rfl
  | 11, _ => rfl
  | 12, _ => rfl
  | 13, _ => rfl
  | 14, _ => rfl
  | 15, _ => rfl
  | n + 16, h => absurd h (by omega)
theorem Try.sizeRow : (Try.prog.info? 72).map (·.size) = some 96 := by kernel_rfl
theorem NodeAt.load {w : World} {q : Nat} {d : Nd} (h : NodeAt w q d) : (Instr.loadAt 72 (.pointer (some ⟨q, 1, none⟩))).run Try.prog w = .ok (.agg (rowCells d)) w := by
  have := run_loadAt_mid (P := Try.prog) w q 1 72 (rowCells d).toList _ (fun j v hv => by
    rw [rowCells_is] at hv
    simp only [List.getElem?_map, Option.map_eq_some_iff] at hv
    obtain ⟨k, hk, rfl⟩ := hv
    obtain ⟨hk1, rfl⟩ := List.getElem?_eq_some_iff.1 hk
    simp at hk1
    simp only [List.getElem_range]
    exact World.rowIs.cell h (by omega)) Try.underlying72 rfl (by rw [Try.sizeRow, rowCells_is]; simp)
  simpa using this
def emptyRow : Nd := ⟨0, fun _ => C.zero⟩
theorem zeroRow (w : World) : (Instr.build 72 #[]).run Try.prog w = .ok (.agg (rowCells emptyRow)) w := by kernel_rfl

theorem run_equal_cap_in (w : World) (d : Nat) (a0 a1 a2 a3 a4 a5 b0 b1 b2 b3 b4 b5 : Int) : (Op.equalIn (d + 2) 36 (.agg #[.int .i64 a0, .int .i64 a1, .int .i64 a2, .int .u64 a3, .int .u64 a4, .int .i64 a5]) (.agg #[.int .i64 b0, .int .i64 b1, .int .i64 b2, .int .u64 b3, .int .u64 b4, .int .i64 b5])).run Try.prog w = .ok (M.eq ⟨a0, a1, a2, a3, a4, a5⟩ ⟨b0, b1, b2, b3, b4, b5⟩) w := by
  rw [run_equalIn_agg w (d + 1) 36 _ _ (by kernel_rfl) (by kernel_rfl)]
  simp only [go_sem, Program.fieldsOf, Try.underlying36]
  by_cases h0 : a0 = b0
  · by_cases h1 : a1 = b1
    · by_cases h2 : a2 = b2
      · by_cases h3 : a3 = b3
        · by_cases h4 : a4 = b4
          · by_cases h5 : a5 = b5
            all_goals simp [M.eq, go_sem, Try.underlying3, Try.underlying28, h0, h1, h2, h3, h4, h5]
          · simp [M.eq, go_sem, Try.underlying3, Try.underlying28, h0, h1, h2, h3, h4]
        · simp [M.eq, go_sem, Try.underlying3, Try.underlying28, h0, h1, h2, h3]
      · simp [M.eq, go_sem, Try.underlying3, Try.underlying28, h0, h1, h2]
    · simp [M.eq, go_sem, Try.underlying3, Try.underlying28, h0, h1]
  · simp [M.eq, go_sem, Try.underlying3, Try.underlying28, h0]

theorem part_row (w : World) (d : Nd) (i : Nat) (hi : i < 16) : (part 36 (rowCells d) (i * 6)).run Try.prog w = .ok (cv (d.f i)) w := by
  have h1 : (isAgg 36).run Try.prog w = .ok true w := by kernel_rfl
  simp [part, Sem.run_bind, h1, rowCells_part d i hi]

theorem eqItems_row (w : World) (d e : Nd) (m : Nat) : ∀ l : List Nat, (∀ i ∈ l, i < 16) → (Op.eqItems (m + 2) 36 6 (rowCells d) (rowCells e) l).run Try.prog w = .ok (l.all fun i => M.eq (d.f i) (e.f i)) w
  | [], _ => by simp [Op.eqItems]
  | i :: l, h => by
    have hi := h i (by simp)
    have ih := eqItems_row w d e m l (fun j hj => h j (by simp [hj]))
    simp only [Op.eqItems, Sem.run_bind, part_row w d i hi, part_row w e i hi, Result.andThen_ok, run_equal_cap_in]
    cases hq : M.eq (d.f i) (e.f i)
    · simp [hq]
    · simp [hq, ih]

theorem run_neq_row (w : World) (d e : Nd) : (binOp .neq 72 (.agg (rowCells d)) (.agg (rowCells e))).run Try.prog w = .ok (.bool (!(List.range 16).all fun i => M.eq (d.f i) (e.f i))) w := by
  have hc : Try.prog.cellsOf 36 = 6 := by kernel_rfl
  obtain ⟨i, hi⟩ : ∃ i, Try.prog.info? 36 = some i := Option.isSome_iff_exists.1 (by kernel_rfl)
  rw [run_neq_struct, run_equalIn_array w 9999 _ _ Try.underlying72 hi, hc, eqItems_row w d e 9997 _ (by simp)]
  rfl
theorem eqGuardRow : Try.prog.eqGuardType Try.prog.depth 72 = false := by kernel_rfl

/-! ### At the operations -/
theorem wpList_row_load {w : World} {ops : Array Oper} {rest : List Oper} {o : Oper} {a : Act} {Q : Exit → Act → World → Prop} (hg : o.guard = none) (x : Operand) (ho : o.op = .load 72 x)
    (q : Nat) (A : Array Value) (hx : a.eval x = .pointer (some ⟨q, 1, none⟩)) (hl : (Instr.loadAt 72 (.pointer (some ⟨q, 1, none⟩))).run Try.prog w = .ok (.agg A) w)
    (h : wpList Try.prog ops Q rest (a.put o.dst (.agg A)) w) : wpList Try.prog ops Q (o :: rest) a w :=
  wpList_plain hg fun K' hK' => by
    unfold Oper.wp execOp
    simp only [ho, hx, Sem.run_bind, hl, Result.andThen_ok, Sem.run_pure]
    exact hK' _ _ h
theorem wpList_row_zero {w : World} {ops : Array Oper} {rest : List Oper} {o : Oper} {a : Act} {Q : Exit → Act → World → Prop} (hg : o.guard = none) (ho : o.op = .build 72 #[])
    (Z : Array Value) (hz : (Instr.build 72 #[]).run Try.prog w = .ok (.agg Z) w)
    (h : wpList Try.prog ops Q rest (a.put o.dst (.agg Z)) w) : wpList Try.prog ops Q (o :: rest) a w :=
  wpList_plain hg fun K' hK' => by
    unfold Oper.wp execOp
    simp only [ho, Sem.run_bind, List.map_toArray, List.map_nil, hz, Result.andThen_ok, Sem.run_pure]
    exact hK' _ _ h
theorem wpList_row_neq {w : World} {ops : Array Oper} {rest : List Oper} {o : Oper} {a : Act} {Q : Exit → Act → World → Prop} (hg : o.guard = none) (x y : Operand) (ho : o.op = .binOp .neq 72 x y 72)
    (A Z : Array Value) (v : Bool) (hx : a.eval x = .agg A) (hy : a.eval y = .agg Z) (hr : (binOp .neq 72 (.agg A) (.agg Z)).run Try.prog w = .ok (.bool v) w)
    (h : wpList Try.prog ops Q rest (a.put o.dst (.bool v)) w) : wpList Try.prog ops Q (o :: rest) a w :=
  wpList_plain hg fun K' hK' => by
    unfold Oper.wp execOp
    simp only [ho, hx, hy, Sem.run_bind, run_eqGuard_agg w _ _ _ _ _ _ eqGuardRow, hr, Result.andThen_ok, Sem.run_pure]
    exact hK' _ _ h

set_option maxHeartbeats 400000 in
theorem drop_no (w : World) (p b : Nat) (id : Int) (hc : w.cell? ⟨p, 0, none⟩ = some (.map (some b)))
    (hl : (Instr.lookup 68 (.map (some b)) (.int .i64 id) false).run Try.prog w = .ok (.pointer none) w) :
    Calls Try.prog 73 #[.pointer (some ⟨p, 0, none⟩), .int .i64 id] w fun e w' => e = .returned (.int .i64 3) ∧ w' = w := by
  go_enter Try.func73, Try.ntmps73
  go_wp2
  go_ret
  exact ⟨rfl, rfl⟩

set_option maxHeartbeats 400000 in
theorem drop_state (w : World) (p b q : Nat) (d : Nd) (id : Int) (hc : w.cell? ⟨p, 0, none⟩ = some (.map (some b))) (N : NodeAt w q d)
    (hl : (Instr.lookup 68 (.map (some b)) (.int .i64 id) false).run Try.prog w = .ok (.pointer (some ⟨q, 0, none⟩)) w) (he : ((List.range 16).all fun i => M.eq (d.f i) (emptyRow.f i)) = false) :
    Calls Try.prog 73 #[.pointer (some ⟨p, 0, none⟩), .int .i64 id] w fun e w' => e = .returned (.int .i64 8) ∧ w' = w := by
  have h1 := N.load
  have h2 := zeroRow
  have h3 := fun w => run_neq_row w d emptyRow
  have qe := eqGuardRow
  rw [he] at h3
  clear N he
  generalize rowCells d = A at h1 h3
  generalize rowCells emptyRow = Z at h2 h3
  go_enter Try.func73, Try.ntmps73
  go_wp2_with (first | (refine wpList_row_load rfl _ rfl q A rfl h1 ?_) | (refine wpList_row_zero rfl rfl Z (h2 _) ?_) | (refine wpList_row_neq rfl _ _ rfl A Z _ rfl rfl (h3 _) ?_))
  go_ret
  exact ⟨rfl, rfl⟩

set_option maxHeartbeats 400000 in
theorem drop_yes (w : World) (p b q n : Nat) (K : Int → Option Nat) (d : Nd) (id : Int) (hc : w.cell? ⟨p, 0, none⟩ = some (.map (some b))) (N : NodeAt w q d) (hM : KMap w b n K) (hid : I64 id)
    (hl : (Instr.lookup 68 (.map (some b)) (.int .i64 id) false).run Try.prog w = .ok (.pointer (some ⟨q, 0, none⟩)) w) (he : ((List.range 16).all fun i => M.eq (d.f i) (emptyRow.f i)) = true) :
    Calls Try.prog 73 #[.pointer (some ⟨p, 0, none⟩), .int .i64 id] w fun e w' => e = .returned (.int .i64 0) ∧ KMap w' b n (fun j => if j = id then none else K j) ∧ w.grownBy w' (some b) := by
  have h1 := N.load
  have h2 := zeroRow
  have h3 := fun w => run_neq_row w d emptyRow
  have qe := eqGuardRow
  rw [he] at h3
  clear N he
  generalize rowCells d = A at h1 h3
  generalize rowCells emptyRow = Z at h2 h3
  go_enter Try.func73, Try.ntmps73
  go_wp2_with (first | (at_delete; refine wpList_del_node rfl _ _ rfl b n K id rfl rfl hM hid ?_; intro w' hM' hg') | (refine wpList_row_load rfl _ rfl q A rfl h1 ?_) | (refine wpList_row_zero rfl rfl Z (h2 _) ?_) | (refine wpList_row_neq rfl _ _ rfl A Z _ rfl rfl (h3 _) ?_))
  go_ret
  exact ⟨rfl, hM', hg'⟩

/-! ### In the chapter's words -/
namespace M
def inB (id r : Int) : Bool := decide (0 ≤ id) && decide (id ≤ 63) && decide (1 ≤ r) && decide (r ≤ 4)
def addE (S : St) (id r : Int) : Int := if inB id r then (match S id with | none => 0 | some _ => 4) else 1
def addS (S : St) (id r : Int) : St := if addE S id r = 0 then fun j => if j = id then some ⟨r.toNat, fun _ => C.zero⟩ else S j else S
/-- Whether all slots are empty. -/
def nulN (d : Nd) : Bool := (List.range 16).all fun i => (d.f i).k == 0
def dropE (S : St) (id : Int) : Int := match S id with
  | none => 3
  | some d => if nulN d then 0 else 8
def dropS (S : St) (id : Int) : St := if dropE S id = 0 then fun j => if j = id then none else S j else S
theorem addE_ok {S : St} {id r : Int} (h : addE S id r = 0) : inB id r = true ∧ S id = none := by
  unfold addE at h
  split at h
  · rename_i h1
    cases hs : S id with
    | none => exact ⟨h1, rfl⟩
    | some d => rw [hs] at h; cases h
  · cases h
theorem inB_yes {id r : Int} (h : inB id r = true) : 0 ≤ id ∧ id ≤ 63 ∧ ∃ n : Nat, r = n ∧ 1 ≤ n ∧ n ≤ 4 := by
  simp only [inB, Bool.and_eq_true, decide_eq_true_eq] at h
  exact ⟨by omega, by omega, r.toNat, by omega, by omega, by omega⟩
end M

theorem Good.add {S : St} (G : Good S) (id r : Int) : Good (M.addS S id r) := by
  unfold M.addS
  split
  · rename_i h
    obtain ⟨h1, _⟩ := M.addE_ok h
    obtain ⟨i0, i1, n, rfl, n1, n4⟩ := M.inB_yes h1
    have key : ∀ j d, (if j = id then some (⟨(n : Int).toNat, fun _ => C.zero⟩ : Nd) else S j) = some d → (j = id ∧ d = ⟨n, fun _ => C.zero⟩) ∨ S j = some d := by
      intro j d h
      split at h
      · rename_i e; simp at h; exact .inl ⟨e, h.symm⟩
      · exact .inr h
    refine ⟨?_, ?_, ?_, ?_, ?_⟩
    · intro j d h
      rcases key j d h with ⟨rfl, _⟩ | h
      · exact ⟨i0, i1⟩
      · exact G.lo _ _ h
    · intro j d h
      rcases key j d h with ⟨_, rfl⟩ | h
      · exact ⟨n1, n4⟩
      · exact G.rad _ _ h
    · intro j d i h hi
      rcases key j d h with ⟨_, rfl⟩ | h
      · rfl
      · exact G.out _ _ i h hi
    · intro j d i h
      rcases key j d h with ⟨_, rfl⟩ | h
      · exact fun _ => rfl
      · exact G.nul _ _ i h
    · intro j d i h
      rcases key j d h with ⟨_, rfl⟩ | h
      · exact M.chk_zero
      · exact G.chk _ _ i h
  · exact G
theorem Good.drop {S : St} (G : Good S) (id : Int) : Good (M.dropS S id) := by
  unfold M.dropS
  split
  · have key : ∀ j d, (if j = id then (Option.none : Option Nd) else S j) = some d → S j = some d := by
      intro j d h
      split at h
      · cases h
      · exact h
    exact ⟨fun j d h => G.lo _ _ (key j d h), fun j d h => G.rad _ _ (key j d h), fun j d i h => G.out _ _ i (key j d h), fun j d i h => G.nul _ _ i (key j d h), fun j d i h => G.chk _ _ i (key j d h)⟩
  · exact G

theorem SAt.still {w : World} {p m : Nat} {O : Nat → Prop} {S : St} (h : SAt w p m O S) : SAt w p (m + 1) (fun i => O i ∨ (i = w.heap.size ∧ i < w.heap.size)) S := h.mono (fun i hi => .inl hi) (by omega)

theorem add_is {w : World} {p m : Nat} {O : Nat → Prop} {S : St} (h : SAt w p m O S) (G : Good S) (id r e : Int) (hid : I64 id) (hm : m ≤ 1000) (he : M.addE S id r = e) :
    Calls Try.prog 38 #[.pointer (some ⟨p, 0, none⟩), .int .i64 id, .int .i64 r] w fun x w' => x = .returned (.int .i64 e) ∧ SAt w' p (m + 1) (fun i => O i ∨ (i = w.heap.size ∧ i < w'.heap.size)) (M.addS S id r) ∧ Fr O w w' := by
  subst he
  have H := h
  obtain ⟨b, K, h, op, ob, oq⟩ := h
  have hl := h.map.look id hid
  cases hB : M.inB id r
  · have e : M.addE S id r = 1 := by unfold M.addE; rw [hB]; rfl
    have es : M.addS S id r = S := by unfold M.addS; rw [if_neg (by rw [e]; decide)]
    rw [e, es]
    refine (add_range w p id r ?_).mono ?_
    · simp only [M.inB, Bool.and_eq_false_iff, decide_eq_false_iff_not] at hB; omega
    · rintro x w' ⟨rfl, rfl⟩; exact ⟨rfl, H.still, Fr.refl _ _⟩
  · obtain ⟨i0, i1, n, rfl, n1, n4⟩ := M.inB_yes hB
    cases hk : K id with
    | some q =>
      rw [hk] at hl
      obtain ⟨d, hd, _⟩ := h.node id q hk
      have e : M.addE S id n = 4 := by unfold M.addE; rw [hB, hd]; rfl
      have es : M.addS S id n = S := by unfold M.addS; rw [if_neg (by rw [e]; decide)]
      rw [e, es]
      refine (add_twice w p b q id n (by omega) (by omega) (by omega) (by omega) h.cell hl).mono ?_
      rintro x w' ⟨rfl, rfl⟩; exact ⟨rfl, H.still, Fr.refl _ _⟩
    | none =>
      rw [hk] at hl
      have hs := h.gone id hk
      have e : M.addE S id n = 0 := by unfold M.addE; rw [hB, hs]; rfl
      have es : M.addS S id n = fun j => if j = id then some ⟨n, fun _ => C.zero⟩ else S j := by unfold M.addS; rw [if_pos e]; simp
      rw [e, es]
      refine (add_yes w p b m n K id (by omega) (by omega) (by omega) (by omega) h.cell hl h.map hid hm).mono ?_
      rintro x w' ⟨rfl, W, N, g0, hz, g1, KM⟩
      have F1 : Fr (fun i => i = b) W w' := Fr.at g1 rfl
      have h1 := h.kept g0
      have hnew : w.heap.size < w'.heap.size := by have := g1.size; omega
      refine ⟨rfl, ⟨b, _, ⟨(F1.block p h1.plt h1.pb).trans h1.box, KM, ?_, ?_, ?_⟩, .inl op, .inl ob, ?_⟩, (Fr.grown g0).trans (Fr.at g1 ob)⟩
      · intro j hj
        split at hj
        · cases hj
        · rename_i hne; rw [if_neg hne]; exact h.gone j hj
      · intro j q hj
        split at hj
        · rename_i he
          cases hj
          rw [if_pos he]
          exact ⟨_, rfl, N.fr F1 (fun e2 => by have := h.map.lt; omega)⟩
        · rename_i hne
          rw [if_neg hne]
          obtain ⟨d, hd, N2⟩ := h1.node j q hj
          exact ⟨d, hd, N2.fr F1 (h1.qb hj)⟩
      · have lt : ∀ j q, K j = some q → q < w.heap.size := fun j q hj => by obtain ⟨_, _, N2⟩ := h.node j q hj; exact N2.lt
        intro j j' q hj hj'
        split at hj
        · rename_i e1
          cases hj
          split at hj'
          · rename_i e2; rw [e1, e2]
          · exact absurd (lt _ _ hj') (Nat.lt_irrefl _)
        · split at hj'
          · cases hj'; exact absurd (lt _ _ hj) (Nat.lt_irrefl _)
          · exact h.inj j j' q hj hj'
      · intro j q hj
        split at hj
        · cases hj; exact .inr ⟨rfl, hnew⟩
        · exact .inl (oq j q hj)

theorem M.nulN_is {S : St} (G : Good S) {id : Int} {d : Nd} (hd : S id = some d) : ((List.range 16).all fun i => M.eq (d.f i) (emptyRow.f i)) = M.nulN d := by
  unfold M.nulN
  congr 1
  funext i
  have hz : emptyRow.f i = C.zero := rfl
  rw [hz]
  by_cases h : (d.f i).k = 0
  · rw [G.nul id d i hd h]; rfl
  · have h1 : ((d.f i).k == 0) = false := by simpa using h
    rw [h1]
    cases hq : M.eq (d.f i) C.zero
    · rfl
    · rw [M.eq_iff.1 hq] at h; exact absurd rfl h

theorem drop_is {w : World} {p m : Nat} {O : Nat → Prop} {S : St} (h : SAt w p m O S) (G : Good S) (id e : Int) (hid : I64 id) (he : M.dropE S id = e) :
    Calls Try.prog 73 #[.pointer (some ⟨p, 0, none⟩), .int .i64 id] w fun x w' => x = .returned (.int .i64 e) ∧ SAt w' p m O (M.dropS S id) ∧ Fr O w w' := by
  subst he
  have H := h
  obtain ⟨b, K, h, op, ob, oq⟩ := h
  have hl := h.map.look id hid
  cases hk : K id with
  | none =>
    rw [hk] at hl
    have e : M.dropE S id = 3 := by unfold M.dropE; rw [h.gone id hk]
    have es : M.dropS S id = S := by unfold M.dropS; rw [if_neg (by rw [e]; decide)]
    rw [e, es]
    refine (drop_no w p b id h.cell hl).mono ?_
    rintro x w' ⟨rfl, rfl⟩; exact ⟨rfl, H, Fr.refl _ _⟩
  | some q =>
    rw [hk] at hl
    obtain ⟨d, hd, N⟩ := h.node id q hk
    have hn := M.nulN_is G hd
    cases hz : M.nulN d
    · have e : M.dropE S id = 8 := by unfold M.dropE; rw [hd]; simp [hz]
      have es : M.dropS S id = S := by unfold M.dropS; rw [if_neg (by rw [e]; decide)]
      rw [e, es]
      refine (drop_state w p b q d id h.cell N hl (hn.trans hz)).mono ?_
      rintro x w' ⟨rfl, rfl⟩; exact ⟨rfl, H, Fr.refl _ _⟩
    · have e : M.dropE S id = 0 := by unfold M.dropE; rw [hd]; simp [hz]
      have es : M.dropS S id = fun j => if j = id then none else S j := by unfold M.dropS; rw [if_pos e]
      rw [e, es]
      refine (drop_yes w p b q m K d id h.cell N h.map hid hl (hn.trans hz)).mono ?_
      rintro x w' ⟨rfl, KM, g⟩
      have F1 : Fr (fun i => i = b) w w' := Fr.at g rfl
      refine ⟨rfl, ⟨b, _, ⟨(F1.block p h.plt h.pb).trans h.box, KM, ?_, ?_, ?_⟩, op, ob, ?_⟩, Fr.at g ob⟩
      · intro j hj
        split
        · rfl
        · rename_i hne; rw [if_neg hne] at hj; exact h.gone j hj
      · intro j q hj
        split at hj
        · cases hj
        · rename_i hne
          rw [if_neg hne]
          obtain ⟨d, hd, N2⟩ := h.node j q hj
          exact ⟨d, hd, N2.fr F1 (h.qb hj)⟩
      · intro j j' q hj hj'
        split at hj
        · cases hj
        · split at hj'
          · cases hj'
          · exact h.inj j j' q hj hj'
      · intro j q hj
        split at hj
        · cases hj
        · exact oq j q hj

end Go.Proofs.Ytpfjcfgbecoccaa
