/-
  THE CONTRACTS of package notice: New, take, Signal, Wait, Cancel, Bind, Unbind, Bound, State. What each answers, plain.
-/
import Derived.Test.YtehgfeflbkdjdaaTwo
import Derived.Deep.RegionHeld3
import Derived.Deep.DeepCutAuto
namespace Go.Proofs.Ytehgfeflbkdjdaa
set_option maxRecDepth 10000
open Go.RowKit
set_option linter.unusedVariables false

/-! ### The chapter's answers: W the word, b who is bound, L who waits -/
/-- Two words together, bit by bit. -/
def M.or (W g : Int) : Int := bits .or .u64 W g
/-- Signal: whether somebody is woken, who, by which word; the word behind it. -/
def M.so (b : Option Int) (L : List Int) (bd : Bool) : Bool := match L, b, bd with
  | _ :: _, _, _ => true
  | [], some _, true => true
  | [], _, _ => false
def M.si (b : Option Int) (L : List Int) (bd : Bool) : Int := match L, b, bd with
  | x :: _, _, _ => x
  | [], some a, true => a
  | [], _, _ => 0
def M.sv (W : Int) (b : Option Int) (L : List Int) (g : Int) (bd : Bool) : Int := match L, b, bd with
  | _ :: _, _, _ => g
  | [], some _, true => M.or W g
  | [], _, _ => 0
def M.sw (W : Int) (b : Option Int) (L : List Int) (g : Int) (bd : Bool) : Int := match L, b, bd with
  | _ :: _, _, _ => W
  | [], some _, true => 0
  | [], _, _ => M.or W g
/-- Wait: the word, whether there is one, the word behind it, who waits. -/
def M.wv (W : Int) (L : List Int) (a : Int) : Int := if M.pe L a = 0 then W else 0
def M.wb (W : Int) (L : List Int) (a : Int) : Bool := decide (M.pe L a = 0 ∧ W ≠ 0)
def M.ww (W : Int) (L : List Int) (a : Int) : Int := if M.pe L a = 0 then 0 else W
def M.wl (W : Int) (L : List Int) (a : Int) (wt : Bool) : List Int := if M.pe L a = 0 ∧ W = 0 ∧ wt = true then L ++ [a] else L
/-- Bind: the error, who is bound. -/
def M.be (b : Option Int) (a : Int) : Int := if 0 ≤ a ∧ a < 64 then (if b.isSome then 4 else 0) else 1
def M.bb (b : Option Int) (a : Int) : Option Int := if 0 ≤ a ∧ a < 64 then (if b.isSome then b else some a) else b
theorem M.pe_ok {L : List Int} {a : Int} (h : M.pe L a = 0) : 0 ≤ a ∧ a < 64 ∧ a ∉ L := by
  unfold M.pe at h
  split at h
  · rename_i c
    split at h
    · cases h
    · rename_i d
      exact ⟨c.1, c.2, d⟩
  · cases h
theorem M.pl_ok {L : List Int} {a : Int} (h : M.pe L a = 0) : M.pl L a = L ++ [a] := by
  unfold M.pl
  rw [if_pos (M.pe_ok h)]
theorem M.pl_no {L : List Int} {a : Int} (h : ¬ M.pe L a = 0) : M.pl L a = L := by
  unfold M.pl
  split
  · rename_i c
    exact absurd (by unfold M.pe; rw [if_pos ⟨c.1, c.2.1⟩, if_neg c.2.2]) h
  · rfl
theorem M.wo_pl {L : List Int} {a : Int} (h : M.pe L a = 0) : M.wo (L ++ [a]) a = L := by
  have h1 := M.wo_not (M.pe_ok h).2.2
  unfold M.wo at h1 ⊢
  rw [List.filter_append, h1]
  simp
theorem wide_wide {O : Nat → Prop} {w w1 w2 : World} (h1 : w.heap.size ≤ w1.heap.size) (h2 : w1.heap.size ≤ w2.heap.size) : ∀ i, wide (wide O w w1) w1 w2 i → wide O w w2 i := by
  rintro i ((h | h) | h)
  · exact .inl h
  · exact .inr (by omega)
  · exact .inr (by omega)
theorem Fr.wide {O : Nat → Prop} {w w1 w2 : World} (f : Fr O w w1) (k : Fr (wide O w w1) w1 w2) : Fr O w w2 :=
  f.join k (fun i hi e => by
    rcases e with e | e
    · exact e
    · omega)

/-! ### A notice of the program -/
/-- The line's blocks: neither the notice's own, nor the one of who is bound. -/
def NS (w : World) (O : Nat → Prop) (p : Nat) (r : Option Nat) : Nat → Prop := fun i => O i ∧ i ≠ p ∧ r ≠ some i ∧ i < w.heap.size
/-- Who is bound, in a block of its own. -/
def BD (w : World) (O : Nat → Prop) (p : Nat) (r : Option Nat) (b : Option Int) : Prop :=
  (r = none ∧ b = none) ∨ ∃ i a, r = some i ∧ b = some a ∧ w.cell? ⟨i, 0, none⟩ = some (.int .i64 a) ∧ O i ∧ i ≠ p ∧ i < w.heap.size
structure NA (w : World) (O : Nat → Prop) (p : Nat) (W : Int) (b : Option Int) (L : List Int) : Prop where
  ex : ∃ (q : Nat) (r : Option Nat), w.cell? ⟨p, 1, none⟩ = some (.pointer (some ⟨q, 0, none⟩)) ∧ LA w (NS w O p r) q L ∧ w.cell? ⟨p, 2, none⟩ = some (.pointer (r.map fun i => ⟨i, 0, none⟩)) ∧ BD w O p r b
  at0 : w.cell? ⟨p, 0, none⟩ = some (.int .u64 W)
  fz : ∀ i, w.frozen? ⟨p, i, none⟩ = false
  lt : p < w.heap.size
  op : O p
section
variable {w w' w1 w2 : World} {O : Nat → Prop} {p : Nat} {W W' : Int} {b b' : Option Int} {L L' : List Int}
theorem BD.fr {O' : Nat → Prop} {r : Option Nat} (h : BD w O p r b) (F : Fr O' w w') (hd : ∀ i, r = some i → ¬ O' i) : BD w' O p r b := by
  rcases h with h | ⟨i, a, rfl, rfl, h3, h4, h5, h6⟩
  · exact .inl h
  · exact .inr ⟨i, a, rfl, rfl, F.cell h3 (hd i rfl), h4, h5, Nat.lt_of_lt_of_le h6 F.size⟩
theorem BD.own {r : Option Nat} (h : BD w O p r b) : ∀ i, r = some i → O i ∧ i ≠ p ∧ i < w.heap.size := by
  rcases h with ⟨rfl, _⟩ | ⟨i, a, rfl, rfl, h3, h4, h5, h6⟩
  · intro i hi; cases hi
  · intro j hj; cases hj; exact ⟨h4, h5, h6⟩
theorem BD.mono {O' : Nat → Prop} {r : Option Nat} (h : BD w O p r b) (hO : ∀ i, O i → O' i) : BD w O' p r b := by
  rcases h with h | ⟨i, a, h1, h2, h3, h4, h5⟩
  · exact .inl h
  · exact .inr ⟨i, a, h1, h2, h3, hO i h4, h5⟩
theorem NA.fr {O' : Nat → Prop} (h : NA w O p W b L) (F : Fr O' w w') (hd : ∀ i, O i → ¬ O' i) : NA w' O p W b L := by
  obtain ⟨q, r, h1, h2, h3, h4⟩ := h.ex
  exact ⟨⟨q, r, F.cell h1 (hd p h.op), (h2.fr F (fun i hi => hd i hi.1)).mono (fun i hi => ⟨hi.1, hi.2.1, hi.2.2.1, Nat.lt_of_lt_of_le hi.2.2.2 F.size⟩), F.cell h3 (hd p h.op), h4.fr F (fun i hi => hd i (h4.own i hi).1)⟩, F.cell h.at0 (hd p h.op), fun i => (F.frozen h.lt (hd p h.op)).trans (h.fz i), Nat.lt_of_lt_of_le h.lt F.size, h.op⟩
theorem NA.kept (h : NA w O p W b L) (g : w.grownBy w' none) : NA w' O p W b L := h.fr (O' := fun _ => False) (Fr.grown g) (fun _ _ e => e)
theorem NA.mono {O' : Nat → Prop} (h : NA w O p W b L) (hO : ∀ i, O i → O' i) : NA w O' p W b L := by
  obtain ⟨q, r, h1, h2, h3, h4⟩ := h.ex
  exact ⟨⟨q, r, h1, h2.mono (fun i hi => ⟨hO i hi.1, hi.2⟩), h3, h4.mono hO⟩, h.at0, h.fz, h.lt, hO p h.op⟩
theorem NA.wider (h : NA w O p W b L) (w1 w2 : World) : NA w (wide O w1 w2) p W b L := h.mono fun i hi => .inl hi
/-- What the walk wants of it; the line turned. -/
theorem NA.see (h : NA w O p W b L) : ∃ (q : Nat) (S : Nat → Prop), w.cell? ⟨p, 1, none⟩ = some (.pointer (some ⟨q, 0, none⟩)) ∧ LA w S q L ∧ w.cell? ⟨p, 0, none⟩ = some (.int .u64 W) ∧ w.frozen? ⟨p, 0, none⟩ = false ∧ w.frozen? ⟨p, 2, none⟩ = false ∧
    Hid (∀ (w' : World) (L' : List Int), LA w' (wide S w w') q L' → Fr S w w' → NA w' (wide O w w') p W b L' ∧ Fr O w w') := by
  obtain ⟨q, r, h1, h2, h3, h4⟩ := h.ex
  refine ⟨q, NS w O p r, h1, h2, h.at0, h.fz 0, h.fz 2, hideIt (fun w' L' T F => ?_)⟩
  have hp : ¬ NS w O p r p := fun e => e.2.1 rfl
  have hl := h.lt
  have hr : ∀ i, r = some i → ¬ NS w O p r i := fun i hi e => e.2.2.1 hi
  have hF : Fr O w w' := F.mono fun i _ hi => hi.1
  refine ⟨⟨⟨q, r, F.cell h1 hp, T.mono (fun i hi => ?_), F.cell h3 hp, (h4.fr F hr).mono (fun i hi => .inl hi)⟩, F.cell h.at0 hp, fun i => (F.frozen h.lt hp).trans (h.fz i), Nat.lt_of_lt_of_le h.lt F.size, .inl h.op⟩, hF⟩
  rcases hi with hi | hi
  · exact ⟨.inl hi.1, hi.2.1, hi.2.2.1, Nat.lt_of_lt_of_le hi.2.2.2 F.size⟩
  · exact ⟨.inr hi, by omega, fun e => by have := (h4.own i e).2.2; omega, hi.2⟩
/-- Who is bound. -/
theorem NA.free (h : NA w O p W none L) : w.cell? ⟨p, 2, none⟩ = some (.pointer none) := by
  obtain ⟨q, r, h1, h2, h3, h4⟩ := h.ex
  rcases h4 with ⟨rfl, _⟩ | ⟨i, a, _, e, _⟩
  · exact h3
  · cases e
theorem NA.bound {a : Int} (h : NA w O p W (some a) L) : ∃ i, w.cell? ⟨p, 2, none⟩ = some (.pointer (some ⟨i, 0, none⟩)) ∧ w.cell? ⟨i, 0, none⟩ = some (.int .i64 a) ∧ i ≠ p := by
  obtain ⟨q, r, h1, h2, h3, h4⟩ := h.ex
  rcases h4 with ⟨_, e⟩ | ⟨i, a', rfl, e, h5, h6, h7, _⟩
  · cases e
  · cases e
    exact ⟨i, h3, h5, h7⟩
/-- The word is set. -/
theorem NA.setW (h : NA w O p W b L) (W' : Int) : NA (w.setCell ⟨p, 0, none⟩ (.int .u64 W')) O p W' b L ∧ Fr O w (w.setCell ⟨p, 0, none⟩ (.int .u64 W')) := by
  obtain ⟨q, r, h1, h2, h3, h4⟩ := h.ex
  have G := gbSetCell w p 0 (.int .u64 W')
  have F : Fr (fun i => i = p) w (w.setCell ⟨p, 0, none⟩ (.int .u64 W')) := Fr.at G rfl
  refine ⟨⟨⟨q, r, ?_, (h2.fr F (fun i hi e => hi.2.1 e)).mono (fun i hi => ⟨hi.1, hi.2.1, hi.2.2.1, Nat.lt_of_lt_of_le hi.2.2.2 F.size⟩), ?_, h4.fr F (fun i hi e => (h4.own i hi).2.1 e)⟩, World.cell?_setCell_same _ _ _ h.at0, fun i => ?_, Nat.lt_of_lt_of_le h.lt G.size, h.op⟩, F.mono (fun i _ e => by rw [e]; exact h.op)⟩
  · rw [World.cell?_setCell_other _ _ _ _ (by simp)]; exact h1
  · rw [World.cell?_setCell_other _ _ _ _ (by simp)]; exact h3
  · rw [World.frozen?_setCell]; exact h.fz i
/-- None is bound from here on. -/
theorem NA.setN (h : NA w O p W b L) : NA (w.setCell ⟨p, 2, none⟩ (.pointer none)) O p W none L ∧ Fr O w (w.setCell ⟨p, 2, none⟩ (.pointer none)) := by
  obtain ⟨q, r, h1, h2, h3, h4⟩ := h.ex
  have G := gbSetCell w p 2 (.pointer none)
  have F : Fr (fun i => i = p) w (w.setCell ⟨p, 2, none⟩ (.pointer none)) := Fr.at G rfl
  refine ⟨⟨⟨q, Option.none, ?_, (h2.fr F (fun i hi e => hi.2.1 e)).mono (fun i hi => ⟨hi.1, hi.2.1, by simp, Nat.lt_of_lt_of_le hi.2.2.2 F.size⟩), World.cell?_setCell_same _ _ _ h3, .inl ⟨rfl, rfl⟩⟩, ?_, fun i => ?_, Nat.lt_of_lt_of_le h.lt G.size, h.op⟩, F.mono (fun i _ e => by rw [e]; exact h.op)⟩
  · rw [World.cell?_setCell_other _ _ _ _ (by simp)]; exact h1
  · rw [World.cell?_setCell_other _ _ _ _ (by simp)]; exact h.at0
  · rw [World.frozen?_setCell]; exact h.fz i
/-- One is bound from here on, in a block that is new. -/
theorem NA.setB {i0 : Nat} {a : Int} (h : NA w O p W Option.none L) (G0 : w.grownBy w' Option.none) (hi : w.heap.size ≤ i0) (hi2 : i0 < w'.heap.size) (hc : w'.cell? ⟨i0, 0, none⟩ = some (.int .i64 a)) :
    NA (w'.setCell ⟨p, 2, none⟩ (.pointer (some ⟨i0, 0, none⟩))) (wide O w (w'.setCell ⟨p, 2, none⟩ (.pointer (some ⟨i0, 0, none⟩)))) p W (some a) L ∧ Fr O w (w'.setCell ⟨p, 2, none⟩ (.pointer (some ⟨i0, 0, none⟩))) := by
  obtain ⟨q, r, h1, h2, h3, h4⟩ := h.ex
  have hl := h.lt
  have h3' := h.free
  have G := gbSetCell w' p 2 (.pointer (some ⟨i0, 0, none⟩))
  have F : Fr (fun i => i = p) w' (w'.setCell ⟨p, 2, none⟩ (.pointer (some ⟨i0, 0, none⟩))) := Fr.at G rfl
  have hs : (w'.setCell ⟨p, 2, none⟩ (.pointer (some ⟨i0, 0, none⟩))).heap.size = w'.heap.size := by simp [World.setCell]
  have hs0 := G0.size
  refine ⟨⟨⟨q, some i0, ?_, ((h2.kept G0).fr F (fun i hi e => hi.2.1 e)).mono (fun i hi => ⟨.inl hi.1, hi.2.1, fun e => ?_, ?_⟩), World.cell?_setCell_same _ _ _ (G0.cell h3' (by simp)), .inr ⟨i0, a, rfl, rfl, ?_, ?_, ?_, ?_⟩⟩, ?_, fun i => ?_, ?_, .inl h.op⟩, (Fr.grown G0).trans (F.mono (fun i _ e => by rw [e]; exact h.op))⟩
  · rw [World.cell?_setCell_other _ _ _ _ (by simp)]; exact G0.cell h1 (by simp)
  · cases e; have := hi.2.2.2; omega
  · have := hi.2.2.2; omega
  · rw [World.cell?_setCell_other _ _ _ _ (by simp)]; exact hc
  · exact .inr ⟨hi, by omega⟩
  · omega
  · omega
  · rw [World.cell?_setCell_other _ _ _ _ (by simp)]; exact G0.cell h.at0 (by simp)
  · rw [World.frozen?_setCell]; exact (gbFrozen G0 h.lt (by simp)).trans (h.fz i)
  · omega
/-- One turn behind another. -/
theorem NA.then (f : Fr O w w1) (h : NA w2 (wide (wide O w w1) w1 w2) p W b L ∧ Fr (wide O w w1) w1 w2) : NA w2 (wide O w w2) p W b L ∧ Fr O w w2 :=
  ⟨h.1.mono (wide_wide f.size h.2.size), f.wide h.2⟩
/-- The same, where nothing is new at first. -/
theorem NA.next (f : Fr O w w1) (h : NA w2 (wide O w1 w2) p W b L ∧ Fr O w1 w2) : NA w2 (wide O w w2) p W b L ∧ Fr O w w2 :=
  ⟨h.1.mono (fun i hi => by
    rcases hi with hi | hi
    · exact .inl hi
    · exact .inr ⟨Nat.le_trans f.size hi.1, hi.2⟩), f.trans h.2⟩
theorem NA.plain (h : NA w' O p W b L ∧ Fr O w w') : NA w' (wide O w w') p W b L ∧ Fr O w w' := ⟨h.1.wider _ _, h.2⟩
end

/-! ### New -/
set_option maxHeartbeats 400000 in
theorem nnew_is (w : World) : Calls Try.prog 7 #[] w fun e w' => ∃ p, e = .returned (.pointer (some ⟨p, 0, none⟩)) ∧ NA w' (fun i => w.heap.size ≤ i ∧ i < w'.heap.size) p 0 none [] ∧ w.grownBy w' none := by
  go_enter Try.func7, Try.ntmps7
  go_wp2_with fail
  refine (new_is w).mono ?_
  rintro e w1 ⟨rfl, A1, s1, g1⟩
  have A1 := hideIt A1
  have g1 := hideIt g1
  go_wp2
  go_ret
  have G := gbAlloc w1 (.cells #[.int .u64 0, .pointer (some ⟨w.heap.size, 0, none⟩), .pointer none] 53) none
  refine ⟨w1.heap.size, by rw [s1]; rfl, ⟨⟨w.heap.size, none, by simp, (A1.out.kept G).mono (fun i hi => ?_), by simp, .inl ⟨rfl, rfl⟩⟩, by simp, fun i => by simp, by simp, ?_⟩, gbTrans g1.out G⟩
  · subst hi; refine ⟨?_, ?_, by simp, ?_⟩ <;> simp <;> omega
  · simp; omega

section
variable {w : World} {O : Nat → Prop} {p : Nat} {W : Int} {b : Option Int} {L : List Int}
/-! ### take -/
set_option maxHeartbeats 400000 in
theorem take_is (h : NA w O p W b L) :
    Calls Try.prog 25 #[.pointer (some ⟨p, 0, none⟩)] w fun e w' => e = .returned (.int .u64 W) ∧ w' = w.setCell ⟨p, 0, none⟩ (.int .u64 0) := by
  have c0 := h.at0
  have f0 := h.fz 0
  clear h
  go_enter Try.func25, Try.ntmps25
  go_wp2
  go_ret
  exact ⟨rfl, rfl⟩

/-! ### Signal -/
set_option maxHeartbeats 400000 in
theorem signal_wake {x : Int} (h : NA w O p W b (x :: L)) (hl : (x :: L).length ≤ 900) (hd : (x :: L).Nodup) (g : Int) (bd : Bool) :
    Calls Try.prog 8 #[.pointer (some ⟨p, 0, none⟩), .int .u64 g, .bool bd] w fun e w' => e = .returned (.tuple #[.int .i64 x, .int .u64 g, .bool true]) ∧ NA w' (wide O w w') p W b L ∧ Fr O w w' := by
  obtain ⟨q, S, c1, l1, c0, f0, f2, HL⟩ := h.see
  have HP := hideIt (pop_yes l1 (by omega) hd)
  clear l1 h hd
  go_enter Try.func8, Try.ntmps8
  go_wp2_with fail
  refine HP.out.mono ?_
  rintro e w1 ⟨rfl, Z, F⟩
  have H1 := hideIt (HL.out _ _ Z F)
  clear Z F c1 c0 f0 f2 HL HP
  go_wp2
  go_ret3
  exact ⟨rfl, H1.out⟩
set_option maxHeartbeats 400000 in
theorem signal_not (h : NA w O p W b []) (g : Int) (bd : Bool) (hb : bd = false ∨ b = none) :
    Calls Try.prog 8 #[.pointer (some ⟨p, 0, none⟩), .int .u64 g, .bool bd] w fun e w' => e = .returned (.tuple #[.int .i64 0, .int .u64 0, .bool false]) ∧ NA w' (wide O w w') p (M.or W g) b [] ∧ Fr O w w' := by
  obtain ⟨q, S, c1, l1, c0, f0, f2, HL⟩ := h.see
  have HP := hideIt (pop_no l1)
  have HS := hideIt (NA.plain (h.setW (M.or W g)))
  cases bd with
  | false =>
    clear l1 h hb HL
    go_enter Try.func8, Try.ntmps8
    go_wp2_with fail
    refine HP.out.mono ?_
    rintro e w1 ⟨rfl, rfl⟩
    go_wp2
    go_ret3
    exact ⟨rfl, HS.out⟩
  | true =>
    obtain rfl : b = none := hb.resolve_left (by simp)
    have c2 := h.free
    clear l1 h hb HL
    go_enter Try.func8, Try.ntmps8
    go_wp2_with fail
    refine HP.out.mono ?_
    rintro e w1 ⟨rfl, rfl⟩
    go_wp2
    go_ret3
    exact ⟨rfl, HS.out⟩

set_option maxHeartbeats 400000 in
theorem signal_told {a : Int} (h : NA w O p W (some a) []) (g : Int) :
    Calls Try.prog 8 #[.pointer (some ⟨p, 0, none⟩), .int .u64 g, .bool true] w fun e w' => e = .returned (.tuple #[.int .i64 a, .int .u64 (M.or W g), .bool true]) ∧ NA w' (wide O w w') p 0 (some a) [] ∧ Fr O w w' := by
  obtain ⟨q, S, c1, l1, c0, f0, f2, HL⟩ := h.see
  have HP := hideIt (pop_no l1)
  have HS := hideIt (h.setW (M.or W g))
  obtain ⟨i0, c2, c3, hi⟩ := h.bound
  clear l1 h HL
  go_enter Try.func8, Try.ntmps8
  go_wp2_with fail
  refine HP.out.mono ?_
  rintro e w1 ⟨rfl, rfl⟩
  go_upto_region 6 with fail
  obtain ⟨W2, hW2⟩ : ∃ W2, w1.setCell ⟨p, 0, none⟩ (.int .u64 (M.or W g)) = W2 := ⟨_, rfl⟩
  have hW2' : w1.setCell ⟨p, 0, none⟩ (.int .u64 (bits .or .u64 W g)) = W2 := hW2
  rw [hW2'] 
  rw [hW2] at HS
  have gd := gbDrew (gbRefl W2 none)
  have HD := hideIt (HS.out.1.kept gd)
  have T0 : W2.cell? ⟨p, 2, none⟩ = some (.pointer (some ⟨i0, 0, none⟩)) ∧ W2.cell? ⟨i0, 0, none⟩ = some (.int .i64 a) := by
    rw [← hW2]
    exact ⟨by rw [World.cell?_setCell_other _ _ _ _ (by simp)]; exact c2, by rw [World.cell?_setCell_other _ _ _ _ (by simp)]; exact c3⟩
  have T1 : W2.drew.cell? ⟨p, 2, none⟩ = some (.pointer (some ⟨i0, 0, none⟩)) ∧ W2.drew.cell? ⟨i0, 0, none⟩ = some (.int .i64 a) := ⟨gd.cell T0.1 (by simp), gd.cell T0.2 (by simp)⟩
  have HT : Hid (Calls Try.prog 25 #[.pointer (some ⟨p, 0, none⟩)] W2.drew fun e w' => e = .returned (.int .u64 (M.or W g)) ∧ (NA w' (wide O w1 w') p 0 (some a) [] ∧ Fr O w1 w') ∧ w'.cell? ⟨p, 2, none⟩ = some (.pointer (some ⟨i0, 0, none⟩)) ∧ w'.cell? ⟨i0, 0, none⟩ = some (.int .i64 a)) := hideIt (by
    refine (take_is HD.out).mono ?_
    rintro e w6 ⟨rfl, rfl⟩
    refine ⟨rfl, NA.plain ⟨(HD.out.setW 0).1, (HS.out.2.trans (Fr.grown gd)).trans (HD.out.setW 0).2⟩, ?_, ?_⟩
    · rw [World.cell?_setCell_other _ _ _ _ (by simp)]; exact T1.1
    · rw [World.cell?_setCell_other _ _ _ _ (by simp)]; exact T1.2)
  clear c0 c1 c2 c3 f0 f2 HP hW2 hW2' hi HS HD
  go_region_held3 (fun w' => w'.cell? ⟨p, 2, none⟩ = some (.pointer (some ⟨i0, 0, none⟩)) ∧ w'.cell? ⟨i0, 0, none⟩ = some (.int .i64 a))
    (first | with_reducible exact T0 | with_reducible exact T1 | with_reducible exact T6 | fail)
    ((first
      | (go_at_call 25; refine HT.out.mono ?_; rintro e w6 ⟨rfl, HE, T6⟩; have HE := hideIt HE)))
  go_wp2
  go_ret3
  exact ⟨rfl, HE.out⟩
/-- A signal, whatever becomes of it. -/
theorem signal_is (h : NA w O p W b L) (hl : L.length ≤ 900) (hd : L.Nodup) (g : Int) (bd : Bool) (x v : Int) (o : Bool) (hx : M.si b L bd = x) (hv : M.sv W b L g bd = v) (ho : M.so b L bd = o) :
    Calls Try.prog 8 #[.pointer (some ⟨p, 0, none⟩), .int .u64 g, .bool bd] w fun e w' => e = .returned (.tuple #[.int .i64 x, .int .u64 v, .bool o]) ∧ NA w' (wide O w w') p (M.sw W b L g bd) b L.tail ∧ Fr O w w' := by
  subst hx hv ho
  cases L with
  | cons y L => exact signal_wake h hl hd g bd
  | nil =>
    cases b with
    | none => cases bd <;> exact signal_not h g _ (.inr rfl)
    | some a =>
      cases bd with
      | false => exact signal_not h g _ (.inl rfl)
      | true => exact signal_told h g

/-! ### Wait -/
set_option maxHeartbeats 400000 in
theorem wait_no (h : NA w O p W b L) (hl : L.length ≤ 900) (a : Int) (wt : Bool) (f : Int) (hf : M.pe L a = f) (hf0 : (f == 0) = false) :
    Calls Try.prog 10 #[.pointer (some ⟨p, 0, none⟩), .int .i64 a, .bool wt] w fun e w' => e = .returned (.tuple #[.int .u64 0, .bool false, .int .i64 f]) ∧ NA w' (wide O w w') p W b L ∧ Fr O w w' := by
  obtain ⟨q, S, c1, l1, c0, f0, f2, HL⟩ := h.see
  have HP := hideIt (push_is l1 (by omega) a f hf)
  have hn : M.pl L a = L := M.pl_no (by rw [hf]; simpa using hf0)
  rw [hn] at HP
  clear l1 hn h hf f0 f2
  go_enter Try.func10, Try.ntmps10
  go_wp2_with fail
  refine HP.out.mono ?_
  rintro e w1 ⟨rfl, Z, F⟩
  have H1 := hideIt (HL.out _ _ Z F)
  clear Z F c1 c0 HL HP
  go_wp2
  go_ret3
  exact ⟨rfl, H1.out⟩
set_option maxHeartbeats 400000 in
theorem wait_wait (h : NA w O p 0 b L) (hl : L.length ≤ 900) (a : Int) (hf : M.pe L a = 0) :
    Calls Try.prog 10 #[.pointer (some ⟨p, 0, none⟩), .int .i64 a, .bool true] w fun e w' => e = .returned (.tuple #[.int .u64 0, .bool false, .int .i64 0]) ∧ NA w' (wide O w w') p 0 b (L ++ [a]) ∧ Fr O w w' := by
  obtain ⟨q, S, c1, l1, c0, f0, f2, HL⟩ := h.see
  have HP := hideIt (push_is l1 (by omega) a 0 hf)
  rw [M.pl_ok hf] at HP
  clear l1 h hf f0 f2
  go_enter Try.func10, Try.ntmps10
  go_wp2_with fail
  refine HP.out.mono ?_
  rintro e w1 ⟨rfl, Z, F⟩
  have H1 := hideIt (HL.out _ _ Z F)
  clear Z F c1 c0 HL HP
  have c0 := H1.out.1.at0
  go_wp2
  go_ret3
  exact ⟨rfl, H1.out⟩
set_option maxHeartbeats 400000 in
theorem wait_take (h : NA w O p W b L) (hl : L.length ≤ 900) (hd : L.Nodup) (a : Int) (wt : Bool) (hf : M.pe L a = 0) (hw : wt = false ∨ (W == 0) = false) (o : Bool) (ho : (W != 0) = o) :
    Calls Try.prog 10 #[.pointer (some ⟨p, 0, none⟩), .int .i64 a, .bool wt] w fun e w' => e = .returned (.tuple #[.int .u64 W, .bool o, .int .i64 0]) ∧ NA w' (wide O w w') p 0 b L ∧ Fr O w w' := by
  obtain ⟨q, S, c1, l1, c0, f0, f2, HL⟩ := h.see
  have HP := hideIt (push_is l1 (by omega) a 0 hf)
  have hd2 := M.pl_nodup a hd
  rw [M.pl_ok hf] at HP hd2
  have HW := hideIt (M.wo_pl hf)
  have hd2 := hideIt hd2
  clear l1 h hf f0 f2 hd
  have key : ∀ (w1 : World), (NA w1 (wide O w w1) p W b (L ++ [a]) ∧ Fr O w w1) → ∃ q1, w1.cell? ⟨p, 1, none⟩ = some (.pointer (some ⟨q1, 0, none⟩)) ∧ w1.cell? ⟨p, 0, none⟩ = some (.int .u64 W) ∧
      Hid (Calls Try.prog 27 #[.pointer (some ⟨q1, 0, none⟩), .int .i64 a] w1 fun e w2 => e = .returned (.bool true) ∧ NA w2 (wide O w w2) p W b L ∧ Fr O w w2) := by
    intro w1 H1
    obtain ⟨q1, S1, d1, l1, d0, _, _, HL1⟩ := H1.1.see
    refine ⟨q1, d1, d0, hideIt ?_⟩
    refine (remove_is l1 (by simp; omega) hd2.out a true (by simp)).mono ?_
    rintro e w2 ⟨rfl, Z, F⟩
    rw [HW.out] at Z
    exact ⟨rfl, NA.then H1.2 (HL1.out _ _ Z F)⟩
  replace key := hideIt key
  clear hd2 HW
  by_cases h0 : (W == 0) = true
  · obtain rfl : W = 0 := by simpa using h0
    obtain rfl : false = o := ho
    obtain rfl : wt = false := hw.resolve_right (by simp)
    clear hw h0
    go_enter Try.func10, Try.ntmps10
    go_wp2_with fail
    refine HP.out.mono ?_
    rintro e w1 ⟨rfl, Z, F⟩
    obtain ⟨q1, d1, d0, HR⟩ := key.out _ (HL.out _ _ Z F)
    clear Z F c1 c0 HL HP key
    go_wp2_with fail
    refine HR.out.mono ?_
    rintro e w2 ⟨rfl, H2⟩
    have H2 := hideIt H2
    clear d1 d0 HR
    go_wp2_with fail
    refine (take_is H2.out.1).mono ?_
    rintro e w3 ⟨rfl, rfl⟩
    have H3 := hideIt (NA.then H2.out.2 (NA.plain (H2.out.1.setW 0)))
    clear H2
    go_wp2
    go_ret3
    exact ⟨rfl, H3.out⟩
  · have h0 : (W == 0) = false := by simpa using h0
    have h1 : (W != 0) = true := by simpa using h0
    obtain rfl : true = o := by rw [← ho, h1]
    clear hw ho
    go_enter Try.func10, Try.ntmps10
    go_wp2_with fail
    refine HP.out.mono ?_
    rintro e w1 ⟨rfl, Z, F⟩
    obtain ⟨q1, d1, d0, HR⟩ := key.out _ (HL.out _ _ Z F)
    clear Z F c1 c0 HL HP key
    go_wp2_with fail
    refine HR.out.mono ?_
    rintro e w2 ⟨rfl, H2⟩
    have H2 := hideIt H2
    clear d1 d0 HR
    go_wp2_with fail
    refine (take_is H2.out.1).mono ?_
    rintro e w3 ⟨rfl, rfl⟩
    have H3 := hideIt (NA.then H2.out.2 (NA.plain (H2.out.1.setW 0)))
    clear H2
    go_wp2
    go_ret3
    exact ⟨rfl, H3.out⟩
/-- One that asks, whatever becomes of it. -/
theorem wait_is (h : NA w O p W b L) (hl : L.length ≤ 900) (hd : L.Nodup) (a : Int) (wt : Bool) (v : Int) (o : Bool) (f : Int) (hv : M.wv W L a = v) (ho : M.wb W L a = o) (hf : M.pe L a = f) :
    Calls Try.prog 10 #[.pointer (some ⟨p, 0, none⟩), .int .i64 a, .bool wt] w fun e w' => e = .returned (.tuple #[.int .u64 v, .bool o, .int .i64 f]) ∧ NA w' (wide O w w') p (M.ww W L a) b (M.wl W L a wt) ∧ Fr O w w' := by
  subst hv ho
  unfold M.wv M.wb M.ww M.wl
  by_cases f0 : f = 0
  · subst f0
    simp only [hf, true_and, if_true]
    by_cases hW : W = 0
    · subst hW
      cases wt with
      | true => simpa using wait_wait h hl a hf
      | false => simpa using wait_take h hl hd a false hf (.inl rfl) false rfl
    · simp only [hW, false_and, if_false]
      have := wait_take h hl hd a wt hf (.inr (by simpa using hW)) true (by simpa using hW)
      simpa [hW] using this
  · have hf0 : ¬ M.pe L a = 0 := by rw [hf]; exact f0
    simp only [hf0, false_and, if_false, decide_false]
    exact wait_no h hl a wt f hf (by simpa using f0)

/-! ### Cancel -/
set_option maxHeartbeats 400000 in
theorem cancel_is (h : NA w O p W b L) (hl : L.length ≤ 900) (hd : L.Nodup) (a : Int) (o : Bool) (ho : L.contains a = o) :
    Calls Try.prog 12 #[.pointer (some ⟨p, 0, none⟩), .int .i64 a] w fun e w' => e = .returned (.bool o) ∧ NA w' (wide O w w') p W b (M.wo L a) ∧ Fr O w w' := by
  obtain ⟨q, S, c1, l1, c0, f0, f2, HL⟩ := h.see
  have HR := hideIt (remove_is l1 (by omega) hd a o ho)
  clear h l1 c0 f0 f2 hd ho
  go_enter Try.func12, Try.ntmps12
  go_wp2_with fail
  refine HR.out.mono ?_
  rintro e w2 ⟨rfl, Z, F⟩
  have H2 := hideIt (HL.out _ _ Z F)
  clear Z F c1 HL HR
  go_wp2
  go_ret
  exact ⟨rfl, H2.out⟩

/-! ### Bind -/
set_option maxHeartbeats 400000 in
theorem bind_no1 (h : NA w O p W b L) (a : Int) (ha : ¬ (0 ≤ a ∧ a < 64)) :
    Calls Try.prog 14 #[.pointer (some ⟨p, 0, none⟩), .int .i64 a] w fun e w' => e = .returned (.int .i64 1) ∧ NA w' (wide O w w') p W b L ∧ Fr O w w' := by
  have G := gbAlloc w (.cells #[.int .i64 a] 3) none
  have H1 := hideIt (NA.plain ⟨h.kept G, Fr.grown (O := O) G⟩)
  clear h G
  by_cases h0 : a < 0
  · clear ha
    go_enter Try.func14, Try.ntmps14
    go_wp2
    go_ret
    exact ⟨rfl, H1.out⟩
  · have h1 : 64 ≤ a := by omega
    clear ha
    go_enter Try.func14, Try.ntmps14
    go_wp2
    go_ret
    exact ⟨rfl, H1.out⟩
set_option maxHeartbeats 400000 in
theorem bind_no4 {c : Int} (h : NA w O p W (some c) L) (a : Int) (h0 : 0 ≤ a) (h1 : a < 64) :
    Calls Try.prog 14 #[.pointer (some ⟨p, 0, none⟩), .int .i64 a] w fun e w' => e = .returned (.int .i64 4) ∧ NA w' (wide O w w') p W (some c) L ∧ Fr O w w' := by
  have G := gbAlloc w (.cells #[.int .i64 a] 3) none
  have hp : ¬ p = w.heap.size := by have := h.lt; omega
  have h3 : ¬ a < 0 := by omega
  have h4 : ¬ 64 ≤ a := by omega
  obtain ⟨i0, c2, _, _⟩ := h.bound
  replace c2 := G.cell c2 (by simp)
  have H1 := hideIt (NA.plain ⟨h.kept G, Fr.grown (O := O) G⟩)
  clear h G
  go_enter Try.func14, Try.ntmps14
  go_wp2
  go_ret
  exact ⟨rfl, H1.out⟩
set_option maxHeartbeats 400000 in
theorem bind_yes (h : NA w O p W none L) (a : Int) (h0 : 0 ≤ a) (h1 : a < 64) :
    Calls Try.prog 14 #[.pointer (some ⟨p, 0, none⟩), .int .i64 a] w fun e w' => e = .returned (.int .i64 0) ∧ NA w' (wide O w w') p W (some a) L ∧ Fr O w w' := by
  have G := gbAlloc w (.cells #[.int .i64 a] 3) none
  have hp : ¬ p = w.heap.size := by have := h.lt; omega
  have h3 : ¬ a < 0 := by omega
  have h4 : ¬ 64 ≤ a := by omega
  have hp2 : ¬ w.heap.size = p := by omega
  have c2 := G.cell h.free (by simp)
  have f2 := (h.kept G).fz 2
  have H1 := hideIt (h.setB (i0 := w.heap.size) (a := a) G (Nat.le_refl _) (by simp) (by simp))
  clear h G
  go_enter Try.func14, Try.ntmps14
  go_wp2
  go_ret
  exact ⟨rfl, H1.out⟩
theorem bind_is (h : NA w O p W b L) (a f : Int) (hf : M.be b a = f) :
    Calls Try.prog 14 #[.pointer (some ⟨p, 0, none⟩), .int .i64 a] w fun e w' => e = .returned (.int .i64 f) ∧ NA w' (wide O w w') p W (M.bb b a) L ∧ Fr O w w' := by
  subst hf
  unfold M.be M.bb
  by_cases ha : 0 ≤ a ∧ a < 64
  · rw [if_pos ha, if_pos ha]
    cases b with
    | none => simpa using bind_yes h a ha.1 ha.2
    | some c => simpa using bind_no4 h a ha.1 ha.2
  · rw [if_neg ha, if_neg ha]
    exact bind_no1 h a ha

/-! ### Bound, Unbind -/
set_option maxHeartbeats 400000 in
theorem bound_is (h : NA w O p W b L) (x : Int) (o : Bool) (hx : b.getD 0 = x) (ho : b.isSome = o) :
    Calls Try.prog 18 #[.pointer (some ⟨p, 0, none⟩)] w fun e w' => e = .returned (.tuple #[.int .i64 x, .bool o]) ∧ w' = w := by
  subst hx ho
  cases b with
  | none =>
    have c2 := h.free
    clear h
    go_enter Try.func18, Try.ntmps18
    go_wp2
    go_ret2
    exact ⟨rfl, rfl⟩
  | some a =>
    obtain ⟨i0, c2, c3, _⟩ := h.bound
    clear h
    go_enter Try.func18, Try.ntmps18
    go_wp2
    go_ret2
    exact ⟨rfl, rfl⟩
set_option maxHeartbeats 400000 in
theorem unbind_is (h : NA w O p W b L) (x : Int) (o : Bool) (hx : b.getD 0 = x) (ho : b.isSome = o) :
    Calls Try.prog 16 #[.pointer (some ⟨p, 0, none⟩)] w fun e w' => e = .returned (.tuple #[.int .i64 x, .bool o]) ∧ NA w' (wide O w w') p W none L ∧ Fr O w w' := by
  have HB := hideIt (bound_is h x o hx ho)
  have HS := hideIt (NA.plain h.setN)
  obtain ⟨q, r, _, _, c2, _⟩ := h.ex
  have f2 := h.fz 2
  clear h hx ho
  go_enter Try.func16, Try.ntmps16
  go_wp2_with fail
  refine HB.out.mono ?_
  rintro e w1 ⟨rfl, rfl⟩
  go_wp2
  go_ret2
  exact ⟨rfl, HS.out⟩

/-! ### State -/
set_option maxHeartbeats 400000 in
theorem state_is (h : NA w O p W b L) (hl : L.length ≤ 900) :
    Calls Try.prog 20 #[.pointer (some ⟨p, 0, none⟩)] w fun e w' => ∃ v', e = .returned (.tuple #[.int .u64 W, v']) ∧ IL w' w.heap.size v' L ∧ w.grownBy w' none := by
  obtain ⟨q1, S, d1, l1, d0, _, _, _⟩ := h.see
  have gd := gbDrew (gbRefl w none)
  have HR := hideIt (list_is (l1.kept gd) (by omega))
  have T0 : w.cell? ⟨p, 0, none⟩ = some (.int .u64 W) ∧ w.cell? ⟨p, 1, none⟩ = some (.pointer (some ⟨q1, 0, none⟩)) := ⟨d0, d1⟩
  have T1 : w.drew.cell? ⟨p, 0, none⟩ = some (.int .u64 W) ∧ w.drew.cell? ⟨p, 1, none⟩ = some (.pointer (some ⟨q1, 0, none⟩)) := ⟨gd.cell d0 (by simp), gd.cell d1 (by simp)⟩
  clear h l1 d0 d1
  go_enter Try.func20, Try.ntmps20
  go_upto_region 1 with fail
  go_region_held3 (fun w' => w'.cell? ⟨p, 0, none⟩ = some (.int .u64 W) ∧ w'.cell? ⟨p, 1, none⟩ = some (.pointer (some ⟨q1, 0, none⟩)))
    (first | with_reducible exact T0 | with_reducible exact T1 | with_reducible exact T6 | fail)
    ((first
      | (go_at_call 29; refine HR.out.mono ?_; rintro e w6 ⟨v6, rfl, l6, g6⟩; have l6 := hideIt l6; have T6 : w6.cell? ⟨p, 0, none⟩ = some (.int .u64 W) ∧ w6.cell? ⟨p, 1, none⟩ = some (.pointer (some ⟨q1, 0, none⟩)) := ⟨g6.cell T1.1 (by simp), g6.cell T1.2 (by simp)⟩)))
  go_wp2
  go_ret2
  exact ⟨_, rfl, l6.out, gbTrans gd g6⟩
end
end Go.Proofs.Ytehgfeflbkdjdaa
