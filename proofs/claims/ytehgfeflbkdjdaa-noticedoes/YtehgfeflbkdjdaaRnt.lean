/-
  THE CONTRACTS of the document's notice: at, Signal, Wait, Bind, Bound, Unbind: the same plain answers.
-/
import Derived.Test.YtehgfeflbkdjdaaNtc
namespace Go.Proofs.Ytehgfeflbkdjdaa
set_option maxRecDepth 10000
open Go.RowKit
set_option linter.unusedVariables false

/-! ### A notice of the document -/
structure RN (w : World) (O : Nat → Prop) (p : Nat) (W : Int) (b : Option Int) (L : List Int) : Prop where
  ex : ∃ v, w.cell? ⟨p, 1, none⟩ = some v ∧ IL w 0 v L ∧ ∀ k, v.ownBlock = some k → O k ∧ k ≠ p
  at0 : w.cell? ⟨p, 0, none⟩ = some (.int .u64 W)
  ib : ∃ i, w.cell? ⟨p, 2, none⟩ = some (.int .i64 i) ∧ ∀ a, b = some a → a = i
  at3 : w.cell? ⟨p, 3, none⟩ = some (.bool b.isSome)
  fz : ∀ i, w.frozen? ⟨p, i, none⟩ = false
  lt : p < w.heap.size
  op : O p
section
variable {w w' w1 w2 V : World} {O : Nat → Prop} {p : Nat} {W W' : Int} {b b' : Option Int} {L L' : List Int} {v' : Value}
theorem RN.fr {O' : Nat → Prop} (h : RN w O p W b L) (F : Fr O' w w') (hd : ∀ i, O i → ¬ O' i) : RN w' O p W b L := by
  obtain ⟨v, h1, h2, h3⟩ := h.ex
  obtain ⟨i, h4, h5⟩ := h.ib
  have hp := hd p h.op
  exact ⟨⟨v, F.cell h1 hp, h2.fr F (fun k hk => hd k (h3 k hk).1), h3⟩, F.cell h.at0 hp, ⟨i, F.cell h4 hp, h5⟩, F.cell h.at3 hp, fun i => (F.frozen h.lt hp).trans (h.fz i), Nat.lt_of_lt_of_le h.lt F.size, h.op⟩
theorem RN.kept (h : RN w O p W b L) (g : w.grownBy w' none) : RN w' O p W b L := h.fr (O' := fun _ => False) (Fr.grown g) (fun _ _ e => e)
theorem RN.mono {O' : Nat → Prop} (h : RN w O p W b L) (hO : ∀ i, O i → O' i) : RN w O' p W b L := by
  obtain ⟨v, h1, h2, h3⟩ := h.ex
  exact ⟨⟨v, h1, h2, fun k hk => ⟨hO k (h3 k hk).1, (h3 k hk).2⟩⟩, h.at0, h.ib, h.at3, h.fz, h.lt, hO p h.op⟩
theorem RN.wider (h : RN w O p W b L) (w1 w2 : World) : RN w (wide O w1 w2) p W b L := h.mono fun i hi => .inl hi
/-- A new list is stored there. -/
theorem RN.store (h : RN w O p W b L) (F : Fr (fun k => O k ∧ k ≠ p) w w') (l6 : IL w' 0 v' L') (hv : ∀ k, v'.ownBlock = some k → (O k ∨ w.heap.size ≤ k) ∧ k ≠ p) :
    RN (w'.setCell ⟨p, 1, none⟩ v') (wide O w (w'.setCell ⟨p, 1, none⟩ v')) p W b L' ∧ Fr O w (w'.setCell ⟨p, 1, none⟩ v') := by
  obtain ⟨v, h1, h2, h3⟩ := h.ex
  obtain ⟨i, h4, h5⟩ := h.ib
  have G := gbSetCell w' p 1 v'
  have hp : ¬ (O p ∧ p ≠ p) := fun e => e.2 rfl
  have c1 := F.cell h1 hp
  have l7 : IL (w'.setCell ⟨p, 1, none⟩ v') 0 v' L' := l6.keep G (fun k hk e => (hv k hk).2 (by cases e; rfl))
  refine ⟨⟨⟨v', World.cell?_setCell_same _ _ _ c1, l7, fun k hk => ⟨?_, (hv k hk).2⟩⟩, ?_, ⟨i, ?_, h5⟩, ?_, fun i => ?_, Nat.lt_of_lt_of_le h.lt (Nat.le_trans F.size G.size), .inl h.op⟩, (F.mono fun i _ hi => hi.1).trans (Fr.at G h.op)⟩
  · rcases (hv k hk).1 with e | e
    · exact .inl e
    · exact .inr ⟨e, (l7.lt k hk).2⟩
  · rw [World.cell?_setCell_other _ _ _ _ (by simp)]; exact F.cell h.at0 hp
  · rw [World.cell?_setCell_other _ _ _ _ (by simp)]; exact F.cell h4 hp
  · rw [World.cell?_setCell_other _ _ _ _ (by simp)]; exact F.cell h.at3 hp
  · rw [World.frozen?_setCell]
    exact (F.frozen h.lt hp).trans (h.fz i)
theorem RN.storeNew (h : RN w O p W b L) (G : w.grownBy V none) (l : IL V w.heap.size v' L') :
    V.cell? ⟨p, 1, none⟩ = w.cell? ⟨p, 1, none⟩ ∧ V.frozen? ⟨p, 1, none⟩ = false ∧ RN (V.setCell ⟨p, 1, none⟩ v') (wide O w (V.setCell ⟨p, 1, none⟩ v')) p W b L' ∧ Fr O w (V.setCell ⟨p, 1, none⟩ v') := by
  obtain ⟨v, h1, _⟩ := h.ex
  refine ⟨(G.cell h1 (by simp)).trans h1.symm, (gbFrozen G h.lt (by simp)).trans (h.fz 1), h.store (Fr.grown G) l.low (fun k hk => ?_)⟩
  have h2 := (l.lt k hk).1
  have := h.lt
  exact ⟨.inr h2, by omega⟩
/-- The word is set. -/
theorem RN.setW (h : RN w O p W b L) (W' : Int) : RN (w.setCell ⟨p, 0, none⟩ (.int .u64 W')) O p W' b L ∧ Fr O w (w.setCell ⟨p, 0, none⟩ (.int .u64 W')) := by
  obtain ⟨v, h1, h2, h3⟩ := h.ex
  obtain ⟨i, h4, h5⟩ := h.ib
  have G := gbSetCell w p 0 (.int .u64 W')
  refine ⟨⟨⟨v, ?_, h2.keep G (fun k hk e => (h3 k hk).2 (by cases e; rfl)), h3⟩, World.cell?_setCell_same _ _ _ h.at0, ⟨i, ?_, h5⟩, ?_, fun i => ?_, Nat.lt_of_lt_of_le h.lt G.size, h.op⟩, Fr.at G h.op⟩
  · rw [World.cell?_setCell_other _ _ _ _ (by simp)]; exact h1
  · rw [World.cell?_setCell_other _ _ _ _ (by simp)]; exact h4
  · rw [World.cell?_setCell_other _ _ _ _ (by simp)]; exact h.at3
  · rw [World.frozen?_setCell]; exact h.fz i
/-- None is bound from here on. -/
theorem RN.setN (h : RN w O p W b L) : RN (w.setCell ⟨p, 3, none⟩ (.bool false)) O p W none L ∧ Fr O w (w.setCell ⟨p, 3, none⟩ (.bool false)) := by
  obtain ⟨v, h1, h2, h3⟩ := h.ex
  obtain ⟨i, h4, h5⟩ := h.ib
  have G := gbSetCell w p 3 (.bool false)
  refine ⟨⟨⟨v, ?_, h2.keep G (fun k hk e => (h3 k hk).2 (by cases e; rfl)), h3⟩, ?_, ⟨i, ?_, fun a e => by cases e⟩, World.cell?_setCell_same _ _ _ h.at3, fun i => ?_, Nat.lt_of_lt_of_le h.lt G.size, h.op⟩, Fr.at G h.op⟩
  · rw [World.cell?_setCell_other _ _ _ _ (by simp)]; exact h1
  · rw [World.cell?_setCell_other _ _ _ _ (by simp)]; exact h.at0
  · rw [World.cell?_setCell_other _ _ _ _ (by simp)]; exact h4
  · rw [World.frozen?_setCell]; exact h.fz i
/-- One is bound from here on. -/
theorem RN.setB (h : RN w O p W none L) (a : Int) : RN ((w.setCell ⟨p, 2, none⟩ (.int .i64 a)).setCell ⟨p, 3, none⟩ (.bool true)) O p W (some a) L ∧ Fr O w ((w.setCell ⟨p, 2, none⟩ (.int .i64 a)).setCell ⟨p, 3, none⟩ (.bool true)) := by
  obtain ⟨v, h1, h2, h3⟩ := h.ex
  obtain ⟨i, h4, h5⟩ := h.ib
  have G := gbTrans (gbSetCell w p 2 (.int .i64 a)) (gbSetCell (w.setCell ⟨p, 2, none⟩ (.int .i64 a)) p 3 (.bool true))
  have e3 : (w.setCell ⟨p, 2, none⟩ (.int .i64 a)).cell? ⟨p, 3, none⟩ = some (.bool false) := by rw [World.cell?_setCell_other _ _ _ _ (by simp)]; exact h.at3
  refine ⟨⟨⟨v, ?_, h2.keep G (fun k hk e => (h3 k hk).2 (by cases e; rfl)), h3⟩, ?_, ⟨a, ?_, fun c e => by cases e; rfl⟩, World.cell?_setCell_same _ _ _ e3, fun i => ?_, Nat.lt_of_lt_of_le h.lt G.size, h.op⟩, Fr.at G h.op⟩
  · rw [World.cell?_setCell_other _ _ _ _ (by simp), World.cell?_setCell_other _ _ _ _ (by simp)]; exact h1
  · rw [World.cell?_setCell_other _ _ _ _ (by simp), World.cell?_setCell_other _ _ _ _ (by simp)]; exact h.at0
  · rw [World.cell?_setCell_other _ _ _ _ (by simp)]; exact World.cell?_setCell_same _ _ _ h4
  · rw [World.frozen?_setCell, World.frozen?_setCell]; exact h.fz i
theorem RN.plain (h : RN w' O p W b L ∧ Fr O w w') : RN w' (wide O w w') p W b L ∧ Fr O w w' := ⟨h.1.wider _ _, h.2⟩
theorem RN.see (h : RN w O p W b L) : ∃ x c, w.cell? ⟨p, 1, none⟩ = some (.slice x L.length c) ∧ L.length ≤ c ∧ c ≤ 9223372036854775807 ∧ IL w 0 (.slice x L.length c) L ∧ ∀ k, Value.ownBlock (.slice x L.length c) = some k → O k ∧ k ≠ p := by
  obtain ⟨v, h1, h2, h3⟩ := h.ex
  obtain ⟨x, c, rfl, h4, h5, _⟩ := h2.arr
  exact ⟨x, c, h1, h4, h5, h2, h3⟩
/-- append onto the list that lies there, and the store of what comes of it. -/
theorem RN.push (h : RN w O p W b L) (n0 : Nat) (hn0 : L.length = n0) (G : w.grownBy V none) (ad : Addr) (c : Nat) (a : Int) (hx : ∀ j u, (cl eI [a])[j]? = some u → V.cell? (ad.add j) = some u) (hn : n0 ≤ 1000) :
    ∃ x0 c0 x n cap w6, w.cell? ⟨p, 1, none⟩ = some (.slice x0 n0 c0) ∧ (Builtin.append_ #[27, 27] 27 #[.slice x0 n0 c0, .slice (some ad) 1 c]).run Try.prog V = .ok (.slice x n cap) w6 ∧
      w6.cell? ⟨p, 1, none⟩ = some (.slice x0 n0 c0) ∧ w6.frozen? ⟨p, 1, none⟩ = false ∧ Hid (RN (w6.setCell ⟨p, 1, none⟩ (.slice x n cap)) (wide O w (w6.setCell ⟨p, 1, none⟩ (.slice x n cap))) p W b (L ++ [a]) ∧ Fr O w (w6.setCell ⟨p, 1, none⟩ (.slice x n cap))) := by
  subst hn0
  obtain ⟨x0, c0, h1, _, _, h2, h3⟩ := h.see
  obtain ⟨v', w6, hr, q1, q2, q3⟩ := run_append_i V 0 (.slice x0 L.length c0) L (h2.kept G) 27 (some ad) 1 c [a] rfl (by simp) (by rintro ad' ⟨⟩; exact hx) (by omega) (Nat.zero_le _)
  obtain ⟨x, cap, rfl, _⟩ := q1.arr
  have F : Fr (fun k => O k ∧ k ≠ p) w w6 := (Fr.grown G).trans (Fr.opt q2 h3)
  have hp : ¬ (O p ∧ p ≠ p) := fun e => e.2 rfl
  have hv : ∀ k', Value.ownBlock (.slice x (L ++ [a]).length cap) = some k' → (O k' ∨ w.heap.size ≤ k') ∧ k' ≠ p := by
    intro k' hk
    rcases q3 with e' | e'
    · rw [e'] at hk; exact ⟨.inl (h3 _ hk).1, (h3 _ hk).2⟩
    · rw [e'] at hk; cases hk; have := G.size; have := h.lt; exact ⟨.inr (by omega), by omega⟩
  exact ⟨x0, c0, x, _, cap, w6, h1, hr, F.cell h1 hp, (F.frozen h.lt hp).trans (h.fz 1), hideIt (h.store F q1 hv)⟩
end

/-! ### at -/
section
variable {w : World} {O : Nat → Prop} {p : Nat} {W : Int} {b : Option Int} {L : List Int}
set_option maxHeartbeats 1000000 in
theorem rat_yes (w : World) (p g n cap j : Nat) (a : Int) (L : List Int) (hn : Hid (L.length = n)) (hn2 : n ≤ 1000) (c1 : w.cell? ⟨p, 1, none⟩ = some (.slice (some ⟨g, 0, none⟩) n cap)) (HR : Hid (∀ i x, L[i]? = some x → w.cell? ⟨g, i, none⟩ = some (.int .i64 x))) (hj : Hid (L[j]? = some a)) (hf : Hid (∀ i, i < j → L[i]? ≠ some a)) :
    Calls Try.prog 28 #[.pointer (some ⟨p, 0, none⟩), .int .i64 a] w fun e w' => e = .returned (.int .i64 j) ∧ w' = w := by
  have hjn : j < n := by rw [← hn.out]; exact (List.getElem?_eq_some_iff.1 hj.out).1
  go_enter Try.func28, Try.ntmps28
  go_wp2
  go_loopg [5] (j + 1) (fun y i wr => ∃ c : Nat, c + y = j + 1 ∧ c ≤ j ∧ i = .int .i64 c ∧ wr = w)
  case atStart => exact ⟨0, by omega, by omega, rfl, rfl⟩
  case round =>
    obtain ⟨c, hc, hcj, rfl, rfl⟩ := hrel
    have hlt' : (c : Int) < (n : Int) := by omega
    obtain ⟨z, hz⟩ : ∃ q, L[c]? = some q := ⟨_, List.getElem?_eq_getElem (by rw [hn.out]; omega)⟩
    have e0 := HR.out c z hz
    by_cases ej : c = j
    · subst ej
      obtain rfl : z = a := by have := hj.out; rw [hz] at this; simpa using this
      clear hz
      go_wp2
      go_ret
      exact ⟨rfl, rfl⟩
    · have hs : (z == a) = false := by simp; rintro rfl; exact hf.out c (by omega) hz
      clear hz
      go_wp2
      go_roundg (gk - 1)
      case rel => exact ⟨c + 1, by omega, by omega, by go_num, rfl⟩
      case measure => omega
set_option maxHeartbeats 1000000 in
theorem rat_not (w : World) (p : Nat) (x : Option Addr) (n cap : Nat) (a : Int) (L : List Int) (hn : Hid (L.length = n)) (hn2 : n ≤ 1000) (c1 : w.cell? ⟨p, 1, none⟩ = some (.slice x n cap)) (HR : Hid (∀ i z, L[i]? = some z → ∃ g, x = some ⟨g, 0, none⟩ ∧ w.cell? ⟨g, i, none⟩ = some (.int .i64 z))) (hf : Hid (a ∉ L)) :
    Calls Try.prog 28 #[.pointer (some ⟨p, 0, none⟩), .int .i64 a] w fun e w' => e = .returned (.int .i64 (-1)) ∧ w' = w := by
  go_enter Try.func28, Try.ntmps28
  go_wp2
  go_loopg [5] (n + 1) (fun y i wr => ∃ c : Nat, c + y = n + 1 ∧ c ≤ n ∧ i = .int .i64 c ∧ wr = w)
  case atStart => exact ⟨0, by omega, by omega, rfl, rfl⟩
  case round =>
    obtain ⟨c, hc, hcj, rfl, rfl⟩ := hrel
    by_cases hlt : c < n
    · have hlt' : (c : Int) < (n : Int) := by omega
      obtain ⟨z, hz⟩ : ∃ q, L[c]? = some q := ⟨_, List.getElem?_eq_getElem (by rw [hn.out]; omega)⟩
      obtain ⟨g, rfl, e0⟩ := HR.out c z hz
      have hs : (z == a) = false := by simp; rintro rfl; exact hf.out (List.mem_of_getElem? hz)
      clear hz
      go_wp2
      go_roundg (gk - 1)
      case rel => exact ⟨c + 1, by omega, by omega, by go_num, rfl⟩
      case measure => omega
    · have hlt' : ¬ (c : Int) < (n : Int) := by omega
      go_wp2
      go_ret
      exact ⟨rfl, rfl⟩
theorem rat_is (h : RN w O p W b L) (hl : L.length ≤ 1000) (a i : Int) (hi : M.ix L a = i) :
    Calls Try.prog 28 #[.pointer (some ⟨p, 0, none⟩), .int .i64 a] w fun e w' => e = .returned (.int .i64 i) ∧ w' = w := by
  subst hi
  unfold M.ix
  obtain ⟨v, c1, l1, _⟩ := h.ex
  rcases l1.form with ⟨rfl, rfl⟩ | ⟨g, cap, rfl, _⟩
  · exact rat_not w p none 0 0 a [] (hideIt rfl) (by decide) c1 (hideIt (fun i z hz => by simp at hz)) (hideIt (by simp))
  · by_cases ha : a ∈ L
    · rw [if_pos ha]
      exact rat_yes w p g _ cap (L.idxOf a) a L (hideIt rfl) hl c1 (hideIt (fun i x hx => IL.at l1 rfl i x hx)) (hideIt (M.idx_at ha)) (hideIt M.idx_first)
    · rw [if_neg ha]
      exact rat_not w p _ _ cap a L (hideIt rfl) hl c1 (hideIt (fun i x hx => ⟨g, rfl, IL.at l1 rfl i x hx⟩)) (hideIt ha)

/-! ### Signal -/
set_option maxHeartbeats 2000000 in
theorem rsig_wake {x : Int} (h : RN w O p W b (x :: L)) (hl : (x :: L).length ≤ 900) (g0 : Int) (bd : Bool) :
    Calls Try.prog 9 #[.pointer (some ⟨p, 0, none⟩), .int .u64 g0, .bool bd] w fun e w' => e = .returned (.tuple #[.int .i64 x, .int .u64 g0, .bool true]) ∧ RN w' (wide O w w') p W b L ∧ Fr O w w' := by
  obtain ⟨v, c1, l1, _⟩ := h.ex
  obtain ⟨g, cap, rfl, hc, _, _, hc2⟩ := l1.has (n := L.length + 1) rfl (by omega)
  have e0 := IL.at l1 rfl 0 x rfl
  have hp := h.lt
  have hq1 : ¬ p = w.heap.size := by omega
  have hq2 : ¬ w.heap.size = p := by omega
  obtain ⟨n, hn⟩ : ∃ n, L.length + 1 = n := ⟨_, rfl⟩
  have hrun : ∀ ad c, (1 < cap → ad = (⟨g, 1, none⟩ : Addr)) → ∃ v' w', (Builtin.append_ #[27, 27] 27 #[.slice (some ⟨w.heap.size, 0, none⟩) 0 0, .slice (some ad) (n - 1) c]).run Try.prog (w.alloc (.cells #[] 3)) = .ok v' w' ∧ IL w' w.heap.size v' L ∧ w.grownBy w' none := by
    intro ad c had
    obtain ⟨v', w', h1, h2, h3, _⟩ := run_append_i (w.alloc (.cells #[] 3)) w.heap.size (.slice (some ⟨w.heap.size, 0, none⟩) 0 0) [] (Ls.empty eI 3 1 w) 27 (some ad) (n - 1) c L (by omega) (by simp) (by
      rintro ad' ⟨⟩ j u hu
      have hlt : 0 < L.length := by
        have := (List.getElem?_eq_some_iff.1 hu).1
        rw [cl_len encI] at this
        omega
      obtain rfl := had (by omega)
      have := (l1.kept (gbAlloc w (.cells #[] 3) none)).row encI rfl 1 L (fun j => .inr (by rw [Nat.add_comm, List.getElem?_cons_succ])) j u hu
      simpa using this) (by simp at hl ⊢; omega) (by simp)
    exact ⟨v', w', h1, h2, gbNew (gbTrans (gbAny (gbAlloc _ _ _) _) h3) (Nat.le_refl _)⟩
  rw [hn] at c1 hc
  have hn0 : 0 < n := by omega
  have h1n : 1 ≤ n := by omega
  have h1n' : (1 : Int) ≤ (n : Int) := by omega
  have h1c : 1 ≤ cap := by omega
  clear l1 hn hl
  by_cases hc1 : 1 < cap
  · obtain ⟨v', w', hr, l2, g2⟩ := hrun ⟨g, 1, none⟩ (cap - 1) (fun _ => rfl)
    obtain ⟨b1, b2, b3⟩ := h.storeNew g2 l2
    rw [c1] at b1
    have b3 := hideIt b3
    obtain ⟨x', c', rfl, _⟩ := l2.arr
    have hc3 : ¬ cap = 1 := by omega
    clear hrun l2 h
    go_enter Try.func9, Try.ntmps9
    go_wp2_with (at_builtin; refine wpList_append_run rfl (.tmp 24) (.tmp 29) rfl (.slice (some ⟨w.heap.size, 0, none⟩) 0 0) (.slice (some ⟨g, 1, none⟩) (n - 1) (cap - 1)) rfl (by simp [Act.eval]) _ w' hr ?_)
    go_ret3
    exact ⟨rfl, b3.out⟩
  · obtain rfl : cap = 1 := by omega
    obtain ⟨v', w', hr, l2, g2⟩ := hrun ⟨g, 0, none⟩ (1 - 1) (fun h => absurd h (by decide))
    obtain ⟨b1, b2, b3⟩ := h.storeNew g2 l2
    rw [c1] at b1
    have b3 := hideIt b3
    obtain ⟨x', c', rfl, _⟩ := l2.arr
    clear hrun l2 h
    go_enter Try.func9, Try.ntmps9
    go_wp2_with (at_builtin; refine wpList_append_run rfl (.tmp 24) (.tmp 29) rfl (.slice (some ⟨w.heap.size, 0, none⟩) 0 0) (.slice (some ⟨g, 0, none⟩) (n - 1) (1 - 1)) rfl (by simp [Act.eval]; omega) _ w' hr ?_)
    go_ret3
    exact ⟨rfl, b3.out⟩
set_option maxHeartbeats 400000 in
theorem rsig_not (h : RN w O p W b []) (g : Int) (bd : Bool) (hb : bd = false ∨ b = none) :
    Calls Try.prog 9 #[.pointer (some ⟨p, 0, none⟩), .int .u64 g, .bool bd] w fun e w' => e = .returned (.tuple #[.int .i64 0, .int .u64 0, .bool false]) ∧ RN w' (wide O w w') p (M.or W g) b [] ∧ Fr O w w' := by
  have HS := hideIt (RN.plain (h.setW (M.or W g)))
  have c0 := h.at0
  have f0 := h.fz 0
  obtain ⟨x, c, c1, _⟩ := h.see
  have c3 := h.at3
  cases bd with
  | false =>
    clear h hb
    go_enter Try.func9, Try.ntmps9
    go_wp2
    go_ret3
    exact ⟨rfl, HS.out⟩
  | true =>
    obtain rfl : b = none := hb.resolve_left (by simp)
    clear h hb
    go_enter Try.func9, Try.ntmps9
    go_wp2
    go_ret3
    exact ⟨rfl, HS.out⟩
set_option maxHeartbeats 400000 in
theorem rsig_told {a : Int} (h : RN w O p W (some a) []) (g : Int) :
    Calls Try.prog 9 #[.pointer (some ⟨p, 0, none⟩), .int .u64 g, .bool true] w fun e w' => e = .returned (.tuple #[.int .i64 a, .int .u64 (M.or W g), .bool true]) ∧ RN w' (wide O w w') p 0 (some a) [] ∧ Fr O w w' := by
  have HS := hideIt (RN.plain (h.setW 0))
  have c0 := h.at0
  have f0 := h.fz 0
  obtain ⟨x, c, c1, _⟩ := h.see
  have c3 := h.at3
  obtain ⟨i, c2, hi⟩ := h.ib
  obtain rfl := hi a rfl
  clear h hi
  go_enter Try.func9, Try.ntmps9
  go_wp2
  go_ret3
  exact ⟨rfl, HS.out⟩
theorem rsignal_is (h : RN w O p W b L) (hl : L.length ≤ 900) (g : Int) (bd : Bool) (x v : Int) (o : Bool) (hx : M.si b L bd = x) (hv : M.sv W b L g bd = v) (ho : M.so b L bd = o) :
    Calls Try.prog 9 #[.pointer (some ⟨p, 0, none⟩), .int .u64 g, .bool bd] w fun e w' => e = .returned (.tuple #[.int .i64 x, .int .u64 v, .bool o]) ∧ RN w' (wide O w w') p (M.sw W b L g bd) b L.tail ∧ Fr O w w' := by
  subst hx hv ho
  cases L with
  | cons y L => exact rsig_wake h hl g bd
  | nil =>
    cases b with
    | none => cases bd <;> exact rsig_not h g _ (.inr rfl)
    | some a =>
      cases bd with
      | false => exact rsig_not h g _ (.inl rfl)
      | true => exact rsig_told h g

/-! ### Wait -/
set_option maxHeartbeats 400000 in
theorem rwait_no1 (w : World) (p : Nat) (a : Int) (wt : Bool) (h : ¬ (0 ≤ a ∧ a < 64)) :
    Calls Try.prog 11 #[.pointer (some ⟨p, 0, none⟩), .int .i64 a, .bool wt] w fun e w' => e = .returned (.tuple #[.int .u64 0, .bool false, .int .i64 1]) ∧ w' = w := by
  by_cases h0 : a < 0
  · clear h
    go_enter Try.func11, Try.ntmps11
    go_wp2
    go_ret3
    exact ⟨rfl, rfl⟩
  · have h1 : 63 < a := by omega
    clear h
    go_enter Try.func11, Try.ntmps11
    go_wp2
    go_ret3
    exact ⟨rfl, rfl⟩
set_option maxHeartbeats 400000 in
theorem rwait_no4 (h : RN w O p W b L) (hl : L.length ≤ 900) (a : Int) (wt : Bool) (h0 : 0 ≤ a) (h1 : a < 64) (ha : a ∈ L) :
    Calls Try.prog 11 #[.pointer (some ⟨p, 0, none⟩), .int .i64 a, .bool wt] w fun e w' => e = .returned (.tuple #[.int .u64 0, .bool false, .int .i64 4]) ∧ w' = w := by
  obtain ⟨i, hi⟩ : ∃ i, M.ix L a = i := ⟨_, rfl⟩
  have hi0 : 0 ≤ i := by rw [← hi]; unfold M.ix; rw [if_pos ha]; omega
  have HC := hideIt (rat_is h (by omega) a i hi)
  have h2 : ¬ 63 < a := by omega
  have h3 : ¬ a < 0 := by omega
  clear h ha hi h0 h1
  go_enter Try.func11, Try.ntmps11
  go_wp2_with fail
  refine HC.out.mono ?_
  rintro e w1 ⟨rfl, rfl⟩
  go_wp2
  go_ret3
  exact ⟨rfl, rfl⟩
set_option maxHeartbeats 400000 in
theorem rwait_told (h : RN w O p W b L) (hl : L.length ≤ 900) (a : Int) (wt : Bool) (h0 : 0 ≤ a) (h1 : a < 64) (ha : a ∉ L) (hW : (W == 0) = false) :
    Calls Try.prog 11 #[.pointer (some ⟨p, 0, none⟩), .int .i64 a, .bool wt] w fun e w' => e = .returned (.tuple #[.int .u64 W, .bool true, .int .i64 0]) ∧ RN w' (wide O w w') p 0 b L ∧ Fr O w w' := by
  have HC := hideIt (rat_is h (by omega) a (-1) (by unfold M.ix; rw [if_neg ha]))
  have HS := hideIt (RN.plain (h.setW 0))
  have c0 := h.at0
  have f0 := h.fz 0
  have h2 : ¬ 63 < a := by omega
  have h3 : ¬ a < 0 := by omega
  have hW2 : (W != 0) = true := by simpa using hW
  clear h ha h0 h1
  go_enter Try.func11, Try.ntmps11
  go_wp2_with fail
  refine HC.out.mono ?_
  rintro e w1 ⟨rfl, rfl⟩
  go_wp2
  go_ret3
  exact ⟨rfl, HS.out⟩
set_option maxHeartbeats 400000 in
theorem rwait_not (h : RN w O p 0 b L) (hl : L.length ≤ 900) (a : Int) (h0 : 0 ≤ a) (h1 : a < 64) (ha : a ∉ L) :
    Calls Try.prog 11 #[.pointer (some ⟨p, 0, none⟩), .int .i64 a, .bool false] w fun e w' => e = .returned (.tuple #[.int .u64 0, .bool false, .int .i64 0]) ∧ w' = w := by
  have HC := hideIt (rat_is h (by omega) a (-1) (by unfold M.ix; rw [if_neg ha]))
  have c0 := h.at0
  have h2 : ¬ 63 < a := by omega
  have h3 : ¬ a < 0 := by omega
  clear h ha h0 h1
  go_enter Try.func11, Try.ntmps11
  go_wp2_with fail
  refine HC.out.mono ?_
  rintro e w1 ⟨rfl, rfl⟩
  go_wp2
  go_ret3
  exact ⟨rfl, rfl⟩
set_option maxHeartbeats 1000000 in
theorem rwait_wait (h : RN w O p 0 b L) (hl : L.length ≤ 900) (a : Int) (h0 : 0 ≤ a) (h1 : a < 64) (ha : a ∉ L) :
    Calls Try.prog 11 #[.pointer (some ⟨p, 0, none⟩), .int .i64 a, .bool true] w fun e w' => e = .returned (.tuple #[.int .u64 0, .bool false, .int .i64 0]) ∧ RN w' (wide O w w') p 0 b (L ++ [a]) ∧ Fr O w w' := by
  have HC := hideIt (rat_is h (by omega) a (-1) (by unfold M.ix; rw [if_neg ha]))
  have c9 := h.at0
  have h2 : ¬ 63 < a := by omega
  have h3 : ¬ a < 0 := by omega
  have hp := h.lt
  have hq1 : ¬ p = w.heap.size := by omega
  have hq2 : ¬ w.heap.size = p := by omega
  obtain ⟨n0, hn0⟩ : ∃ n0, L.length = n0 := ⟨_, rfl⟩
  obtain ⟨x0, c0, x, n, cap, w6, b1, b2, b3, b4, b5⟩ := RN.push h n0 hn0 (gbAlloc w (.cells #[.int .i64 a] 3) none) ⟨w.heap.size, 0, none⟩ 1 a (rowI w a) (by omega)
  clear h ha h0 h1 hn0 hl
  go_enter Try.func11, Try.ntmps11
  go_wp2_with fail
  refine HC.out.mono ?_
  rintro e w1 ⟨rfl, rfl⟩
  go_wp2_with (at_builtin; refine wpList_append_run rfl (.tmp 41) (.tmp 43) rfl (.slice x0 n0 c0) (.slice (some ⟨w1.heap.size, 0, none⟩) 1 1) rfl rfl (.slice x n cap) w6 b2 ?_)
  go_ret3
  exact ⟨rfl, b5.out⟩
theorem rwait_is (h : RN w O p W b L) (hl : L.length ≤ 900) (a : Int) (wt : Bool) (v : Int) (o : Bool) (f : Int) (hv : M.wv W L a = v) (ho : M.wb W L a = o) (hf : M.pe L a = f) :
    Calls Try.prog 11 #[.pointer (some ⟨p, 0, none⟩), .int .i64 a, .bool wt] w fun e w' => e = .returned (.tuple #[.int .u64 v, .bool o, .int .i64 f]) ∧ RN w' (wide O w w') p (M.ww W L a) b (M.wl W L a wt) ∧ Fr O w w' := by
  subst hv ho
  unfold M.wv M.wb M.ww M.wl
  by_cases f0 : f = 0
  · subst f0
    obtain ⟨p0, p1, p2⟩ := M.pe_ok hf
    simp only [hf, true_and, if_true]
    by_cases hW : W = 0
    · subst hW
      cases wt with
      | true => simpa using rwait_wait h hl a p0 p1 p2
      | false =>
        refine (rwait_not h hl a p0 p1 p2).mono ?_
        rintro e w1 ⟨rfl, rfl⟩
        exact ⟨by simp, by simpa using h.wider _ _, Fr.refl _ _⟩
    · simp only [hW, false_and, if_false]
      have := rwait_told h hl a wt p0 p1 p2 (by simpa using hW)
      simpa [hW] using this
  · have hf0 : ¬ M.pe L a = 0 := by rw [hf]; exact f0
    simp only [hf0, false_and, if_false, decide_false]
    unfold M.pe at hf
    by_cases h1 : 0 ≤ a ∧ a < 64
    · rw [if_pos h1] at hf
      by_cases h2 : a ∈ L
      · rw [if_pos h2] at hf
        subst hf
        refine (rwait_no4 h hl a wt h1.1 h1.2 h2).mono ?_
        rintro e w1 ⟨rfl, rfl⟩
        exact ⟨rfl, h.wider _ _, Fr.refl _ _⟩
      · rw [if_neg h2] at hf
        exact absurd hf.symm f0
    · rw [if_neg h1] at hf
      subst hf
      refine (rwait_no1 w p a wt h1).mono ?_
      rintro e w1 ⟨rfl, rfl⟩
      exact ⟨rfl, h.wider _ _, Fr.refl _ _⟩

/-! ### Bind -/
set_option maxHeartbeats 400000 in
theorem rbind_no1 (w : World) (p : Nat) (a : Int) (h : ¬ (0 ≤ a ∧ a < 64)) :
    Calls Try.prog 15 #[.pointer (some ⟨p, 0, none⟩), .int .i64 a] w fun e w' => e = .returned (.int .i64 1) ∧ w' = w := by
  by_cases h0 : a < 0
  · clear h
    go_enter Try.func15, Try.ntmps15
    go_wp2
    go_ret
    exact ⟨rfl, rfl⟩
  · have h1 : 63 < a := by omega
    clear h
    go_enter Try.func15, Try.ntmps15
    go_wp2
    go_ret
    exact ⟨rfl, rfl⟩
set_option maxHeartbeats 400000 in
theorem rbind_no4 {c : Int} (h : RN w O p W (some c) L) (a : Int) (h0 : 0 ≤ a) (h1 : a < 64) :
    Calls Try.prog 15 #[.pointer (some ⟨p, 0, none⟩), .int .i64 a] w fun e w' => e = .returned (.int .i64 4) ∧ w' = w := by
  have h2 : ¬ 63 < a := by omega
  have h3 : ¬ a < 0 := by omega
  have c3 := h.at3
  clear h h0 h1
  go_enter Try.func15, Try.ntmps15
  go_wp2
  go_ret
  exact ⟨rfl, rfl⟩
set_option maxHeartbeats 400000 in
theorem rbind_yes (h : RN w O p W none L) (a : Int) (h0 : 0 ≤ a) (h1 : a < 64) :
    Calls Try.prog 15 #[.pointer (some ⟨p, 0, none⟩), .int .i64 a] w fun e w' => e = .returned (.int .i64 0) ∧ RN w' (wide O w w') p W (some a) L ∧ Fr O w w' := by
  have h2 : ¬ 63 < a := by omega
  have h3 : ¬ a < 0 := by omega
  have c3 := h.at3
  obtain ⟨i, c2, _⟩ := h.ib
  have f2 := h.fz 2
  have f3 := h.fz 3
  have HS := hideIt (RN.plain (h.setB a))
  clear h h0 h1
  go_enter Try.func15, Try.ntmps15
  go_wp2
  go_ret
  exact ⟨rfl, HS.out⟩
theorem rbind_is (h : RN w O p W b L) (a f : Int) (hf : M.be b a = f) :
    Calls Try.prog 15 #[.pointer (some ⟨p, 0, none⟩), .int .i64 a] w fun e w' => e = .returned (.int .i64 f) ∧ RN w' (wide O w w') p W (M.bb b a) L ∧ Fr O w w' := by
  subst hf
  unfold M.be M.bb
  by_cases ha : 0 ≤ a ∧ a < 64
  · rw [if_pos ha, if_pos ha]
    cases b with
    | none => simpa using rbind_yes h a ha.1 ha.2
    | some c =>
      refine (rbind_no4 h a ha.1 ha.2).mono ?_
      rintro e w1 ⟨rfl, rfl⟩
      exact ⟨rfl, h.wider _ _, Fr.refl _ _⟩
  · rw [if_neg ha, if_neg ha]
    refine (rbind_no1 w p a ha).mono ?_
    rintro e w1 ⟨rfl, rfl⟩
    exact ⟨rfl, h.wider _ _, Fr.refl _ _⟩

/-! ### Bound, Unbind -/
set_option maxHeartbeats 400000 in
theorem rbound_is (h : RN w O p W b L) (x : Int) (o : Bool) (hx : b.getD 0 = x) (ho : b.isSome = o) :
    Calls Try.prog 19 #[.pointer (some ⟨p, 0, none⟩)] w fun e w' => e = .returned (.tuple #[.int .i64 x, .bool o]) ∧ w' = w := by
  subst hx ho
  have c3 := h.at3
  obtain ⟨i, c2, hi⟩ := h.ib
  cases b with
  | none =>
    clear h hi
    go_enter Try.func19, Try.ntmps19
    go_wp2
    go_ret2
    exact ⟨rfl, rfl⟩
  | some a =>
    obtain rfl := hi a rfl
    clear h hi
    go_enter Try.func19, Try.ntmps19
    go_wp2
    go_ret2
    exact ⟨rfl, rfl⟩
set_option maxHeartbeats 400000 in
theorem runbind_is (h : RN w O p W b L) (x : Int) (o : Bool) (hx : b.getD 0 = x) (ho : b.isSome = o) :
    Calls Try.prog 17 #[.pointer (some ⟨p, 0, none⟩)] w fun e w' => e = .returned (.tuple #[.int .i64 x, .bool o]) ∧ RN w' (wide O w w') p W none L ∧ Fr O w w' := by
  have HB := hideIt (rbound_is h x o hx ho)
  have HS := hideIt (RN.plain h.setN)
  have c3 := h.at3
  have f3 := h.fz 3
  clear h hx ho
  go_enter Try.func17, Try.ntmps17
  go_wp2_with fail
  refine HB.out.mono ?_
  rintro e w1 ⟨rfl, rfl⟩
  go_wp2
  go_ret2
  exact ⟨rfl, HS.out⟩
end
end Go.Proofs.Ytehgfeflbkdjdaa
