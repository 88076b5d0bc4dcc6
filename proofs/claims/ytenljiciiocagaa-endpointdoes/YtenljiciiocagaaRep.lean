/-
  THE CONTRACTS of the document's endpoint: at, meet, Send, Recv, Cancel, Clear, State: the same plain answers.
-/
import Derived.Test.YtenljiciiocagaaEpt
namespace Go.Proofs.Ytenljiciiocagaa
set_option maxRecDepth 10000
open Go.RowKit
set_option linter.unusedVariables false

/-! ### An endpoint of the document -/
structure RA (w : World) (O : Nat → Prop) (p : Nat) (L : List Int) (r : Bool) : Prop where
  a : LA w O p L
  r1 : w.cell? ⟨p, 1, none⟩ = some (.bool r)
/-- What it is at. -/
def M.kd (L : List Int) (r : Bool) : Int := if L = [] then 0 else if r then 2 else 1
structure RB (w : World) (O : Nat → Prop) (p : Nat) (k : Int) (L : List Int) : Prop where
  ex : ∃ r, RA w O p L r ∧ M.kd L r = k
section
variable {w w' w1 w2 W : World} {O : Nat → Prop} {p : Nat} {k k' : Int} {L L' : List Int} {r : Bool} {v' : Value}
theorem RA.fr {O' : Nat → Prop} (h : RA w O p L r) (F : Fr O' w w') (hd : ∀ i, O i → ¬ O' i) : RA w' O p L r := ⟨h.a.fr F hd, F.cell h.r1 (hd p h.a.op)⟩
theorem RA.kept (h : RA w O p L r) (g : w.grownBy w' none) : RA w' O p L r := h.fr (O' := fun _ => False) (Fr.grown g) (fun _ _ e => e)
theorem RA.mono {O' : Nat → Prop} (h : RA w O p L r) (hO : ∀ i, O i → O' i) : RA w O' p L r := ⟨h.a.mono hO, h.r1⟩
theorem RB.fr {O' : Nat → Prop} (h : RB w O p k L) (F : Fr O' w w') (hd : ∀ i, O i → ¬ O' i) : RB w' O p k L := by
  obtain ⟨r, h1, h2⟩ := h.ex
  exact ⟨r, h1.fr F hd, h2⟩
theorem RB.kept (h : RB w O p k L) (g : w.grownBy w' none) : RB w' O p k L := h.fr (O' := fun _ => False) (Fr.grown g) (fun _ _ e => e)
theorem RB.mono {O' : Nat → Prop} (h : RB w O p k L) (hO : ∀ i, O i → O' i) : RB w O' p k L := by
  obtain ⟨r, h1, h2⟩ := h.ex
  exact ⟨r, h1.mono hO, h2⟩
theorem RB.wider (h : RB w O p k L) (w1 w2 : World) : RB w (wide O w1 w2) p k L := h.mono fun i hi => .inl hi
/-- A new list is stored there. -/
theorem RA.store (h : RA w O p L r) (F : Fr (fun k => O k ∧ k ≠ p) w w') (l6 : IL w' 0 v' L') (hv : ∀ k, v'.ownBlock = some k → (O k ∨ w.heap.size ≤ k) ∧ k ≠ p) :
    RA (w'.setCell ⟨p, 0, none⟩ v') (wide O w (w'.setCell ⟨p, 0, none⟩ v')) p L' r ∧ Fr O w (w'.setCell ⟨p, 0, none⟩ v') := by
  obtain ⟨h1, h2⟩ := h.a.store F l6 hv
  exact ⟨⟨h1, by rw [World.cell?_setCell_other _ _ _ _ (by simp)]; exact F.cell h.r1 (fun e => e.2 rfl)⟩, h2⟩
theorem RA.storeNew (h : RA w O p L r) (G : w.grownBy W none) (l : IL W w.heap.size v' L') :
    W.cell? ⟨p, 0, none⟩ = w.cell? ⟨p, 0, none⟩ ∧ W.frozen? ⟨p, 0, none⟩ = false ∧ RA (W.setCell ⟨p, 0, none⟩ v') (wide O w (W.setCell ⟨p, 0, none⟩ v')) p L' r ∧ Fr O w (W.setCell ⟨p, 0, none⟩ v') := by
  obtain ⟨h1, h2, h3, h4⟩ := h.a.storeNew G l
  exact ⟨h1, h2, ⟨h3, by rw [World.cell?_setCell_other _ _ _ _ (by simp)]; exact G.cell h.r1 (by simp)⟩, h4⟩
/-- Whether they receive is set. -/
theorem RA.setR (h : RA w O p L r) (rv : Bool) : RA (w.setCell ⟨p, 1, none⟩ (.bool rv)) O p L rv ∧ Fr O w (w.setCell ⟨p, 1, none⟩ (.bool rv)) := by
  obtain ⟨v, h1, h2, h3⟩ := h.a.ex
  have G := gbSetCell w p 1 (.bool rv)
  refine ⟨⟨⟨⟨v, ?_, h2.keep G (fun k hk e => (h3 k hk).2 (by cases e; rfl)), h3⟩, fun i => ?_, Nat.lt_of_lt_of_le h.a.lt G.size, h.a.op⟩, World.cell?_setCell_same _ _ _ h.r1⟩, Fr.at G h.a.op⟩
  · rw [World.cell?_setCell_other _ _ _ _ (by simp)]; exact h1
  · rw [World.frozen?_setCell]; exact h.a.fz i
/-- append onto the list that lies there, the store of what comes of it, and of whether they receive. -/
theorem RA.push (h : RA w O p L r) (n0 : Nat) (hn0 : L.length = n0) (G : w.grownBy W none) (ad : Addr) (c : Nat) (a : Int) (hx : ∀ j u, (cl eI [a])[j]? = some u → W.cell? (ad.add j) = some u) (hn : n0 ≤ 1000) :
    ∃ x0 c0 x n cap w6, w.cell? ⟨p, 0, none⟩ = some (.slice x0 n0 c0) ∧ (Builtin.append_ #[26, 26] 26 #[.slice x0 n0 c0, .slice (some ad) 1 c]).run Try.prog W = .ok (.slice x n cap) w6 ∧
      w6.cell? ⟨p, 0, none⟩ = some (.slice x0 n0 c0) ∧ w6.frozen? ⟨p, 0, none⟩ = false ∧ w6.cell? ⟨p, 1, none⟩ = some (.bool r) ∧ w6.frozen? ⟨p, 1, none⟩ = false ∧
      Hid (∀ rv, RA ((w6.setCell ⟨p, 0, none⟩ (.slice x n cap)).setCell ⟨p, 1, none⟩ (.bool rv)) (wide O w ((w6.setCell ⟨p, 0, none⟩ (.slice x n cap)).setCell ⟨p, 1, none⟩ (.bool rv))) p (L ++ [a]) rv ∧ Fr O w ((w6.setCell ⟨p, 0, none⟩ (.slice x n cap)).setCell ⟨p, 1, none⟩ (.bool rv))) := by
  subst hn0
  obtain ⟨x0, c0, h1, _, _, h2, h3⟩ := h.a.see
  obtain ⟨v', w6, hr, q1, q2, q3⟩ := run_append_i W 0 (.slice x0 L.length c0) L (h2.kept G) 26 (some ad) 1 c [a] rfl (by simp) (by rintro ad' ⟨⟩; exact hx) (by omega) (Nat.zero_le _)
  obtain ⟨x, cap, rfl, _⟩ := q1.arr
  have F : Fr (fun k => O k ∧ k ≠ p) w w6 := (Fr.grown G).trans (Fr.opt q2 h3)
  have hp : ¬ (O p ∧ p ≠ p) := fun e => e.2 rfl
  have hv : ∀ k', Value.ownBlock (.slice x (L ++ [a]).length cap) = some k' → (O k' ∨ w.heap.size ≤ k') ∧ k' ≠ p := by
    intro k' hk
    rcases q3 with e' | e'
    · rw [e'] at hk; exact ⟨.inl (h3 _ hk).1, (h3 _ hk).2⟩
    · rw [e'] at hk; cases hk; have := G.size; have := h.a.lt; exact ⟨.inr (by omega), by omega⟩
  have S := h.store F q1 hv
  refine ⟨x0, c0, x, _, cap, w6, h1, hr, F.cell h1 hp, (F.frozen h.a.lt hp).trans (h.a.fz 0), F.cell h.r1 hp, (F.frozen h.a.lt hp).trans (h.a.fz 1), hideIt (fun rv => ?_)⟩
  have S2 := S.1.setR rv
  refine ⟨S2.1.mono (fun i hi => ?_), S.2.wide S2.2⟩
  rcases hi with hi | hi
  · exact .inl hi
  · exact .inr ⟨hi.1, Nat.lt_of_lt_of_le hi.2 S2.2.size⟩
theorem RA.see (h : RA w O p L r) : ∃ x c, w.cell? ⟨p, 0, none⟩ = some (.slice x L.length c) ∧ L.length ≤ c ∧ c ≤ 9223372036854775807 ∧ IL w 0 (.slice x L.length c) L ∧ w.cell? ⟨p, 1, none⟩ = some (.bool r) := by
  obtain ⟨x, c, h1, h2, h3, h4, _⟩ := h.a.see
  exact ⟨x, c, h1, h2, h3, h4, h.r1⟩
end

/-! ### at -/
section
variable {w : World} {O : Nat → Prop} {p : Nat} {k : Int} {L : List Int} {r : Bool}
set_option maxHeartbeats 1000000 in
theorem rat_yes (w : World) (p g n cap j : Nat) (a : Int) (L : List Int) (hn : Hid (L.length = n)) (hn2 : n ≤ 1000) (c1 : w.cell? ⟨p, 0, none⟩ = some (.slice (some ⟨g, 0, none⟩) n cap)) (HR : Hid (∀ i x, L[i]? = some x → w.cell? ⟨g, i, none⟩ = some (.int .i64 x))) (hj : Hid (L[j]? = some a)) (hf : Hid (∀ i, i < j → L[i]? ≠ some a)) :
    Calls Try.prog 24 #[.pointer (some ⟨p, 0, none⟩), .int .i64 a] w fun e w' => e = .returned (.int .i64 j) ∧ w' = w := by
  have hjn : j < n := by rw [← hn.out]; exact (List.getElem?_eq_some_iff.1 hj.out).1
  go_enter Try.func24, Try.ntmps24
  go_wp2
  go_loopg [5] (j + 1) (fun y i wr => ∃ c : Nat, c + y = j + 1 ∧ c ≤ j ∧ i = .int .i64 c ∧ wr = w)
  case atStart => exact ⟨0, by omega, by omega, rfl, rfl⟩
  case round =>
    obtain ⟨c, hc, hcj, rfl, rfl⟩ := hrel
    have hlt' : (c : Int) < (n : Int) := by omega
    obtain ⟨z, hz⟩ : ∃ q, L[c]? = some q := ⟨_, List.getElem?_eq_getElem (by rw [hn.out]; omega)⟩
    have e0 := HR.out c z hz
    by_cases ej : c = j
    · subst ej
      obtain rfl : z = a := by have := hj.out; rw [hz] at this; simpa using this
      clear hz
      go_wp2
      go_ret
      exact ⟨rfl, rfl⟩
    · have hs : (z == a) = false := by simp; rintro rfl; exact hf.out c (by omega) hz
      clear hz
      go_wp2
      go_roundg (gk - 1)
      case rel => exact ⟨c + 1, by omega, by omega, by go_num, rfl⟩
      case measure => omega
set_option maxHeartbeats 1000000 in
theorem rat_not (w : World) (p : Nat) (x : Option Addr) (n cap : Nat) (a : Int) (L : List Int) (hn : Hid (L.length = n)) (hn2 : n ≤ 1000) (c1 : w.cell? ⟨p, 0, none⟩ = some (.slice x n cap)) (HR : Hid (∀ i z, L[i]? = some z → ∃ g, x = some ⟨g, 0, none⟩ ∧ w.cell? ⟨g, i, none⟩ = some (.int .i64 z))) (hf : Hid (a ∉ L)) :
    Calls Try.prog 24 #[.pointer (some ⟨p, 0, none⟩), .int .i64 a] w fun e w' => e = .returned (.int .i64 (-1)) ∧ w' = w := by
  go_enter Try.func24, Try.ntmps24
  go_wp2
  go_loopg [5] (n + 1) (fun y i wr => ∃ c : Nat, c + y = n + 1 ∧ c ≤ n ∧ i = .int .i64 c ∧ wr = w)
  case atStart => exact ⟨0, by omega, by omega, rfl, rfl⟩
  case round =>
    obtain ⟨c, hc, hcj, rfl, rfl⟩ := hrel
    by_cases hlt : c < n
    · have hlt' : (c : Int) < (n : Int) := by omega
      obtain ⟨z, hz⟩ : ∃ q, L[c]? = some q := ⟨_, List.getElem?_eq_getElem (by rw [hn.out]; omega)⟩
      obtain ⟨g, rfl, e0⟩ := HR.out c z hz
      have hs : (z == a) = false := by simp; rintro rfl; exact hf.out (List.mem_of_getElem? hz)
      clear hz
      go_wp2
      go_roundg (gk - 1)
      case rel => exact ⟨c + 1, by omega, by omega, by go_num, rfl⟩
      case measure => omega
    · have hlt' : ¬ (c : Int) < (n : Int) := by omega
      go_wp2
      go_ret
      exact ⟨rfl, rfl⟩
theorem rat_is (h : RA w O p L r) (hl : L.length ≤ 1000) (a i : Int) (hi : M.ix L a = i) :
    Calls Try.prog 24 #[.pointer (some ⟨p, 0, none⟩), .int .i64 a] w fun e w' => e = .returned (.int .i64 i) ∧ w' = w := by
  subst hi
  unfold M.ix
  obtain ⟨v, c1, l1, _⟩ := h.a.ex
  rcases l1.form with ⟨rfl, rfl⟩ | ⟨g, cap, rfl, _⟩
  · exact rat_not w p none 0 0 a [] (hideIt rfl) (by decide) c1 (hideIt (fun i z hz => by simp at hz)) (hideIt (by simp))
  · by_cases ha : a ∈ L
    · rw [if_pos ha]
      exact rat_yes w p g _ cap (L.idxOf a) a L (hideIt rfl) hl c1 (hideIt (fun i x hx => IL.at l1 rfl i x hx)) (hideIt (M.idx_at ha)) (hideIt M.idx_first)
    · rw [if_neg ha]
      exact rat_not w p _ _ cap a L (hideIt rfl) hl c1 (hideIt (fun i x hx => ⟨g, rfl, IL.at l1 rfl i x hx⟩)) (hideIt ha)

/-! ### meet -/
set_option maxHeartbeats 400000 in
theorem rmeet_no1 (w : World) (p : Nat) (a : Int) (wt rv : Bool) (h : ¬ (0 ≤ a ∧ a < 64)) :
    Calls Try.prog 21 #[.pointer (some ⟨p, 0, none⟩), .int .i64 a, .bool wt, .bool rv] w fun e w' => e = .returned (.tuple #[.int .i64 0, .bool false, .int .i64 1]) ∧ w' = w := by
  by_cases h0 : a < 0
  · clear h
    go_enter Try.func21, Try.ntmps21
    go_wp2
    go_ret3
    exact ⟨rfl, rfl⟩
  · have h1 : 63 < a := by omega
    clear h
    go_enter Try.func21, Try.ntmps21
    go_wp2
    go_ret3
    exact ⟨rfl, rfl⟩
set_option maxHeartbeats 400000 in
theorem rmeet_no4 (h : RA w O p L r) (hl : L.length ≤ 900) (a : Int) (wt rv : Bool) (h0 : 0 ≤ a) (h1 : a < 64) (ha : a ∈ L) :
    Calls Try.prog 21 #[.pointer (some ⟨p, 0, none⟩), .int .i64 a, .bool wt, .bool rv] w fun e w' => e = .returned (.tuple #[.int .i64 0, .bool false, .int .i64 4]) ∧ w' = w := by
  obtain ⟨i, hi⟩ : ∃ i, M.ix L a = i := ⟨_, rfl⟩
  have hi0 : 0 ≤ i := by rw [← hi]; unfold M.ix; rw [if_pos ha]; omega
  have HC := hideIt (rat_is h (by omega) a i hi)
  have h2 : ¬ 63 < a := by omega
  have h3 : ¬ a < 0 := by omega
  clear h ha hi h0 h1
  go_enter Try.func21, Try.ntmps21
  go_wp2_with fail
  refine HC.out.mono ?_
  rintro e w1 ⟨rfl, rfl⟩
  go_wp2
  go_ret3
  exact ⟨rfl, rfl⟩
set_option maxHeartbeats 2000000 in
theorem rmeet_meet {x : Int} (h : RA w O p (x :: L) r) (hl : (x :: L).length ≤ 900) (a : Int) (wt rv : Bool) (h0 : 0 ≤ a) (h1 : a < 64) (ha : a ∉ x :: L) (hr : (r == rv) = false) :
    Calls Try.prog 21 #[.pointer (some ⟨p, 0, none⟩), .int .i64 a, .bool wt, .bool rv] w fun e w' => e = .returned (.tuple #[.int .i64 x, .bool true, .int .i64 0]) ∧ RA w' (wide O w w') p L r ∧ Fr O w w' := by
  have HC := hideIt (rat_is h (by omega) a (-1) (by unfold M.ix; rw [if_neg ha]))
  have h2 : ¬ 63 < a := by omega
  have h3 : ¬ a < 0 := by omega
  clear ha h0 h1
  obtain ⟨v, c1, l1, _⟩ := h.a.ex
  have d1 := h.r1
  obtain ⟨g, cap, rfl, hc, _, _, hc2⟩ := l1.has (n := L.length + 1) rfl (by omega)
  have e0 := IL.at l1 rfl 0 x rfl
  have hp := h.a.lt
  have hq1 : ¬ p = w.heap.size := by omega
  have hq2 : ¬ w.heap.size = p := by omega
  obtain ⟨n, hn⟩ : ∃ n, L.length + 1 = n := ⟨_, rfl⟩
  have hrun : ∀ ad c, (1 < cap → ad = (⟨g, 1, none⟩ : Addr)) → ∃ v' w', (Builtin.append_ #[26, 26] 26 #[.slice (some ⟨w.heap.size, 0, none⟩) 0 0, .slice (some ad) (n - 1) c]).run Try.prog (w.alloc (.cells #[] 3)) = .ok v' w' ∧ IL w' w.heap.size v' L ∧ w.grownBy w' none := by
    intro ad c had
    obtain ⟨v', w', h1, h2, h3, _⟩ := run_append_i (w.alloc (.cells #[] 3)) w.heap.size (.slice (some ⟨w.heap.size, 0, none⟩) 0 0) [] (Ls.empty eI 3 1 w) 26 (some ad) (n - 1) c L (by omega) (by simp) (by
      rintro ad' ⟨⟩ j u hu
      have hlt : 0 < L.length := by
        have := (List.getElem?_eq_some_iff.1 hu).1
        rw [cl_len encI] at this
        omega
      obtain rfl := had (by omega)
      have := (l1.kept (gbAlloc w (.cells #[] 3) none)).row encI rfl 1 L (fun j => .inr (by rw [Nat.add_comm, List.getElem?_cons_succ])) j u hu
      simpa using this) (by simp at hl ⊢; omega) (by simp)
    exact ⟨v', w', h1, h2, gbNew (gbTrans (gbAny (gbAlloc _ _ _) _) h3) (Nat.le_refl _)⟩
  rw [hn] at c1 hc
  have hn0 : 0 < n := by omega
  have h1n : 1 ≤ n := by omega
  have h1n' : (1 : Int) ≤ (n : Int) := by omega
  have h1c : 1 ≤ cap := by omega
  have hn0' : ((n : Int) == 0) = false := by simp; omega
  clear l1 hn hl
  by_cases hc1 : 1 < cap
  · obtain ⟨v', w', hr, l2, g2⟩ := hrun ⟨g, 1, none⟩ (cap - 1) (fun _ => rfl)
    obtain ⟨b1, b2, b3⟩ := h.storeNew g2 l2
    rw [c1] at b1
    have b3 := hideIt b3
    obtain ⟨x', c', rfl, _⟩ := l2.arr
    have hc3 : ¬ cap = 1 := by omega
    clear hrun l2 h
    go_enter Try.func21, Try.ntmps21
    go_wp2_with fail
    refine HC.out.mono ?_
    rintro e w1 ⟨rfl, rfl⟩
    go_wp2_with (at_builtin; refine wpList_append_run rfl (.tmp 45) (.tmp 50) rfl (.slice (some ⟨w1.heap.size, 0, none⟩) 0 0) (.slice (some ⟨g, 1, none⟩) (n - 1) (cap - 1)) rfl (by simp [Act.eval]) _ w' hr ?_)
    go_ret3
    exact ⟨rfl, b3.out⟩
  · obtain rfl : cap = 1 := by omega
    obtain ⟨v', w', hr, l2, g2⟩ := hrun ⟨g, 0, none⟩ (1 - 1) (fun h => absurd h (by decide))
    obtain ⟨b1, b2, b3⟩ := h.storeNew g2 l2
    rw [c1] at b1
    have b3 := hideIt b3
    obtain ⟨x', c', rfl, _⟩ := l2.arr
    clear hrun l2 h
    go_enter Try.func21, Try.ntmps21
    go_wp2_with fail
    refine HC.out.mono ?_
    rintro e w1 ⟨rfl, rfl⟩
    go_wp2_with (at_builtin; refine wpList_append_run rfl (.tmp 45) (.tmp 50) rfl (.slice (some ⟨w1.heap.size, 0, none⟩) 0 0) (.slice (some ⟨g, 0, none⟩) (n - 1) (1 - 1)) rfl (by simp [Act.eval]; omega) _ w' hr ?_)
    go_ret3
    exact ⟨rfl, b3.out⟩
set_option maxHeartbeats 1000000 in
theorem rmeet_wait (h : RA w O p L r) (hl : L.length ≤ 900) (a : Int) (rv : Bool) (h0 : 0 ≤ a) (h1 : a < 64) (ha : a ∉ L) (hr : L = [] ∨ (r == rv) = true) :
    Calls Try.prog 21 #[.pointer (some ⟨p, 0, none⟩), .int .i64 a, .bool true, .bool rv] w fun e w' => e = .returned (.tuple #[.int .i64 0, .bool false, .int .i64 0]) ∧ RA w' (wide O w w') p (L ++ [a]) rv ∧ Fr O w w' := by
  have HC := hideIt (rat_is h (by omega) a (-1) (by unfold M.ix; rw [if_neg ha]))
  have h2 : ¬ 63 < a := by omega
  have h3 : ¬ a < 0 := by omega
  have hp := h.a.lt
  have hq1 : ¬ p = w.heap.size := by omega
  have hq2 : ¬ w.heap.size = p := by omega
  obtain ⟨n0, hn0⟩ : ∃ n0, L.length = n0 := ⟨_, rfl⟩
  have d1 := h.r1
  obtain ⟨x0, c0, x, n, cap, w6, b1, b2, b3, b4, b5, b6, b7⟩ := RA.push h n0 hn0 (gbAlloc w (.cells #[.int .i64 a] 3) none) ⟨w.heap.size, 0, none⟩ 1 a (rowI w a) (by omega)
  have B7 := hideIt (b7.out rv)
  have hr2 : n0 = 0 ∨ (r == rv) = true := by
    rcases hr with e | e
    · exact .inl (by rw [← hn0, e]; rfl)
    · exact .inr e
  clear h ha h0 h1 hr hn0 hl b7
  by_cases n00 : n0 = 0
  · subst n00
    clear hr2
    go_enter Try.func21, Try.ntmps21
    go_wp2_with fail
    refine HC.out.mono ?_
    rintro e w1 ⟨rfl, rfl⟩
    go_wp2_with (at_builtin; refine wpList_append_run rfl (.tmp 60) (.tmp 62) rfl (.slice x0 0 c0) (.slice (some ⟨w1.heap.size, 0, none⟩) 1 1) rfl rfl (.slice x n cap) w6 b2 ?_)
    go_ret3
    exact ⟨rfl, B7.out⟩
  · have hr3 : (r == rv) = true := hr2.resolve_left n00
    have n01 : 0 < n0 := by omega
    clear hr2
    go_enter Try.func21, Try.ntmps21
    go_wp2_with fail
    refine HC.out.mono ?_
    rintro e w1 ⟨rfl, rfl⟩
    go_wp2_with (at_builtin; refine wpList_append_run rfl (.tmp 60) (.tmp 62) rfl (.slice x0 n0 c0) (.slice (some ⟨w1.heap.size, 0, none⟩) 1 1) rfl rfl (.slice x n cap) w6 b2 ?_)
    go_ret3
    exact ⟨rfl, B7.out⟩
set_option maxHeartbeats 1000000 in
theorem rmeet_not (h : RA w O p L r) (hl : L.length ≤ 900) (a : Int) (rv : Bool) (h0 : 0 ≤ a) (h1 : a < 64) (ha : a ∉ L) (hr : L = [] ∨ (r == rv) = true) :
    Calls Try.prog 21 #[.pointer (some ⟨p, 0, none⟩), .int .i64 a, .bool false, .bool rv] w fun e w' => e = .returned (.tuple #[.int .i64 0, .bool false, .int .i64 0]) ∧ w' = w := by
  have HC := hideIt (rat_is h (by omega) a (-1) (by unfold M.ix; rw [if_neg ha]))
  have h2 : ¬ 63 < a := by omega
  have h3 : ¬ a < 0 := by omega
  obtain ⟨n0, hn0⟩ : ∃ n0, L.length = n0 := ⟨_, rfl⟩
  obtain ⟨x0, c0, d0, _, _, _, d1⟩ := h.see
  rw [hn0] at d0
  have hr2 : n0 = 0 ∨ (r == rv) = true := by
    rcases hr with e | e
    · exact .inl (by rw [← hn0, e]; rfl)
    · exact .inr e
  clear h ha h0 h1 hr hn0 hl
  by_cases n00 : n0 = 0
  · subst n00
    clear hr2
    go_enter Try.func21, Try.ntmps21
    go_wp2_with fail
    refine HC.out.mono ?_
    rintro e w1 ⟨rfl, rfl⟩
    go_wp2
    go_ret3
    exact ⟨rfl, rfl⟩
  · have hr3 : (r == rv) = true := hr2.resolve_left n00
    have n01 : 0 < n0 := by omega
    clear hr2
    go_enter Try.func21, Try.ntmps21
    go_wp2_with fail
    refine HC.out.mono ?_
    rintro e w1 ⟨rfl, rfl⟩
    go_wp2
    go_ret3
    exact ⟨rfl, rfl⟩
/-- One that comes, whatever becomes of it: t its own side, o the side that it meets. -/
theorem rmeet_is (h : RB w O p k L) (hl : L.length ≤ 900) (a : Int) (wt rv : Bool) (t o : Int) (ht : (if rv then 2 else 1) = t) (ho : (if rv then 1 else 2) = o) (x : Int) (b : Bool) (f : Int) (hx : M.ex k L o a = x) (hb : M.eb k L o a = b) (hf : M.pe L a = f) :
    Calls Try.prog 21 #[.pointer (some ⟨p, 0, none⟩), .int .i64 a, .bool wt, .bool rv] w fun e w' => e = .returned (.tuple #[.int .i64 x, .bool b, .int .i64 f]) ∧ RB w' (wide O w w') p (M.ek k L t o a wt) (M.el k L o a wt) ∧ Fr O w w' := by
  have hK := h
  obtain ⟨r, hr, rfl⟩ := h.ex
  subst hx hb
  unfold M.ex M.eb M.ek M.el
  by_cases f0 : f = 0
  · subst f0
    obtain ⟨p0, p1, p2⟩ := M.pe_ok hf
    simp only [hf, true_and, if_true]
    by_cases hk : M.kd L r = o
    · simp only [hk, if_true, decide_true]
      cases L with
      | nil =>
        exfalso
        unfold M.kd at hk
        rw [if_pos rfl] at hk
        rw [← ho] at hk
        cases rv <;> cases hk
      | cons y L =>
        have hrr : (r == rv) = false := by
          unfold M.kd at hk
          rw [if_neg (by simp), ← ho] at hk
          cases r <;> cases rv <;> first | rfl | (exact absurd hk (by decide))
        refine (rmeet_meet hr hl a wt rv p0 p1 p2 hrr).mono ?_
        rintro e w1 ⟨rfl, Z, F⟩
        refine ⟨rfl, ⟨⟨r, Z, ?_⟩⟩, F⟩
        rw [← hk]
        unfold M.kd
        simp only [List.tail_cons]
        rw [if_neg (show ¬ y :: L = [] by simp)]
    · simp only [hk, if_false, decide_false]
      have hrr : L = [] ∨ (r == rv) = true := by
        unfold M.kd at hk
        by_cases e : L = []
        · exact .inl e
        · rw [if_neg e, ← ho] at hk
          refine .inr ?_
          cases r <;> cases rv <;> first | rfl | (exact absurd rfl hk)
      cases wt
      · refine (rmeet_not hr hl a rv p0 p1 p2 hrr).mono ?_
        rintro e w1 ⟨rfl, rfl⟩
        exact ⟨rfl, hK.wider _ _, Fr.refl _ _⟩
      · refine (rmeet_wait hr hl a rv p0 p1 p2 hrr).mono ?_
        rintro e w1 ⟨rfl, Z, F⟩
        refine ⟨rfl, ⟨⟨rv, Z, ?_⟩⟩, F⟩
        unfold M.kd
        rw [if_neg (by simp), ht]
        rfl
  · have hf0 : ¬ M.pe L a = 0 := by rw [hf]; exact f0
    simp only [hf0, false_and, if_false, decide_false]
    unfold M.pe at hf
    by_cases h1 : 0 ≤ a ∧ a < 64
    · rw [if_pos h1] at hf
      by_cases h2 : a ∈ L
      · rw [if_pos h2] at hf
        subst hf
        refine (rmeet_no4 hr hl a wt rv h1.1 h1.2 h2).mono ?_
        rintro e w1 ⟨rfl, rfl⟩
        exact ⟨rfl, hK.wider _ _, Fr.refl _ _⟩
      · rw [if_neg h2] at hf
        exact absurd hf.symm f0
    · rw [if_neg h1] at hf
      subst hf
      refine (rmeet_no1 w p a wt rv h1).mono ?_
      rintro e w1 ⟨rfl, rfl⟩
      exact ⟨rfl, hK.wider _ _, Fr.refl _ _⟩
set_option maxHeartbeats 400000 in
theorem rsend_is (h : RB w O p k L) (hl : L.length ≤ 900) (a : Int) (wt : Bool) (x : Int) (b : Bool) (f : Int) (hx : M.ex k L 2 a = x) (hb : M.eb k L 2 a = b) (hf : M.pe L a = f) :
    Calls Try.prog 8 #[.pointer (some ⟨p, 0, none⟩), .int .i64 a, .bool wt] w fun e w' => e = .returned (.tuple #[.int .i64 x, .bool b, .int .i64 f]) ∧ RB w' (wide O w w') p (M.ek k L 1 2 a wt) (M.el k L 2 a wt) ∧ Fr O w w' := by
  have HC := hideIt (rmeet_is h hl a wt false 1 2 rfl rfl x b f hx hb hf)
  clear h hx hb hf
  go_enter Try.func8, Try.ntmps8
  go_wp2_with fail
  refine HC.out.mono ?_
  rintro e w1 ⟨rfl, Z⟩
  have Z := hideIt Z
  go_wp2
  go_ret3
  exact ⟨rfl, Z.out⟩
set_option maxHeartbeats 400000 in
theorem rrecv_is (h : RB w O p k L) (hl : L.length ≤ 900) (a : Int) (wt : Bool) (x : Int) (b : Bool) (f : Int) (hx : M.ex k L 1 a = x) (hb : M.eb k L 1 a = b) (hf : M.pe L a = f) :
    Calls Try.prog 10 #[.pointer (some ⟨p, 0, none⟩), .int .i64 a, .bool wt] w fun e w' => e = .returned (.tuple #[.int .i64 x, .bool b, .int .i64 f]) ∧ RB w' (wide O w w') p (M.ek k L 2 1 a wt) (M.el k L 1 a wt) ∧ Fr O w w' := by
  have HC := hideIt (rmeet_is h hl a wt true 2 1 rfl rfl x b f hx hb hf)
  clear h hx hb hf
  go_enter Try.func10, Try.ntmps10
  go_wp2_with fail
  refine HC.out.mono ?_
  rintro e w1 ⟨rfl, Z⟩
  have Z := hideIt Z
  go_wp2
  go_ret3
  exact ⟨rfl, Z.out⟩

/-! ### Clear, State -/
set_option maxHeartbeats 400000 in
theorem rclear_is (h : RB w O p k L) :
    Calls Try.prog 15 #[.pointer (some ⟨p, 0, none⟩)] w fun e w' => ∃ v', e = .returned v' ∧ IL w' 0 v' L ∧ RB w' (wide O w w') p 0 [] ∧ Fr O w w' := by
  obtain ⟨r, hr, _⟩ := h.ex
  obtain ⟨v, c1, l1, o1⟩ := hr.a.ex
  obtain ⟨S1, S2⟩ := hr.store (w' := w) (v' := .slice none 0 0) (L' := []) (Fr.refl _ _) (Ls.nil _ _ _ _ _) (fun k hk => by cases hk)
  have f1 := hr.a.fz 0
  have S := hideIt (And.intro S1 S2)
  have l2 : Hid (IL (w.setCell ⟨p, 0, none⟩ (.slice none 0 0)) 0 v L) := hideIt (l1.keep (gbSetCell w p 0 _) (fun k hk e => (o1 k hk).2 (by cases e; rfl)))
  clear h hr S1 S2 l1 o1
  go_enter Try.func15, Try.ntmps15
  go_wp2
  go_ret
  exact ⟨v, rfl, l2.out, ⟨⟨r, S.out.1, rfl⟩⟩, S.out.2⟩
set_option maxHeartbeats 400000 in
theorem rstate_is (h : RB w O p k L) (hl : L.length ≤ 900) :
    Calls Try.prog 17 #[.pointer (some ⟨p, 0, none⟩)] w fun e w' => ∃ v', e = .returned (.tuple #[.int .i64 k, v']) ∧ IL w' 0 v' L ∧ w.grownBy w' none := by
  obtain ⟨r, hr, hk⟩ := h.ex
  obtain ⟨x, c, c1, _, _, l1, d1⟩ := hr.see
  have l1 := hideIt l1
  obtain ⟨n, hn⟩ : ∃ n, L.length = n := ⟨_, rfl⟩
  rw [hn] at c1 l1
  unfold M.kd at hk
  clear h hr
  by_cases h0 : n = 0
  · subst h0
    obtain rfl : L = [] := List.eq_nil_of_length_eq_zero hn
    rw [if_pos rfl] at hk
    subst hk
    clear hn
    go_enter Try.func17, Try.ntmps17
    go_wp2
    go_ret2
    exact ⟨_, rfl, Ls.nil _ _ _ _ _, gbRefl _ _⟩
  · have h0' : ((n : Int) == 0) = false := by simp; omega
    rw [if_neg (fun e => h0 (by rw [← hn, e]; rfl))] at hk
    cases r
    all_goals
      simp only [if_true, if_false, Bool.false_eq_true] at hk
      subst hk
      clear hn
      go_enter Try.func17, Try.ntmps17
      go_wp2
      go_region
      go_wp2
      go_ret2
      exact ⟨_, rfl, l1.out.kept (gbDrewN _ 1 none), gbDrewN _ 1 none⟩
end
end Go.Proofs.Ytenljiciiocagaa
