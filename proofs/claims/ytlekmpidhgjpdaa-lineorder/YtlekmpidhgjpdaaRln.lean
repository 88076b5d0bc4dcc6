/-
  THE CONTRACTS of the document's Line: Push, Pop, Remove.
-/
import Derived.Test.YtlekmpidhgjpdaaLin
namespace Go.Proofs.Ytlekmpidhgjpdaa
set_option maxRecDepth 10000
open Go.RowKit
set_option linter.unusedVariables false

/-! ### Push -/
set_option maxHeartbeats 400000 in
theorem rpush_no1 (w : World) (p : Nat) (a : Int) (h : ¬ (0 ≤ a ∧ a < 64)) :
    Calls Try.prog 10 #[.pointer (some ⟨p, 0, none⟩), .int .i64 a] w fun e w' => e = .returned (.int .i64 1) ∧ w' = w := by
  by_cases h0 : a < 0
  · clear h
    go_enter Try.func10, Try.ntmps10
    go_wp2
    go_ret
    exact ⟨rfl, rfl⟩
  · have h1 : 63 < a := by omega
    clear h
    go_enter Try.func10, Try.ntmps10
    go_wp2
    go_ret
    exact ⟨rfl, rfl⟩
set_option maxHeartbeats 400000 in
theorem rpush_no4 {w : World} {O : Nat → Prop} {p : Nat} {L : List Int} (h : LA w O p L) (hl : L.length ≤ 1000) (a : Int) (h0 : 0 ≤ a) (h1 : a < 64) (ha : a ∈ L) :
    Calls Try.prog 10 #[.pointer (some ⟨p, 0, none⟩), .int .i64 a] w fun e w' => e = .returned (.int .i64 4) ∧ w' = w := by
  obtain ⟨v, c1, l1, _⟩ := h.ex
  obtain ⟨r, hr⟩ : ∃ r, M.ix L a = r := ⟨_, rfl⟩
  have hr0 : 0 ≤ r := by rw [← hr]; unfold M.ix; rw [if_pos ha]; omega
  have HC := hideIt (at_is l1 hl a r hr)
  have h2 : ¬ 63 < a := by omega
  have h3 : ¬ a < 0 := by omega
  clear h ha l1 hr h0 h1
  go_enter Try.func10, Try.ntmps10
  go_wp2_with fail
  refine HC.out.mono ?_
  rintro e w1 ⟨rfl, rfl⟩
  go_wp2
  go_ret
  exact ⟨rfl, rfl⟩
set_option maxHeartbeats 400000 in
theorem rpush_yes {w : World} {O : Nat → Prop} {p : Nat} {L : List Int} (h : LA w O p L) (hl : L.length ≤ 999) (a : Int) (h0 : 0 ≤ a) (h1 : a < 64) (ha : a ∉ L) :
    Calls Try.prog 10 #[.pointer (some ⟨p, 0, none⟩), .int .i64 a] w fun e w' => e = .returned (.int .i64 0) ∧ LA w' (wide O w w') p (L ++ [a]) ∧ Fr O w w' := by
  have hp := h.lt
  have hq1 : ¬ p = w.heap.size := by omega
  have hq2 : ¬ w.heap.size = p := by omega
  obtain ⟨n0, hn0⟩ : ∃ n0, L.length = n0 := ⟨_, rfl⟩
  obtain ⟨x0, c0, x, n, cap, w6, b1, b2, b3, b4, b5⟩ := HA.push h n0 hn0 run_append_i (gbAlloc w (.cells #[.int .i64 a] 3) none) ⟨w.heap.size, 0, none⟩ 1 a (rowI w a) (by omega)
  have HC : Hid (Calls Try.prog 31 #[.slice x0 n0 c0, .int .i64 a] w fun e w' => e = .returned (.int .i64 (-1)) ∧ w' = w) := by
    obtain ⟨v, c1, l1, _⟩ := h.ex
    rw [b1] at c1
    cases c1
    exact hideIt (at_is l1 (by omega) a (-1) (by unfold M.ix; rw [if_neg ha]))
  have h2 : ¬ 63 < a := by omega
  have h3 : ¬ a < 0 := by omega
  clear h ha hn0 hl h0 h1
  go_enter Try.func10, Try.ntmps10
  go_wp2_with fail
  refine HC.out.mono ?_
  rintro e w1 ⟨rfl, rfl⟩
  go_wp2_with (at_builtin; refine wpList_append_run rfl (.tmp 24) (.tmp 26) rfl (.slice x0 n0 c0) (.slice (some ⟨w1.heap.size, 0, none⟩) 1 1) rfl rfl (.slice x n cap) w6 b2 ?_)
  go_ret
  exact ⟨rfl, b5.out⟩
theorem rpush_is {w : World} {O : Nat → Prop} {p : Nat} {L : List Int} (h : LA w O p L) (hl : L.length ≤ 999) (a f : Int) (hf : M.pe L a = f) :
    Calls Try.prog 10 #[.pointer (some ⟨p, 0, none⟩), .int .i64 a] w fun e w' => e = .returned (.int .i64 f) ∧ LA w' (wide O w w') p (M.pl L a) ∧ Fr O w w' := by
  subst hf
  unfold M.pe M.pl
  by_cases h1 : 0 ≤ a ∧ a < 64
  · rw [if_pos h1]
    by_cases h2 : a ∈ L
    · rw [if_pos h2, if_neg (fun e => e.2.2 h2)]
      refine (rpush_no4 h (by omega) a h1.1 h1.2 h2).mono ?_
      rintro e w1 ⟨rfl, rfl⟩
      exact ⟨rfl, h.wider _ _, Fr.refl _ _⟩
    · rw [if_neg h2, if_pos ⟨h1.1, h1.2, h2⟩]
      exact rpush_yes h hl a h1.1 h1.2 h2
  · rw [if_neg h1, if_neg (fun e => h1 ⟨e.1, e.2.1⟩)]
    refine (rpush_no1 w p a h1).mono ?_
    rintro e w1 ⟨rfl, rfl⟩
    exact ⟨rfl, h.wider _ _, Fr.refl _ _⟩

/-! ### What is laid into a new list, out of a part of another one -/
section
variable {α : Type} {e : α → List Value} {tk : TypeId} {s : Nat} {w : World} {O : Nat → Prop} {p : Nat} {L L' : List α} {v' : Value} {W : World}
/-- All that was made is new: the store of it. -/
theorem HA.storeNew (h : HA e tk s w O p L) (G : w.grownBy W none) (l : Ls e tk s W w.heap.size v' L') :
    W.cell? ⟨p, 0, none⟩ = w.cell? ⟨p, 0, none⟩ ∧ W.frozen? ⟨p, 0, none⟩ = false ∧ HA e tk s (W.setCell ⟨p, 0, none⟩ v') (wide O w (W.setCell ⟨p, 0, none⟩ v')) p L' ∧ Fr O w (W.setCell ⟨p, 0, none⟩ v') := by
  obtain ⟨v, h1, _⟩ := h.ex
  refine ⟨(G.cell h1 (by simp)).trans h1.symm, (gbFrozen G h.lt (by simp)).trans (h.fz 0), h.store (Fr.grown G) l.low (fun k hk => ?_)⟩
  have h2 := (l.lt k hk).1
  have := h.lt
  exact ⟨.inr h2, by omega⟩
end

/-! ### Pop -/
set_option maxHeartbeats 400000 in
theorem rpop_no {w : World} {O : Nat → Prop} {p : Nat} (h : LA w O p []) :
    Calls Try.prog 12 #[.pointer (some ⟨p, 0, none⟩)] w fun e w' => e = .returned (.tuple #[.int .i64 0, .bool false]) ∧ w' = w := by
  obtain ⟨x, c, c1, _⟩ := h.see
  clear h
  go_enter Try.func12, Try.ntmps12
  go_wp2
  go_ret2
  exact ⟨rfl, rfl⟩
set_option maxHeartbeats 800000 in
theorem rpop_yes {w : World} {O : Nat → Prop} {p : Nat} {a : Int} {L : List Int} (h : LA w O p (a :: L)) (hl : (a :: L).length ≤ 1000) :
    Calls Try.prog 12 #[.pointer (some ⟨p, 0, none⟩)] w fun e w' => e = .returned (.tuple #[.int .i64 a, .bool true]) ∧ LA w' (wide O w w') p L ∧ Fr O w w' := by
  obtain ⟨v, c1, l1, _⟩ := h.ex
  obtain ⟨g, cap, rfl, hc, _, _, hc2⟩ := l1.has (n := L.length + 1) rfl (by omega)
  have e0 := IL.at l1 rfl 0 a rfl
  have hp := h.lt
  have hq1 : ¬ p = w.heap.size := by omega
  have hq2 : ¬ w.heap.size = p := by omega
  obtain ⟨n, hn⟩ : ∃ n, L.length + 1 = n := ⟨_, rfl⟩
  have hrun : ∀ ad c, (1 < cap → ad = (⟨g, 1, none⟩ : Addr)) → ∃ v' w', (Builtin.append_ #[26, 26] 26 #[.slice (some ⟨w.heap.size, 0, none⟩) 0 0, .slice (some ad) (n - 1) c]).run Try.prog (w.alloc (.cells #[] 3)) = .ok v' w' ∧ IL w' w.heap.size v' L ∧ w.grownBy w' none := by
    intro ad c had
    obtain ⟨v', w', h1, h2, h3, _⟩ := run_append_i (w.alloc (.cells #[] 3)) w.heap.size (.slice (some ⟨w.heap.size, 0, none⟩) 0 0) [] (Ls.empty eI 3 1 w) 26 (some ad) (n - 1) c L (by omega) (by simp) (by
      rintro ad' ⟨⟩ j u hu
      have hlt : 0 < L.length := by
        have := (List.getElem?_eq_some_iff.1 hu).1
        rw [cl_len encI] at this
        omega
      obtain rfl := had (by omega)
      have := (l1.kept (gbAlloc w (.cells #[] 3) none)).row encI rfl 1 L (fun j => .inr (by rw [Nat.add_comm, List.getElem?_cons_succ])) j u hu
      simpa using this) (by simp at hl ⊢; omega) (by simp)
    exact ⟨v', w', h1, h2, gbNew (gbTrans (gbAny (gbAlloc _ _ _) _) h3) (Nat.le_refl _)⟩
  rw [hn] at c1 hc
  have hn0 : 0 < n := by omega
  have h1n : 1 ≤ n := by omega
  have h1n' : (1 : Int) ≤ (n : Int) := by omega
  have h1c : 1 ≤ cap := by omega
  have hn0' : ((n : Int) == 0) = false := by simp; omega
  clear l1 hn hl
  by_cases hc1 : 1 < cap
  · obtain ⟨v', w', hr, l2, g2⟩ := hrun ⟨g, 1, none⟩ (cap - 1) (fun _ => rfl)
    obtain ⟨b1, b2, b3⟩ := h.storeNew g2 l2
    rw [c1] at b1
    have b3 := hideIt b3
    obtain ⟨x', c', rfl, _⟩ := l2.arr
    have hc3 : ¬ cap = 1 := by omega
    clear hrun l2 h
    go_enter Try.func12, Try.ntmps12
    go_wp2_with (at_builtin; refine wpList_append_run rfl (.tmp 18) (.tmp 23) rfl (.slice (some ⟨w.heap.size, 0, none⟩) 0 0) (.slice (some ⟨g, 1, none⟩) (n - 1) (cap - 1)) rfl (by simp [Act.eval]) _ w' hr ?_)
    go_ret2
    exact ⟨rfl, b3.out⟩
  · obtain rfl : cap = 1 := by omega
    obtain ⟨v', w', hr, l2, g2⟩ := hrun ⟨g, 0, none⟩ (1 - 1) (fun h => absurd h (by decide))
    obtain ⟨b1, b2, b3⟩ := h.storeNew g2 l2
    rw [c1] at b1
    have b3 := hideIt b3
    obtain ⟨x', c', rfl, _⟩ := l2.arr
    clear hrun l2 h
    go_enter Try.func12, Try.ntmps12
    go_wp2_with (at_builtin; refine wpList_append_run rfl (.tmp 18) (.tmp 23) rfl (.slice (some ⟨w.heap.size, 0, none⟩) 0 0) (.slice (some ⟨g, 0, none⟩) (n - 1) (1 - 1)) rfl (by simp [Act.eval]; omega) _ w' hr ?_)
    go_ret2
    exact ⟨rfl, b3.out⟩
theorem rpop_is {w : World} {O : Nat → Prop} {p : Nat} {L : List Int} (h : LA w O p L) (hl : L.length ≤ 1000) (a : Int) (b : Bool) (ha : M.hd L = a) (hb : M.hb L = b) :
    Calls Try.prog 12 #[.pointer (some ⟨p, 0, none⟩)] w fun e w' => e = .returned (.tuple #[.int .i64 a, .bool b]) ∧ LA w' (wide O w w') p L.tail ∧ Fr O w w' := by
  subst ha hb
  cases L with
  | nil =>
    refine (rpop_no h).mono ?_
    rintro e w1 ⟨rfl, rfl⟩
    exact ⟨rfl, h.wider _ _, Fr.refl _ _⟩
  | cons x L => exact rpop_yes h hl

/-! ### Remove -/
set_option maxHeartbeats 400000 in
theorem rremove_no {w : World} {O : Nat → Prop} {p : Nat} {L : List Int} (h : LA w O p L) (hl : L.length ≤ 1000) (a : Int) (ha : a ∉ L) :
    Calls Try.prog 14 #[.pointer (some ⟨p, 0, none⟩), .int .i64 a] w fun e w' => e = .returned (.bool false) ∧ w' = w := by
  obtain ⟨v, c1, l1, _⟩ := h.ex
  have HC := hideIt (at_is l1 hl a (-1) (by unfold M.ix; rw [if_neg ha]))
  clear h ha l1
  go_enter Try.func14, Try.ntmps14
  go_wp2_with fail
  refine HC.out.mono ?_
  rintro e w1 ⟨rfl, rfl⟩
  go_wp2
  go_ret
  exact ⟨rfl, rfl⟩
/-- A new list out of the front of another one and of its end: two runs of append. -/
theorem twoRuns {w : World} {B g n cap i x : Nat} {L : List Int} (h : IL w B (.slice (some ⟨g, 0, none⟩) n cap) L) (hn : L.length = n) (hn2 : n ≤ 1000) (hi : i < n) (hx : x = i + 1) (hc : n ≤ cap) (ad : Addr) (c1 c2 : Nat) (had : x < cap → ad = (⟨g, x, none⟩ : Addr)) :
    ∃ x1 m1 d1 w1 x2 m2 d2 w2, (Builtin.append_ #[26, 26] 26 #[.slice (some ⟨w.heap.size, 0, none⟩) 0 0, .slice (some ⟨g, 0, none⟩) i c1]).run Try.prog (w.alloc (.cells #[] 3)).drew = .ok (.slice x1 m1 d1) w1 ∧
      (Builtin.append_ #[26, 26] 26 #[.slice x1 m1 d1, .slice (some ad) (n - x) c2]).run Try.prog w1 = .ok (.slice x2 m2 d2) w2 ∧ w.grownBy w1 none ∧ IL w2 w.heap.size (.slice x2 m2 d2) (L.eraseIdx i) ∧ w.grownBy w2 none := by
  have G : w.grownBy (w.alloc (.cells #[] 3)).drew none := gbDrew (gbAlloc w (.cells #[] 3) none)
  have hE : IL (w.alloc (.cells #[] 3)).drew w.heap.size (.slice (some ⟨w.heap.size, 0, none⟩) 0 0) [] := Ls.kept (Ls.empty eI 3 1 w) (gbDrewN _ 1 none)
  obtain ⟨v1, w1, r1, l1, g1, _⟩ := run_append_i (w.alloc (.cells #[] 3)).drew w.heap.size (.slice (some ⟨w.heap.size, 0, none⟩) 0 0) [] hE 26 (some ⟨g, 0, none⟩) i c1 (L.take i) (by rw [List.length_take]; omega) (by simp) (by
    rintro ad' ⟨⟩ j u hu
    have := (h.kept G).row encI hn 0 (L.take i) (fun j => by
      rw [List.getElem?_take, Nat.zero_add]
      split
      · exact .inr rfl
      · exact .inl rfl) j u hu
    simpa using this) (by simp; omega) (by simp)
  have G1 : w.grownBy w1 none := gbNews (gbTrans (gbAny G _) g1) (fun k hk => by cases hk; exact Nat.le_refl _)
  obtain ⟨x1, d1, rfl, _⟩ := l1.arr
  obtain ⟨v2, w2, r2, l2, g2, _⟩ := run_append_i w1 w.heap.size _ ([] ++ L.take i) l1 26 (some ad) (n - x) c2 (L.drop x) (by rw [List.length_drop, hn]) (by simp) (by
    rintro ad' ⟨⟩ j u hu
    have hlt : 0 < (L.drop x).length := by
      have := (List.getElem?_eq_some_iff.1 hu).1
      rw [cl_len encI] at this
      omega
    rw [List.length_drop] at hlt
    obtain rfl := had (by omega)
    have := (h.kept G1).row encI hn x (L.drop x) (fun j => .inr (by rw [List.getElem?_drop])) j u hu
    simpa using this) (by simp; omega) G1.size
  have G2 : w.grownBy w2 none := gbNews (gbTrans (gbAny G1 _) g2) (fun k hk => (l1.lt k hk).1)
  obtain ⟨x2, d2, rfl, _⟩ := l2.arr
  refine ⟨x1, _, d1, w1, x2, _, d2, w2, r1, r2, G1, ?_, G2⟩
  have e : [] ++ L.take i ++ L.drop x = L.eraseIdx i := by rw [List.nil_append, hx, del_list]
  rw [e] at l2 ⊢
  exact l2
set_option maxHeartbeats 2000000 in
theorem rremove_yes {w : World} {O : Nat → Prop} {p : Nat} {L : List Int} (h : LA w O p L) (hl : L.length ≤ 1000) (a : Int) (ha : a ∈ L) :
    Calls Try.prog 14 #[.pointer (some ⟨p, 0, none⟩), .int .i64 a] w fun e w' => e = .returned (.bool true) ∧ LA w' (wide O w w') p (L.eraseIdx (L.idxOf a)) ∧ Fr O w w' := by
  have hi := List.idxOf_lt_length_iff.2 ha
  obtain ⟨v, c1, l1, _⟩ := h.ex
  obtain ⟨n, hn⟩ : ∃ n, L.length = n := ⟨_, rfl⟩
  rw [hn] at hi hl
  obtain ⟨g, cap, rfl, hc, _, _, hc2⟩ := l1.has hn (by omega)
  have HC := hideIt (at_is l1 (by omega) a (L.idxOf a) (by unfold M.ix; rw [if_pos ha]))
  obtain ⟨i, hi0⟩ : ∃ i, L.idxOf a = i := ⟨_, rfl⟩
  rw [hi0] at HC hi ⊢
  obtain ⟨x, hx⟩ : ∃ x : Nat, Hid (x = i + 1) := ⟨_, hideIt rfl⟩
  have hp := h.lt
  have hq1 : ¬ p = w.heap.size := by omega
  have hq2 : ¬ w.heap.size = p := by omega
  have hR := fun ad c1 c2 had => twoRuns l1 hn hl hi hx.out hc ad c1 c2 had
  have hxe : (i : Int) + 1 = (x : Int) := by rw [hx.out]; omega
  have hxw : IntKind.i64.wrap (x : Int) = (x : Int) := wI rfl (by have := hx.out; omega)
  have h1 : (x : Int) ≤ (n : Int) := by have := hx.out; omega
  have h2 : (i : Int) ≤ (cap : Int) := by omega
  have h3 : (i : Int) ≤ (n : Int) := by omega
  have h4 : (x : Int) ≤ (cap : Int) := by omega
  have h5 : (n : Int) ≤ (cap : Int) := by omega
  have hxn : x ≤ n := by omega
  have hix : i ≤ cap := by omega
  have hi2 : ¬ (i : Int) < 0 := by omega
  clear l1 hn ha hi0
  by_cases hxc : x < cap
  · obtain ⟨x1, m1, d1, w1, x2, m2, d2, w2, r1, r2, G1, l2, G2⟩ := hR ⟨g, x, none⟩ cap (cap - x) (fun _ => rfl)
    obtain ⟨b1, b2, b3⟩ := h.storeNew G2 l2
    rw [c1] at b1
    have b3 := hideIt b3
    have hc3 : ¬ cap = x := by omega
    have q1 := G1.cell c1 (by simp)
    clear hR l2 h
    go_enter Try.func14, Try.ntmps14
    go_wp2_with fail
    refine HC.out.mono ?_
    rintro e w3 ⟨rfl, rfl⟩
    go_wp2
    go_region_law (first | (refine step_append_run rfl (.tmp 22) (.tmp 29) rfl (.slice x1 m1 d1) (.slice (some ⟨g, x, none⟩) (n - x) (cap - x)) (by simp [Act.eval, Act.put]) (by simp [Act.eval, Act.put]; done) (.slice x2 m2 d2) w2 r2 ?_) | (refine step_append_run rfl (.tmp 15) (.tmp 21) rfl (.slice (some ⟨w3.heap.size, 0, none⟩) 0 0) (.slice (some ⟨g, 0, none⟩) i cap) (by simp [Act.eval, Act.put]) (by simp [Act.eval, Act.put]) (.slice x1 m1 d1) w1 r1 ?_))
    all_goals (go_wp2; go_ret; exact ⟨rfl, b3.out⟩)
  · obtain rfl : x = cap := by omega
    obtain ⟨x1, m1, d1, w1, x2, m2, d2, w2, r1, r2, G1, l2, G2⟩ := hR ⟨g, 0, none⟩ x (x - x) (fun h => absurd h (Nat.lt_irrefl _))
    obtain ⟨b1, b2, b3⟩ := h.storeNew G2 l2
    rw [c1] at b1
    have b3 := hideIt b3
    have q1 := G1.cell c1 (by simp)
    clear hR l2 h
    go_enter Try.func14, Try.ntmps14
    go_wp2_with fail
    refine HC.out.mono ?_
    rintro e w3 ⟨rfl, rfl⟩
    go_wp2
    go_region_law (first | (refine step_append_run rfl (.tmp 22) (.tmp 29) rfl (.slice x1 m1 d1) (.slice (some ⟨g, 0, none⟩) (n - x) (x - x)) (by simp [Act.eval, Act.put]) (by simp [Act.eval, Act.put]; omega) (.slice x2 m2 d2) w2 r2 ?_) | (refine step_append_run rfl (.tmp 15) (.tmp 21) rfl (.slice (some ⟨w3.heap.size, 0, none⟩) 0 0) (.slice (some ⟨g, 0, none⟩) i x) (by simp [Act.eval, Act.put]) (by simp [Act.eval, Act.put]) (.slice x1 m1 d1) w1 r1 ?_))
    all_goals (go_wp2; go_ret; exact ⟨rfl, b3.out⟩)
theorem rremove_is {w : World} {O : Nat → Prop} {p : Nat} {L : List Int} (h : LA w O p L) (hl : L.length ≤ 1000) (hd : L.Nodup) (a : Int) (b : Bool) (hb : L.contains a = b) :
    Calls Try.prog 14 #[.pointer (some ⟨p, 0, none⟩), .int .i64 a] w fun e w' => e = .returned (.bool b) ∧ LA w' (wide O w w') p (M.wo L a) ∧ Fr O w w' := by
  subst hb
  by_cases ha : a ∈ L
  · refine (rremove_yes h hl a ha).mono ?_
    rintro e w1 ⟨rfl, q⟩
    rw [M.wo_erase hd] at q
    exact ⟨by simp [ha], q⟩
  · refine (rremove_no h hl a ha).mono ?_
    rintro e w1 ⟨rfl, rfl⟩
    exact ⟨by simp [ha], by rw [M.wo_not ha]; exact h.wider _ _, Fr.refl _ _⟩
end Go.Proofs.Ytlekmpidhgjpdaa
