/-
  THE DOCUMENT'S SIDE (donjonref07): Drop.
-/
import Derived.Test.YtdnoidnpiaadaaaGreatG9
import Derived.Deep.RegionLaw
namespace Go.Proofs.YtdnoidnpiaadaaaGreat
open Go.RowKit
set_option linter.unusedVariables false
set_option maxRecDepth 10000
variable {u : Value}

set_option maxHeartbeats 400000 in
theorem rdrop_no (w : World) (p : Nat) (id : Int) (HA : Calls Tryz.prog 57 #[.pointer (some ⟨p, 0, none⟩), .int .i64 id] w fun e w' => e = .returned (.int .i64 (-1)) ∧ w' = w) :
    Calls Tryz.prog 32 #[.pointer (some ⟨p, 0, none⟩), .int .i64 id] w fun e w' => e = .returned (.int .i64 3) ∧ w' = w := by
  go_enter Tryz.func32, Tryz.ntmps32
  go_wp2_with fail
  refine HA.mono ?_
  rintro _ w1 ⟨rfl, rfl⟩
  go_wp2
  go_ret
  exact ⟨rfl, rfl⟩

set_option maxHeartbeats 1000000 in
theorem rdrop_state (w : World) (p g n cap j h q a : Nat) (id : Int) (f : Nat → Int) (hj : (j : Int) < (n : Int)) (hq16 : q ≤ 16) (haq : a < q) (HF : Hid (f a ≠ 0)) (hc : w.cell? ⟨p, 0, none⟩ = some (.slice (some ⟨g, 0, none⟩) n cap)) (hl : w.cell? ⟨g, j * 3 + 2, none⟩ = some (.slice (some ⟨h, 0, none⟩) q q)) (HZ : Hid (∀ i, i < q → w.cell? ⟨h, i * 6, none⟩ = some (.int .i64 (f i))))
    (HA : Calls Tryz.prog 57 #[.pointer (some ⟨p, 0, none⟩), .int .i64 id] w fun e w' => e = .returned (.int .i64 j) ∧ w' = w) :
    Calls Tryz.prog 32 #[.pointer (some ⟨p, 0, none⟩), .int .i64 id] w fun e w' => e = .returned (.int .i64 8) ∧ w' = w := by
  go_enter Tryz.func32, Tryz.ntmps32
  go_wp2_with fail
  refine HA.mono ?_
  rintro _ w1 ⟨rfl, rfl⟩
  clear HA
  go_wp2
  go_loopg [6] a (fun y i wr => ∃ c : Nat, c + y = a ∧ i = .int .i64 c ∧ wr = w1)
  case atStart => exact ⟨0, by omega, rfl, rfl⟩
  case round =>
    obtain ⟨c, hca, rfl, rfl⟩ := hrel
    have hcq : (c : Int) < (q : Int) := by omega
    have z := HZ.out c (by omega)
    by_cases hk : f c = 0
    · have hne : c ≠ a := fun e => HF.out (by rw [← e]; exact hk)
      rw [hk] at z
      clear hk
      go_wp2
      go_roundg (gk - 1)
      case rel => exact ⟨c + 1, by omega, by go_num, rfl⟩
      case measure => omega
    · obtain ⟨k, hfk⟩ : ∃ k, f c = k := ⟨_, rfl⟩
      rw [hfk] at z hk
      have hk2 : (k != 0) = true := by simpa using hk
      clear hfk hk
      go_wp2
      go_ret
      exact ⟨rfl, rfl⟩

theorem formAny {w : World} {B : Nat} {v : Value} {l : List RE} (h : Lst3 w B v l) : ∃ x n cap, v = .slice x n cap := by
  rcases h.form with ⟨rfl, _⟩ | ⟨g, cap, rfl, _⟩
  · exact ⟨_, _, _, rfl⟩
  · exact ⟨_, _, _, rfl⟩
/-- A node was taken out of the list. -/
structure Out3 (w w' : World) (p : Nat) (l : List RE) (j : Nat) (v3 : Value) (W3 : World) : Prop where
  ls : Lst3 W3 w.heap.size v3 (l.take j ++ l.drop (j + 1))
  gr : w.grownBy W3 none
  set : w' = W3.setCell ⟨p, 0, none⟩ v3

set_option maxRecDepth 10000 in
set_option maxHeartbeats 2000000 in
theorem rdrop_yes {w : World} {p g n cap j h q : Nat} {l : List RE} {S : St} (H : Hid (RA u w p (.slice (some ⟨g, 0, none⟩) n cap) l S)) (hn : Hid (l.length = n)) (hn64 : n ≤ 64) (id : Int) (hj : (j : Int) < (n : Int)) (hq16 : q ≤ 16) (hl : w.cell? ⟨g, j * 3 + 2, none⟩ = some (.slice (some ⟨h, 0, none⟩) q q)) (HZ : Hid (∀ i, i < q → w.cell? ⟨h, i * 6, none⟩ = some (.int .i64 0))) (hcap : Hid (n ≤ cap ∧ cap ≤ 9223372036854775807))
    (HA : Calls Tryz.prog 57 #[.pointer (some ⟨p, 0, none⟩), .int .i64 id] w fun e w' => e = .returned (.int .i64 j) ∧ w' = w) :
    Calls Tryz.prog 32 #[.pointer (some ⟨p, 0, none⟩), .int .i64 id] w fun e w' => e = .returned (.int .i64 0) ∧ ∃ v3 W3, Out3 w w' p l j v3 W3 := by
  have hc := H.out.cell
  go_enter Tryz.func32, Tryz.ntmps32
  go_wp2_with fail
  refine HA.mono ?_
  rintro _ w1 ⟨rfl, rfl⟩
  clear HA
  go_wp2
  go_loopg [6] q (fun y i wr => ∃ c : Nat, c + y = q ∧ i = .int .i64 c ∧ wr = w1)
  case atStart => exact ⟨0, by omega, rfl, rfl⟩
  case round =>
    obtain ⟨c, hca, rfl, rfl⟩ := hrel
    by_cases hlt : c < q
    · have hcq : (c : Int) < (q : Int) := by omega
      have z := HZ.out c (by omega)
      go_wp2
      go_roundg (gk - 1)
      case rel => exact ⟨c + 1, by omega, by go_num, rfl⟩
      case measure => omega
    · have hcq : ¬ (c : Int) < (q : Int) := by omega
      have HT : Hid ((l.take j).length = j) := hideIt (by rw [List.length_take, hn.out]; omega)
      have HT2 : Hid ((l.drop (j + 1)).length = n - (j + 1)) := hideIt (by rw [List.length_drop, hn.out])
      have hjc : (j : Int) ≤ (cap : Int) := by have := hcap.out.1; omega
      have hncp : (n : Int) ≤ (cap : Int) := by have := hcap.out.1; omega
      have hjn' : (j : Int) ≤ (n : Int) := by omega
      obtain ⟨j1, hj1, HJ1⟩ : ∃ j1 : Nat, (j : Int) + 1 = (j1 : Int) ∧ Hid (j1 = j + 1) := ⟨j + 1, by omega, hideIt rfl⟩
      have hw1 : wrap64 ((j : Int) + 1) = (j1 : Int) := by have := HJ1.out; unfold wrap64; omega
      have hw2 : IntKind.i64.wrap ((j : Int) + 1) = (j1 : Int) := by have := HJ1.out; rw [IntKind.wrap_i64]; omega
      have hj1n : (j1 : Int) ≤ (n : Int) := by omega
      have hj1c : (j1 : Int) ≤ (cap : Int) := by omega
      have hj10 : (0 : Int) ≤ (j1 : Int) := by omega
      have HM := hideIt ((Lst3.made wr).kept (gbDrewN _ 1 none))
      have hpf : Hid (wr.frozen? ⟨p, 0, none⟩ = false) := hideIt (by simp [World.frozen?, H.out.box])
      have hpp : Hid (p < wr.heap.size) := hideIt H.out.plt
      have hc2 : (wr.alloc (.cells #[] 98)).cell? ⟨p, 0, none⟩ = some (.slice (some ⟨g, 0, none⟩) n cap) := (gbAlloc wr _ none).cell hc (by simp)
      have HD := hideIt ((((H.out.kept (gbAlloc wr (.cells #[] 98) none))).kept (gbDrewN _ 1 none)).ls.headCells j)
      go_wp2
      clear hj1
      have HT3 : Hid ((l.drop (j + 1)).length = n - j1) := hideIt (by rw [HT2.out, HJ1.out])
      by_cases hcj : cap = j1
      · have hcj2 : j1 = cap := hcj.symm
        clear hcj
        subst hcj2
        go_region_law (first | (refine step_append3 rfl (.tmp 39) (.tmp 45) rfl wr.heap.size (.slice (some ⟨wr.heap.size, 0, none⟩) 0 0) [] (by simp [Act.eval, Act.put]) HM.out (some ⟨g, 0, none⟩) j j1 (l.take j) (by simp [Act.eval, Act.put]) HT.out (fun e => nomatch e) (fun ad e => by cases e; exact HD.out) (by simp; omega) (by simp) ?_; intro v1 w1 hl1 hg1 hb1; have G1 : wr.grownBy w1 none := gbNews (gbTrans (gbAny (gbTrans (gbAlloc wr (.cells #[] 98) none) (gbDrewN _ 1 none)) _) hg1) (fun k e => by cases e; exact Nat.le_refl _); have hl1 : Hid (Lst3 w1 wr.heap.size v1 (l.take j)) := hideIt hl1; have hc4 := G1.cell hc (by simp); have HD2 := hideIt ((show ∀ jj u, (cells3 (l.drop (j + 1)))[jj]? = some u → w1.cell? ((⟨g, 0, none⟩ : Addr).add jj) = some u from by intro jj u hu; rw [List.drop_eq_nil_of_le (by have := hn.out; have := HJ1.out; omega)] at hu; simp [cells3] at hu)); have hsz1 : wr.heap.size ≤ w1.heap.size := G1.size; clear hg1 hb1) | (refine step_append3 rfl (.tmp 46) (.tmp 53) rfl wr.heap.size v1 (l.take j) (by simp [Act.eval, Act.put]) hl1.out (some ⟨g, 0, none⟩) (n - j1) (j1 - j1) (l.drop (j + 1)) (by simp [Act.eval, Act.put]) HT3.out (fun e => nomatch e) (fun ad e => by cases e; exact HD2.out) (by have := HT.out; omega) hsz1 ?_; intro v2 w2 hl2 hg2 hb2; have G2 : wr.grownBy w2 none := gbNews' hg2 G1 (fun k e => (World.ownsRow.lt hl1.out k e).1); have hl2 := hideIt hl2; have hc5 := G2.cell hc (by simp); have hf5 := (gbFrozen G2 hpp.out (by simp)).trans hpf.out; obtain ⟨x2, n2, k2, rfl⟩ := formAny hl2.out; clear hg2 hb2))
        all_goals
          clear hc2 hc4 hc5 hf5
          go_wp2
          go_ret
          exact ⟨rfl, _, w2, hl2.out, G2, rfl⟩
      · have hcj2 : ¬ j1 = cap := fun e => hcj e.symm
        go_region_law (first | (refine step_append3 rfl (.tmp 39) (.tmp 45) rfl wr.heap.size (.slice (some ⟨wr.heap.size, 0, none⟩) 0 0) [] (by simp [Act.eval, Act.put]) HM.out (some ⟨g, 0, none⟩) j cap (l.take j) (by simp [Act.eval, Act.put]) HT.out (fun e => nomatch e) (fun ad e => by cases e; exact HD.out) (by simp; omega) (by simp) ?_; intro v1 w1 hl1 hg1 hb1; have G1 : wr.grownBy w1 none := gbNews (gbTrans (gbAny (gbTrans (gbAlloc wr (.cells #[] 98) none) (gbDrewN _ 1 none)) _) hg1) (fun k e => by cases e; exact Nat.le_refl _); have hl1 : Hid (Lst3 w1 wr.heap.size v1 (l.take j)) := hideIt hl1; have hc4 := G1.cell hc (by simp); have HD2 := hideIt ((show ∀ jj u, (cells3 (l.drop (j + 1)))[jj]? = some u → w1.cell? ((⟨g, j1 * 3, none⟩ : Addr).add jj) = some u from by rw [HJ1.out]; exact (H.out.kept G1).ls.tailCells (j + 1))); have hsz1 : wr.heap.size ≤ w1.heap.size := G1.size; clear hg1 hb1) | (refine step_append3 rfl (.tmp 46) (.tmp 53) rfl wr.heap.size v1 (l.take j) (by simp [Act.eval, Act.put]) hl1.out (some ⟨g, j1 * 3, none⟩) (n - j1) (cap - j1) (l.drop (j + 1)) (by simp [Act.eval, Act.put]) HT3.out (fun e => nomatch e) (fun ad e => by cases e; exact HD2.out) (by have := HT.out; omega) hsz1 ?_; intro v2 w2 hl2 hg2 hb2; have G2 : wr.grownBy w2 none := gbNews' hg2 G1 (fun k e => (World.ownsRow.lt hl1.out k e).1); have hl2 := hideIt hl2; have hc5 := G2.cell hc (by simp); have hf5 := (gbFrozen G2 hpp.out (by simp)).trans hpf.out; obtain ⟨x2, n2, k2, rfl⟩ := formAny hl2.out; clear hg2 hb2))
        all_goals
          clear hc2 hc4 hc5 hf5
          go_wp2
          go_ret
          exact ⟨rfl, _, w2, hl2.out, G2, rfl⟩

/-- The list has one node fewer. -/
theorem RAt.out {w w' W3 : World} {p j : Nat} {v v3 : Value} {l : List RE} {S : St} {O : Nat → Prop} {e : RE} (h : RA u w p v l S) (hj : l[j]? = some e) (L : Out3 w w' p l j v3 W3) (op : O p) (oh : ∀ e ∈ l, O e.h) :
    RAt u w' p (fun i => O i ∨ (w.heap.size ≤ i ∧ i < w'.heap.size)) (fun i => if i = e.id then none else S i) ∧ Fr O w w' := by
  obtain ⟨ls, gr, set⟩ := L
  have hpl := h.plt
  have g4 : W3.grownBy w' (some p) := by rw [set]; exact gbSetCell _ _ _ _
  have F4 : Fr (fun i => i = p) W3 w' := Fr.at g4 rfl
  have h3 := h.kept gr
  have hjl : j < l.length := (List.getElem?_eq_some_iff.1 hj).1
  have sub : (l.take j ++ l.drop (j + 1)).Sublist l := by
    rw [← List.eraseIdx_eq_take_drop_succ]; exact List.eraseIdx_sublist _ _
  have mem : ∀ x ∈ l.take j ++ l.drop (j + 1), x ∈ l := fun x hx => sub.subset hx
  have other : ∀ x ∈ l, x.id ≠ e.id → x ∈ l.take j ++ l.drop (j + 1) := by
    intro x hx hne
    obtain ⟨i, hi, rfl⟩ := List.mem_iff_getElem.1 hx
    have hij : i ≠ j := fun e2 => hne (by subst e2; rw [List.getElem?_eq_getElem hi] at hj; cases hj; rfl)
    rcases Nat.lt_or_gt_of_ne hij with h1 | h1
    · exact List.mem_append.2 (.inl (List.mem_take_iff_getElem.2 ⟨i, by omega, rfl⟩))
    · refine List.mem_append.2 (.inr ?_)
      rw [List.mem_iff_getElem]
      exact ⟨i - (j + 1), by rw [List.length_drop]; omega, by rw [List.getElem_drop]; congr 1; omega⟩
  have away : ∀ x ∈ l.take j ++ l.drop (j + 1), x.id ≠ e.id := by
    intro x hx
    rcases List.mem_append.1 hx with hx | hx
    · obtain ⟨i, hi, rfl⟩ := List.mem_take_iff_getElem.1 hx
      have hi2 : i < l.length := by omega
      have := (h.apart (List.getElem?_eq_getElem hi2) hj (by omega)).1
      omega
    · obtain ⟨i, hi, rfl⟩ := List.mem_iff_getElem.1 hx
      rw [List.length_drop] at hi
      rw [List.getElem_drop]
      have hi2 : j + 1 + i < l.length := by omega
      have := (h.apart hj (List.getElem?_eq_getElem hi2) (by omega)).1
      omega
  have hlt3 : W3.heap.size ≤ w'.heap.size := g4.size
  have hv3 : ∀ k, v3.ownBlock = some k → w.heap.size ≤ k ∧ k < W3.heap.size := World.ownsRow.lt ls
  refine ⟨⟨v3, _, ⟨?_, (ls.fr F4 (fun b hb e => by have := (hv3 b hb).1; omega)).low, h.srt.sublist sub, ?_, ?_, h.hnd.sublist sub⟩, .inl op, fun k hk => .inr ⟨(hv3 k hk).1, Nat.lt_of_lt_of_le (hv3 k hk).2 hlt3⟩, fun x hx => .inl (oh x (mem x hx))⟩, (Fr.grown gr).trans (Fr.at g4 op)⟩
  · rw [set]; exact cells_set h3.box v3
  · intro x hx
    obtain ⟨d, h1, h2, N⟩ := h3.node x (mem x hx)
    exact ⟨d, by rw [if_neg (away x hx)]; exact h1, h2, N.fr F4 (h3.hp (mem x hx))⟩
  · intro i hi
    by_cases e2 : i = e.id
    · rw [if_pos e2]
    · rw [if_neg e2]
      exact h.gone i (fun x hx e3 => hi x (other x hx (by rw [e3]; exact e2)) e3)

theorem M.nulN_at {S : St} (G : Good S) {id : Int} {d : Nd} (hd : S id = some d) : M.nulN d = true ↔ ∀ i, i < 2 ^ d.r → (d.f i).k = 0 := by
  have h16 := (M.radW d.r (G.rad id d hd).1 (G.rad id d hd).2).2.1
  unfold M.nulN
  rw [List.all_eq_true]
  refine ⟨fun h i hi => by have := h i (by simp; omega); simpa using this, fun h i hi => ?_⟩
  by_cases h2 : i < 2 ^ d.r
  · simpa using h i h2
  · rw [G.out id d i hd (by omega)]; rfl

theorem rdrop_is {w : World} {p : Nat} {O : Nat → Prop} {S : St} (h : RAt u w p O S) (G : Good S) (id e : Int) (he : M.dropE S id = e) :
    Calls Tryz.prog 32 #[.pointer (some ⟨p, 0, none⟩), .int .i64 id] w fun x w' => x = .returned (.int .i64 e) ∧ RAt u w' p (fun i => O i ∨ (w.heap.size ≤ i ∧ i < w'.heap.size)) (M.dropS S id) ∧ Fr O w w' := by
  subst he
  have H := h
  obtain ⟨v, l, h, op, og, oh⟩ := h
  cases hs : S id with
  | none =>
    have e : M.dropE S id = 3 := by unfold M.dropE; rw [hs]
    have es : M.dropS S id = S := by unfold M.dropS; rw [if_neg (by rw [e]; decide)]
    rw [e, es]
    refine (rdrop_no w p id (at_none h G id hs)).mono ?_
    rintro x w' ⟨rfl, rfl⟩; exact ⟨rfl, H.more, Fr.refl _ _⟩
  | some d =>
    obtain ⟨j, x, hj, rfl, hr, N⟩ := h.has hs
    have hA := at_some h G hj
    have h16 := (M.radW d.r (G.rad _ d hs).1 (G.rad _ d hs).2).2.1
    have hlen := h.len G
    have ls := h.ls
    obtain ⟨g, m, cap, rfl, rfl, A⟩ := h.at hj
    have h2 := A.l
    unfold rev at h2
    rw [← hr] at h2
    have hcap : l.length ≤ cap ∧ cap ≤ 9223372036854775807 := by
      rcases ls.form with ⟨e, _⟩ | ⟨g', cap', e, hc1, _, _, hc2⟩
      · cases e
      · cases e; exact ⟨hc1, hc2⟩
    cases hz : M.nulN d
    · have e : M.dropE S x.id = 8 := by unfold M.dropE; rw [hs]; simp [hz]
      have es : M.dropS S x.id = S := by unfold M.dropS; rw [if_neg (by rw [e]; decide)]
      rw [e, es]
      have hex : ∃ a, a < 2 ^ d.r ∧ (d.f a).k ≠ 0 := Classical.byContradiction fun hn => by
        have : M.nulN d = true := (M.nulN_at G hs).2 (fun i hi => Classical.byContradiction fun h3 => hn ⟨i, hi, h3⟩)
        rw [hz] at this; cases this
      obtain ⟨a, ha, hak⟩ := hex
      refine (rdrop_state w p g _ cap j x.h (2 ^ d.r) a x.id (fun i => (d.f i).k) (by have := A.lt; omega) h16 ha (hideIt hak) A.cell h2 (hideIt fun i hi => (N.six i hi).at0) hA).mono ?_
      rintro y w' ⟨rfl, rfl⟩; exact ⟨rfl, H.more, Fr.refl _ _⟩
    · have e : M.dropE S x.id = 0 := by unfold M.dropE; rw [hs]; simp [hz]
      have es : M.dropS S x.id = fun i => if i = x.id then none else S i := by unfold M.dropS; rw [if_pos e]
      rw [e, es]
      refine (rdrop_yes (hideIt h) (hideIt rfl) hlen x.id (by have := A.lt; omega) h16 h2 (hideIt fun i hi => by have := (N.six i hi).at0; rw [(M.nulN_at G hs).1 hz i hi] at this; exact this) (hideIt hcap) hA).mono ?_
      rintro y w' ⟨rfl, v3, W3, L⟩
      exact ⟨rfl, RAt.out h hj L op oh⟩

end Go.Proofs.YtdnoidnpiaadaaaGreat
