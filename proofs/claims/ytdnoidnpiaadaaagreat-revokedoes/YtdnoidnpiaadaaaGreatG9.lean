/-
  THE DOCUMENT'S SIDE (donjonref07): Add.
-/
import Derived.Test.YtdnoidnpiaadaaaGreatG8
namespace Go.Proofs.YtdnoidnpiaadaaaGreat
open Go.RowKit
set_option linter.unusedVariables false
set_option maxRecDepth 10000
variable {u : Value}

set_option maxHeartbeats 400000 in
theorem radd_range (w : World) (p : Nat) (id r : Int) (h : ¬ (0 ≤ id ∧ id ≤ 63 ∧ 1 ≤ r ∧ r ≤ 4)) :
    Calls Tryz.prog 30 #[.pointer (some ⟨p, 0, none⟩), .int .i64 id, .int .i64 r] w fun e w' => e = .returned (.int .i64 1) ∧ w' = w := by
  by_cases c1 : id < 0
  · clear h
    go_enter Tryz.func30, Tryz.ntmps30
    go_wp2
    go_ret
    exact ⟨rfl, rfl⟩
  · by_cases c2 : 63 < id
    · clear h
      go_enter Tryz.func30, Tryz.ntmps30
      go_wp2
      go_ret
      exact ⟨rfl, rfl⟩
    · by_cases c3 : r < 1
      · clear h
        go_enter Tryz.func30, Tryz.ntmps30
        go_wp2
        go_ret
        exact ⟨rfl, rfl⟩
      · have c4 : 4 < r := by omega
        clear h
        go_enter Tryz.func30, Tryz.ntmps30
        go_wp2
        go_ret
        exact ⟨rfl, rfl⟩

set_option maxHeartbeats 400000 in
theorem radd_twice (w : World) (p j : Nat) (id r : Int) (c1 : ¬ id < 0) (c2 : ¬ 63 < id) (c3 : ¬ r < 1) (c4 : ¬ 4 < r) (HA : Calls Tryz.prog 57 #[.pointer (some ⟨p, 0, none⟩), .int .i64 id] w fun e w' => e = .returned (.int .i64 j) ∧ w' = w) :
    Calls Tryz.prog 30 #[.pointer (some ⟨p, 0, none⟩), .int .i64 id, .int .i64 r] w fun e w' => e = .returned (.int .i64 4) ∧ w' = w := by
  go_enter Tryz.func30, Tryz.ntmps30
  go_wp2_with fail
  refine HA.mono ?_
  rintro _ w1 ⟨rfl, rfl⟩
  go_wp2
  go_ret
  exact ⟨rfl, rfl⟩

theorem gbNews' {a b c : World} {r : Option Nat} (h : b.grownBy c r) (k : a.grownBy b none) (hr : ∀ x, r = some x → a.heap.size ≤ x) : a.grownBy c none :=
  gbNews (gbTrans (gbAny k _) h) hr
theorem cellKept {w w' : World} {v : Value} {a : Addr} {r : Option Nat} (g : w.grownBy w' r) (h : w.cell? a = some v) (hne : r = some a.block → False) : w'.cell? a = some v := g.cell h (fun e => hne e.symm)
theorem formSome {w : World} {B : Nat} {v : Value} {l : List RE} (h : Lst3 w B v l) (hl : l ≠ []) : ∃ g n cap, v = .slice (some ⟨g, 0, none⟩) n cap := by
  rcases h.form with ⟨_, h0⟩ | ⟨g, cap, rfl, _⟩
  · exact absurd h0 hl
  · exact ⟨g, _, cap, rfl⟩
/-- One node, laid as a list. -/
theorem oneNode (w : World) (id : Int) (r q : Nat) (o : Obj) (hq : 2 ^ r = q) (hs : (w.alloc o).heap.size = w.heap.size + 1) : ∀ j u, (cells3 [⟨id, r, w.heap.size⟩])[j]? = some u → ((w.alloc o).alloc (.cells #[.int .i64 id, .int .i64 r, .slice (some ⟨w.heap.size, 0, none⟩) q q] 98)).cell? ((⟨w.heap.size + 1, 0, none⟩ : Addr).add j) = some u := by
  intro j u hu
  subst hq
  have hb : ((w.alloc o).alloc (.cells #[.int .i64 id, .int .i64 r, .slice (some ⟨w.heap.size, 0, none⟩) (2 ^ r) (2 ^ r)] 98)).heap[w.heap.size + 1]? = some (.cells #[.int .i64 id, .int .i64 r, .slice (some ⟨w.heap.size, 0, none⟩) (2 ^ r) (2 ^ r)] 98 (0, 0)) := by
    rw [← hs]; exact Deep.blk_alloc_new _ _
  rw [Addr.add_lit, Nat.zero_add]
  simp only [World.cell?, hb]
  rw [cells3_cons, cells3_nil] at hu
  rcases j with _ | _ | _ | j
  · simpa using hu
  · simpa using hu
  · simpa [rev] using hu
  · simp at hu
theorem tailHi {l : List RE} (h : l.Pairwise (fun a b => a.id < b.id)) {c : Nat} {e : RE} {id : Int} (he : l[c]? = some e) (hi : id < e.id) : ∀ x ∈ l.drop c, id < x.id := by
  intro x hx
  obtain ⟨j, hj, rfl⟩ := List.mem_iff_getElem.1 hx
  rw [List.getElem_drop]
  rw [List.length_drop] at hj
  obtain ⟨hc, rfl⟩ := List.getElem?_eq_some_iff.1 he
  by_cases h0 : j = 0
  · subst h0; exact hi
  · have := List.pairwise_iff_getElem.1 h c (c + j) hc (by omega) (by omega); omega

/-- A node was laid into the list. -/
structure Laid3 (w w' : World) (p : Nat) (l : List RE) (id : Int) (r : Nat) (c hh : Nat) (v3 : Value) (W3 : World) : Prop where
  lo : ∀ e ∈ l.take c, e.id < id
  hi : ∀ e ∈ l.drop c, id < e.id
  ls : Lst3 W3 w.heap.size v3 ((l.take c ++ [⟨id, r, hh⟩]) ++ l.drop c)
  caps : CapsAt W3 hh ⟨r, fun _ => C.zero⟩
  new : w.heap.size ≤ hh
  gr : w.grownBy W3 none
  set : w' = W3.setCell ⟨p, 0, none⟩ v3

set_option maxRecDepth 10000 in
set_option maxHeartbeats 2000000 in
theorem radd_some {w : World} {p g n cap : Nat} {l : List RE} {S : St} (H : Hid (RA u w p (.slice (some ⟨g, 0, none⟩) n cap) l S)) (hn : Hid (l.length = n)) (hn64 : n ≤ 64) (id : Int) (r q : Nat) (c1 : ¬ id < 0) (c2 : ¬ 63 < id) (c3 : ¬ (r : Int) < 1) (c4 : ¬ 4 < (r : Int)) (hs : Hid (S id = none))
    (hq : wrap64 (2 ^ r) = (q : Int)) (hq16 : q ≤ 16) (HQ : Hid (2 ^ r = q)) (hcap : Hid (n ≤ cap ∧ cap ≤ 9223372036854775807))
    (HA : Calls Tryz.prog 57 #[.pointer (some ⟨p, 0, none⟩), .int .i64 id] w fun e w' => e = .returned (.int .i64 (-1)) ∧ w' = w) :
    Calls Tryz.prog 30 #[.pointer (some ⟨p, 0, none⟩), .int .i64 id, .int .i64 r] w fun e w' => e = .returned (.int .i64 0) ∧ ∃ c hh v3 W3, Laid3 w w' p l id r c hh v3 W3 := by
  have hc := H.out.cell
  go_enter Tryz.func30, Tryz.ntmps30
  go_wp2_with fail
  refine HA.mono ?_
  rintro _ w1 ⟨rfl, rfl⟩
  clear HA
  go_wp2
  go_loopg [7] n (fun y i wr => ∃ c : Nat, c + y = n ∧ i = .int .i64 c ∧ Hid (∀ e ∈ l.take c, e.id < id) ∧ wr = w1)
  case atStart => exact ⟨0, by omega, rfl, hideIt (by simp), rfl⟩
  case round =>
    obtain ⟨c, hcn, rfl, HL, rfl⟩ := hrel
    by_cases hlt : c < n
    · have hlt' : (c : Int) < (n : Int) := by omega
      obtain ⟨e, he⟩ : ∃ e, l[c]? = some e := ⟨_, List.getElem?_eq_getElem (by rw [hn.out]; exact hlt)⟩
      obtain ⟨e1, _, _⟩ := H.out.ls.el he
      obtain ⟨idn, hidn⟩ : ∃ idn, e.id = idn := ⟨_, rfl⟩
      rw [hidn] at e1
      have HE := hideIt he
      have HI := hideIt hidn
      clear he hidn
      by_cases hid : idn < id
      · go_wp2
        go_roundg (gk - 1)
        case rel => exact ⟨c + 1, by omega, by go_num, hideIt (by
          rw [List.take_add_one, HE.out]
          intro x hx
          rcases List.mem_append.1 hx with hx | hx
          · exact HL.out x hx
          · simp at hx; subst hx; rw [HI.out]; exact hid), rfl⟩
        case measure => omega
      · have HT : Hid ((l.take c).length = c) := hideIt (by rw [List.length_take, hn.out]; omega)
        have hcc : (c : Int) ≤ (cap : Int) := by have := hcap.out.1; omega
        have hncp : (n : Int) ≤ (cap : Int) := by have := hcap.out.1; omega
        have hcn' : (c : Int) ≤ (n : Int) := by omega
        have HM := hideIt (Lst3.made wr)
        have hc2 : (wr.alloc (.cells #[] 98)).cell? ⟨p, 0, none⟩ = some (.slice (some ⟨g, 0, none⟩) n cap) := (gbAlloc wr _ none).cell hc (by simp)
        have HD := hideIt (((H.out.kept (gbAlloc wr (.cells #[] 98) none))).ls.headCells c)
        have hpf : Hid (wr.frozen? ⟨p, 0, none⟩ = false) := hideIt (by simp [World.frozen?, H.out.box])
        have hmk := run_make_caps q hq16
        go_upto_region 9 with (at_builtin; refine wpList_append3 rfl (.tmp 50) (.tmp 56) rfl wr.heap.size (.slice (some ⟨wr.heap.size, 0, none⟩) 0 0) [] rfl HM.out (some ⟨g, 0, none⟩) c cap (l.take c) rfl HT.out (fun e => nomatch e) (fun ad e => by cases e; exact HD.out) (by simp; omega) (by simp) ?_; intro v1 w1 hl1 hg1 hb1; have hl1 : Hid (Lst3 w1 wr.heap.size v1 (l.take c)) := hideIt hl1; have hg1 := hideIt hg1; have hb1 := hideIt hb1)
        have G1 : wr.grownBy w1 none := gbNews (gbTrans (gbAny (gbAlloc wr _ none) _) hg1.out) (fun k e => by cases e; exact Nat.le_refl _)
        have hsz1 : wr.heap.size < w1.heap.size := by have := hg1.out.size; simp at this; omega
        have HO2 : Hid (Lst3 ((w1.alloc (.cells (madeCells zero6 (q * 6)) 25)).alloc (.cells #[.int .i64 id, .int .i64 r, .slice (some ⟨w1.heap.size, 0, none⟩) q q] 98)) wr.heap.size v1 (l.take c)) := hideIt (hl1.out.kept (gbTrans (gbAlloc _ _ _) (gbAlloc _ _ _)))
        have HR2 : Hid (∀ j u, (cells3 [⟨id, r, w1.heap.size⟩])[j]? = some u → ((w1.alloc (.cells (madeCells zero6 (q * 6)) 25)).alloc (.cells #[.int .i64 id, .int .i64 r, .slice (some ⟨w1.heap.size, 0, none⟩) q q] 98)).cell? ((⟨w1.heap.size + 1, 0, none⟩ : Addr).add j) = some u) := hideIt (oneNode w1 id r q _ HQ.out (by simp))
        have HC2 : Hid (CapsAt ((w1.alloc (.cells (madeCells zero6 (q * 6)) 25)).alloc (.cells #[.int .i64 id, .int .i64 r, .slice (some ⟨w1.heap.size, 0, none⟩) q q] 98)) w1.heap.size ⟨r, fun _ => C.zero⟩) := hideIt (by
          have := CapsAt.made w1 r
          rw [HQ.out] at this
          exact this.fr (O := fun _ => False) (Fr.grown (gbAlloc _ _ _)) (fun e => e))
        clear hc2
        go_upto_region 10 with (at_builtin; refine wpList_append3 rfl (.tmp 58) (.tmp 65) rfl wr.heap.size v1 (l.take c) rfl HO2.out (some ⟨w1.heap.size + 1, 0, none⟩) 1 1 [⟨id, r, w1.heap.size⟩] rfl rfl (fun e => nomatch e) (fun ad e => by cases e; exact HR2.out) (by have := HT.out; omega) (by simp; omega) ?_; intro v2 w2 hl2 hg2 hb2; have hl2 := hideIt hl2; have hg2 : Hid (((w1.alloc (.cells (madeCells zero6 (q * 6)) 25)).alloc (.cells #[.int .i64 id, .int .i64 r, .slice (some ⟨w1.heap.size, 0, none⟩) q q] 98)).grownBy w2 v1.ownBlock) := hideIt hg2; have hb2 : Hid (v2.ownBlock = v1.ownBlock ∨ v2.ownBlock = some (w1.heap.size + 1 + 1)) := hideIt (by simpa using hb2))
        have hown1 := hl1.out
        have hv1 : ∀ k, v1.ownBlock = some k → wr.heap.size ≤ k ∧ k < w1.heap.size := World.ownsRow.lt hown1
        have G2 : wr.grownBy w2 none := gbNews' (gbTrans (gbAny (gbTrans (gbAlloc w1 _ none) (gbAlloc _ _ _)) _) hg2.out) G1 (fun k e => (hv1 k e).1)
        have HC3 : Hid (CapsAt w2 w1.heap.size ⟨r, fun _ => C.zero⟩) := hideIt (HC2.out.fr (O := fun i => v1.ownBlock = some i) ⟨hg2.out.os, hg2.out.tape, hg2.out.output, hg2.out.size, fun i hi ho => hg2.out.block i hi (fun e => ho e.symm)⟩ (fun e => by have := (hv1 _ e).2; omega))
        have hc3 := G2.cell hc (by simp)
        have hf3 : Hid (w2.frozen? ⟨p, 0, none⟩ = false) := hideIt ((gbFrozen G2 H.out.plt (by simp)).trans hpf.out)
        have HT2 : Hid ((l.drop c).length = n - c) := hideIt (by rw [List.length_drop, hn.out])
        have HD2 := hideIt ((H.out.kept G2).ls.tailCells c)
        have HLN : Hid ((l.take c ++ [(⟨id, r, w1.heap.size⟩ : RE)]).length = c + 1) := hideIt (by rw [List.length_append, HT.out]; rfl)
        have hsz2 : wr.heap.size ≤ w2.heap.size := G2.size
        have hne : ¬ cap = c := by omega
        have hne2 : ¬ c = cap := by omega
        go_wp2_with (at_builtin; refine wpList_append3 rfl (.tmp 68) (.tmp 74) rfl wr.heap.size v2 _ rfl hl2.out (some ⟨g, c * 3, none⟩) (n - c) _ (l.drop c) rfl HT2.out (fun e => nomatch e) (fun ad e => by cases e; exact HD2.out) (by have := HLN.out; omega) hsz2 ?_; intro v3 w3 hl3 hg3 hb3; have hl3 := hideIt hl3; have hg3 := hideIt hg3; have hc4 := Hid.out (hideIt (cellKept hg3.out hc3 (fun e => by have := (World.ownsRow.lt hl2.out p e).1; have := H.out.plt; omega))); have hf4 := (gbFrozen hg3.out (World.block_lt_of_cell? w2 _ hc3) (fun e => by have := (World.ownsRow.lt hl2.out p e.symm).1; have := H.out.plt; omega)).trans hf3.out; obtain ⟨g3, len3, cap3, rfl⟩ := formSome hl3.out (by simp))
        have G3 : wr.grownBy w3 none := gbNews' hg3.out G2 (fun k e => (World.ownsRow.lt hl2.out k e).1)
        have hpp : Hid (p < wr.heap.size) := hideIt H.out.plt
        have HC4 : Hid (CapsAt w3 w1.heap.size ⟨r, fun _ => C.zero⟩) := hideIt (HC3.out.fr (O := fun i => v2.ownBlock = some i) ⟨hg3.out.os, hg3.out.tape, hg3.out.output, hg3.out.size, fun i hi ho => hg3.out.block i hi (fun e => ho e.symm)⟩ (fun e => by
          rcases hb2.out with h | h
          · rw [h] at e; have := (hv1 _ e).2; omega
          · rw [h] at e; have := Option.some.inj e; omega))
        go_ret
        exact ⟨rfl, c, w1.heap.size, _, w3, HL.out, (tailHi H.out.srt HE.out (by rw [HI.out]; have : idn ≠ id := fun e2 => H.out.noId hs.out _ (List.mem_of_getElem? HE.out) (by rw [HI.out]; exact e2); omega)), hl3.out, HC4.out, by omega, G3, rfl⟩
    · have hlt' : ¬ (c : Int) < (n : Int) := by omega
      have HT : Hid ((l.take c).length = c) := hideIt (by rw [List.length_take, hn.out]; omega)
      have hcc : (c : Int) ≤ (cap : Int) := by have := hcap.out.1; omega
      have hncp : (n : Int) ≤ (cap : Int) := by have := hcap.out.1; omega
      have hcn' : (c : Int) ≤ (n : Int) := by omega
      have HM := hideIt (Lst3.made wr)
      have hc2 : (wr.alloc (.cells #[] 98)).cell? ⟨p, 0, none⟩ = some (.slice (some ⟨g, 0, none⟩) n cap) := (gbAlloc wr _ none).cell hc (by simp)
      have HD := hideIt (((H.out.kept (gbAlloc wr (.cells #[] 98) none))).ls.headCells c)
      have hpf : Hid (wr.frozen? ⟨p, 0, none⟩ = false) := hideIt (by simp [World.frozen?, H.out.box])
      have hmk := run_make_caps q hq16
      go_upto_region 9 with (at_builtin; refine wpList_append3 rfl (.tmp 50) (.tmp 56) rfl wr.heap.size (.slice (some ⟨wr.heap.size, 0, none⟩) 0 0) [] rfl HM.out (some ⟨g, 0, none⟩) c cap (l.take c) rfl HT.out (fun e => nomatch e) (fun ad e => by cases e; exact HD.out) (by simp; omega) (by simp) ?_; intro v1 w1 hl1 hg1 hb1; have hl1 : Hid (Lst3 w1 wr.heap.size v1 (l.take c)) := hideIt hl1; have hg1 := hideIt hg1; have hb1 := hideIt hb1)
      have G1 : wr.grownBy w1 none := gbNews (gbTrans (gbAny (gbAlloc wr _ none) _) hg1.out) (fun k e => by cases e; exact Nat.le_refl _)
      have hsz1 : wr.heap.size < w1.heap.size := by have := hg1.out.size; simp at this; omega
      have HO2 : Hid (Lst3 ((w1.alloc (.cells (madeCells zero6 (q * 6)) 25)).alloc (.cells #[.int .i64 id, .int .i64 r, .slice (some ⟨w1.heap.size, 0, none⟩) q q] 98)) wr.heap.size v1 (l.take c)) := hideIt (hl1.out.kept (gbTrans (gbAlloc _ _ _) (gbAlloc _ _ _)))
      have HR2 : Hid (∀ j u, (cells3 [⟨id, r, w1.heap.size⟩])[j]? = some u → ((w1.alloc (.cells (madeCells zero6 (q * 6)) 25)).alloc (.cells #[.int .i64 id, .int .i64 r, .slice (some ⟨w1.heap.size, 0, none⟩) q q] 98)).cell? ((⟨w1.heap.size + 1, 0, none⟩ : Addr).add j) = some u) := hideIt (oneNode w1 id r q _ HQ.out (by simp))
      have HC2 : Hid (CapsAt ((w1.alloc (.cells (madeCells zero6 (q * 6)) 25)).alloc (.cells #[.int .i64 id, .int .i64 r, .slice (some ⟨w1.heap.size, 0, none⟩) q q] 98)) w1.heap.size ⟨r, fun _ => C.zero⟩) := hideIt (by
        have := CapsAt.made w1 r
        rw [HQ.out] at this
        exact this.fr (O := fun _ => False) (Fr.grown (gbAlloc _ _ _)) (fun e => e))
      clear hc2
      go_upto_region 10 with (at_builtin; refine wpList_append3 rfl (.tmp 58) (.tmp 65) rfl wr.heap.size v1 (l.take c) rfl HO2.out (some ⟨w1.heap.size + 1, 0, none⟩) 1 1 [⟨id, r, w1.heap.size⟩] rfl rfl (fun e => nomatch e) (fun ad e => by cases e; exact HR2.out) (by have := HT.out; omega) (by simp; omega) ?_; intro v2 w2 hl2 hg2 hb2; have hl2 := hideIt hl2; have hg2 : Hid (((w1.alloc (.cells (madeCells zero6 (q * 6)) 25)).alloc (.cells #[.int .i64 id, .int .i64 r, .slice (some ⟨w1.heap.size, 0, none⟩) q q] 98)).grownBy w2 v1.ownBlock) := hideIt hg2; have hb2 : Hid (v2.ownBlock = v1.ownBlock ∨ v2.ownBlock = some (w1.heap.size + 1 + 1)) := hideIt (by simpa using hb2))
      have hown1 := hl1.out
      have hv1 : ∀ k, v1.ownBlock = some k → wr.heap.size ≤ k ∧ k < w1.heap.size := World.ownsRow.lt hown1
      have G2 : wr.grownBy w2 none := gbNews' (gbTrans (gbAny (gbTrans (gbAlloc w1 _ none) (gbAlloc _ _ _)) _) hg2.out) G1 (fun k e => (hv1 k e).1)
      have HC3 : Hid (CapsAt w2 w1.heap.size ⟨r, fun _ => C.zero⟩) := hideIt (HC2.out.fr (O := fun i => v1.ownBlock = some i) ⟨hg2.out.os, hg2.out.tape, hg2.out.output, hg2.out.size, fun i hi ho => hg2.out.block i hi (fun e => ho e.symm)⟩ (fun e => by have := (hv1 _ e).2; omega))
      have hc3 := G2.cell hc (by simp)
      have hf3 : Hid (w2.frozen? ⟨p, 0, none⟩ = false) := hideIt ((gbFrozen G2 H.out.plt (by simp)).trans hpf.out)
      have HT2 : Hid ((l.drop c).length = n - c) := hideIt (by rw [List.length_drop, hn.out])
      have HD2 := hideIt ((H.out.kept G2).ls.tailCells c)
      have HLN : Hid ((l.take c ++ [(⟨id, r, w1.heap.size⟩ : RE)]).length = c + 1) := hideIt (by rw [List.length_append, HT.out]; rfl)
      have hsz2 : wr.heap.size ≤ w2.heap.size := G2.size
      by_cases hne : cap = c
      · have hne2 : c = cap := hne.symm
        clear hne
        subst hne2
        go_wp2_with (at_builtin; refine wpList_append3 rfl (.tmp 68) (.tmp 74) rfl wr.heap.size v2 _ rfl hl2.out (some ⟨g, 0, none⟩) (n - c) _ (l.drop c) rfl HT2.out (fun e => nomatch e) (fun ad e => by cases e; exact (by intro j u hu; rw [List.drop_eq_nil_of_le (by rw [hn.out]; omega)] at hu; simp [cells3] at hu)) (by have := HLN.out; omega) hsz2 ?_; intro v3 w3 hl3 hg3 hb3; have hl3 := hideIt hl3; have hg3 := hideIt hg3; have hc4 := Hid.out (hideIt (cellKept hg3.out hc3 (fun e => by have := (World.ownsRow.lt hl2.out p e).1; have := H.out.plt; omega))); have hf4 := (gbFrozen hg3.out (World.block_lt_of_cell? w2 _ hc3) (fun e => by have := (World.ownsRow.lt hl2.out p e.symm).1; have := H.out.plt; omega)).trans hf3.out; obtain ⟨g3, len3, cap3, rfl⟩ := formSome hl3.out (by simp))
        have G3 : wr.grownBy w3 none := gbNews' hg3.out G2 (fun k e => (World.ownsRow.lt hl2.out k e).1)
        have hpp : Hid (p < wr.heap.size) := hideIt H.out.plt
        have HC4 : Hid (CapsAt w3 w1.heap.size ⟨r, fun _ => C.zero⟩) := hideIt (HC3.out.fr (O := fun i => v2.ownBlock = some i) ⟨hg3.out.os, hg3.out.tape, hg3.out.output, hg3.out.size, fun i hi ho => hg3.out.block i hi (fun e => ho e.symm)⟩ (fun e => by
          rcases hb2.out with h | h
          · rw [h] at e; have := (hv1 _ e).2; omega
          · rw [h] at e; have := Option.some.inj e; omega))
        go_ret
        exact ⟨rfl, c, w1.heap.size, _, w3, HL.out, (by rw [List.drop_eq_nil_of_le (by rw [hn.out]; omega)]; simp), hl3.out, HC4.out, by omega, G3, rfl⟩
      · have hne2 : ¬ c = cap := fun e => hne e.symm
        go_wp2_with (at_builtin; refine wpList_append3 rfl (.tmp 68) (.tmp 74) rfl wr.heap.size v2 _ rfl hl2.out (some ⟨g, c * 3, none⟩) (n - c) _ (l.drop c) rfl HT2.out (fun e => nomatch e) (fun ad e => by cases e; exact (by intro j u hu; rw [List.drop_eq_nil_of_le (by rw [hn.out]; omega)] at hu; simp [cells3] at hu)) (by have := HLN.out; omega) hsz2 ?_; intro v3 w3 hl3 hg3 hb3; have hl3 := hideIt hl3; have hg3 := hideIt hg3; have hc4 := Hid.out (hideIt (cellKept hg3.out hc3 (fun e => by have := (World.ownsRow.lt hl2.out p e).1; have := H.out.plt; omega))); have hf4 := (gbFrozen hg3.out (World.block_lt_of_cell? w2 _ hc3) (fun e => by have := (World.ownsRow.lt hl2.out p e.symm).1; have := H.out.plt; omega)).trans hf3.out; obtain ⟨g3, len3, cap3, rfl⟩ := formSome hl3.out (by simp))
        have G3 : wr.grownBy w3 none := gbNews' hg3.out G2 (fun k e => (World.ownsRow.lt hl2.out k e).1)
        have hpp : Hid (p < wr.heap.size) := hideIt H.out.plt
        have HC4 : Hid (CapsAt w3 w1.heap.size ⟨r, fun _ => C.zero⟩) := hideIt (HC3.out.fr (O := fun i => v2.ownBlock = some i) ⟨hg3.out.os, hg3.out.tape, hg3.out.output, hg3.out.size, fun i hi ho => hg3.out.block i hi (fun e => ho e.symm)⟩ (fun e => by
          rcases hb2.out with h | h
          · rw [h] at e; have := (hv1 _ e).2; omega
          · rw [h] at e; have := Option.some.inj e; omega))
        go_ret
        exact ⟨rfl, c, w1.heap.size, _, w3, HL.out, (by rw [List.drop_eq_nil_of_le (by rw [hn.out]; omega)]; simp), hl3.out, HC4.out, by omega, G3, rfl⟩

end Go.Proofs.YtdnoidnpiaadaaaGreat

/-
  THE DOCUMENT'S SIDE (donjonref07): Add onto no nodes; Add in the chapter's words.
-/
namespace Go.Proofs.YtdnoidnpiaadaaaGreat
open Go.RowKit
set_option linter.unusedVariables false
set_option maxRecDepth 10000
variable {u : Value}

set_option maxRecDepth 10000 in
set_option maxHeartbeats 2000000 in
theorem radd_none {w : World} {p : Nat} {S : St} (H : Hid (RA u w p (.slice none 0 0) [] S)) (id : Int) (r q : Nat) (c1 : ¬ id < 0) (c2 : ¬ 63 < id) (c3 : ¬ (r : Int) < 1) (c4 : ¬ 4 < (r : Int))
    (hq : wrap64 (2 ^ r) = (q : Int)) (hq16 : q ≤ 16) (HQ : Hid (2 ^ r = q))
    (HA : Calls Tryz.prog 57 #[.pointer (some ⟨p, 0, none⟩), .int .i64 id] w fun e w' => e = .returned (.int .i64 (-1)) ∧ w' = w) :
    Calls Tryz.prog 30 #[.pointer (some ⟨p, 0, none⟩), .int .i64 id, .int .i64 r] w fun e w' => e = .returned (.int .i64 0) ∧ ∃ c hh v3 W3, Laid3 w w' p [] id r c hh v3 W3 := by
  have hc := H.out.cell
  have hpf : Hid (w.frozen? ⟨p, 0, none⟩ = false) := hideIt (by simp [World.frozen?, H.out.box])
  have hpp : Hid (p < w.heap.size) := hideIt H.out.plt
  have hmk := run_make_caps q hq16
  go_enter Tryz.func30, Tryz.ntmps30
  go_wp2_with fail
  refine HA.mono ?_
  rintro _ w0 ⟨rfl, rfl⟩
  clear HA
  go_wp2
  refine wp_loop_rounds 1 ?_
  rw [rounds_succ]
  have HM := hideIt (Lst3.made w0)
  have hc2 : (w0.alloc (.cells #[] 98)).cell? ⟨p, 0, none⟩ = some (.slice none 0 0) := (gbAlloc w0 _ none).cell hc (by simp)
  go_upto_region 9 with (at_builtin; refine wpList_append3 rfl (.tmp 50) (.tmp 56) rfl w0.heap.size (.slice (some ⟨w0.heap.size, 0, none⟩) 0 0) [] rfl HM.out none 0 _ [] rfl rfl (fun _ => rfl) (fun ad e => nomatch e) (by simp) (by simp) ?_; intro v1 w1 hl1 hg1 hb1; have hl1 : Hid (Lst3 w1 w0.heap.size v1 []) := hideIt hl1; have hg1 := hideIt hg1; have hb1 := hideIt hb1)
  have G1 : w0.grownBy w1 none := gbNews (gbTrans (gbAny (gbAlloc w0 _ none) _) hg1.out) (fun k e => by cases e; exact Nat.le_refl _)
  have hsz1 : w0.heap.size < w1.heap.size := by have := hg1.out.size; simp at this; omega
  have HO2 : Hid (Lst3 ((w1.alloc (.cells (madeCells zero6 (q * 6)) 25)).alloc (.cells #[.int .i64 id, .int .i64 r, .slice (some ⟨w1.heap.size, 0, none⟩) q q] 98)) w0.heap.size v1 []) := hideIt (hl1.out.kept (gbTrans (gbAlloc _ _ _) (gbAlloc _ _ _)))
  have HR2 : Hid (∀ j u, (cells3 [⟨id, r, w1.heap.size⟩])[j]? = some u → ((w1.alloc (.cells (madeCells zero6 (q * 6)) 25)).alloc (.cells #[.int .i64 id, .int .i64 r, .slice (some ⟨w1.heap.size, 0, none⟩) q q] 98)).cell? ((⟨w1.heap.size + 1, 0, none⟩ : Addr).add j) = some u) := hideIt (oneNode w1 id r q _ HQ.out (by simp))
  have HC2 : Hid (CapsAt ((w1.alloc (.cells (madeCells zero6 (q * 6)) 25)).alloc (.cells #[.int .i64 id, .int .i64 r, .slice (some ⟨w1.heap.size, 0, none⟩) q q] 98)) w1.heap.size ⟨r, fun _ => C.zero⟩) := hideIt (by
    have := CapsAt.made w1 r
    rw [HQ.out] at this
    exact this.fr (O := fun _ => False) (Fr.grown (gbAlloc _ _ _)) (fun e => e))
  clear hc2
  go_upto_region 10 with (at_builtin; refine wpList_append3 rfl (.tmp 58) (.tmp 65) rfl w0.heap.size v1 [] rfl HO2.out (some ⟨w1.heap.size + 1, 0, none⟩) 1 1 [⟨id, r, w1.heap.size⟩] rfl rfl (fun e => nomatch e) (fun ad e => by cases e; exact HR2.out) (by simp) (by simp; omega) ?_; intro v2 w2 hl2 hg2 hb2; have hl2 := hideIt hl2; have hg2 : Hid (((w1.alloc (.cells (madeCells zero6 (q * 6)) 25)).alloc (.cells #[.int .i64 id, .int .i64 r, .slice (some ⟨w1.heap.size, 0, none⟩) q q] 98)).grownBy w2 v1.ownBlock) := hideIt hg2; have hb2 : Hid (v2.ownBlock = v1.ownBlock ∨ v2.ownBlock = some (w1.heap.size + 1 + 1)) := hideIt (by simpa using hb2))
  have hown1 := hl1.out
  have hv1 : ∀ k, v1.ownBlock = some k → w0.heap.size ≤ k ∧ k < w1.heap.size := World.ownsRow.lt hown1
  have G2 : w0.grownBy w2 none := gbNews' (gbTrans (gbAny (gbTrans (gbAlloc w1 _ none) (gbAlloc _ _ _)) _) hg2.out) G1 (fun k e => (hv1 k e).1)
  have HC3 : Hid (CapsAt w2 w1.heap.size ⟨r, fun _ => C.zero⟩) := hideIt (HC2.out.fr (O := fun i => v1.ownBlock = some i) ⟨hg2.out.os, hg2.out.tape, hg2.out.output, hg2.out.size, fun i hi ho => hg2.out.block i hi (fun e => ho e.symm)⟩ (fun e => by have := (hv1 _ e).2; omega))
  have hc3 := G2.cell hc (by simp)
  have hf3 : Hid (w2.frozen? ⟨p, 0, none⟩ = false) := hideIt ((gbFrozen G2 hpp.out (by simp)).trans hpf.out)
  have hsz2 : w0.heap.size ≤ w2.heap.size := G2.size
  go_wp2_with (at_builtin; refine wpList_append3 rfl (.tmp 68) (.tmp 74) rfl w0.heap.size v2 _ rfl hl2.out none 0 _ [] rfl rfl (fun _ => rfl) (fun ad e => nomatch e) (by simp) hsz2 ?_; intro v3 w3 hl3 hg3 hb3; have hl3 := hideIt hl3; have hg3 := hideIt hg3; have hc4 := Hid.out (hideIt (cellKept hg3.out hc3 (fun e => by have := (World.ownsRow.lt hl2.out p e).1; have := hpp.out; omega))); have hf4 := (gbFrozen hg3.out (World.block_lt_of_cell? w2 _ hc3) (fun e => by have := (World.ownsRow.lt hl2.out p e.symm).1; have := hpp.out; omega)).trans hf3.out; obtain ⟨g3, len3, cap3, rfl⟩ := formSome hl3.out (by simp))
  have G3 : w0.grownBy w3 none := gbNews' hg3.out G2 (fun k e => (World.ownsRow.lt hl2.out k e).1)
  have HC4 : Hid (CapsAt w3 w1.heap.size ⟨r, fun _ => C.zero⟩) := hideIt (HC3.out.fr (O := fun i => v2.ownBlock = some i) ⟨hg3.out.os, hg3.out.tape, hg3.out.output, hg3.out.size, fun i hi ho => hg3.out.block i hi (fun e => ho e.symm)⟩ (fun e => by
    rcases hb2.out with h | h
    · rw [h] at e; have := (hv1 _ e).2; omega
    · rw [h] at e; have := Option.some.inj e; omega))
  go_ret
  exact ⟨rfl, 0, w1.heap.size, _, w3, by simp, by simp, hl3.out, HC4.out, by omega, G3, rfl⟩

theorem cells_set {w : World} {p : Nat} {u0 : Value} {t : TypeId} (h : w.heap[p]? = some (.cells #[u0, u] t)) (v : Value) : (w.setCell ⟨p, 0, none⟩ v).heap[p]? = some (.cells #[v, u] t) := by
  simp [World.setCell, Array.getElem?_modify, h]

/-- The list has one node more. -/
theorem RAt.laid {w w' W3 : World} {p c hh r : Nat} {v v3 : Value} {l : List RE} {S : St} {O : Nat → Prop} {id : Int} (h : RA u w p v l S) (hs : S id = none) (L : Laid3 w w' p l id r c hh v3 W3) (op : O p) (oh : ∀ e ∈ l, O e.h) :
    RAt u w' p (fun i => O i ∨ (w.heap.size ≤ i ∧ i < w'.heap.size)) (fun j => if j = id then some ⟨r, fun _ => C.zero⟩ else S j) ∧ Fr O w w' := by
  obtain ⟨lo, hi, ls, caps, new, gr, set⟩ := L
  have hpl := h.plt
  have g4 : W3.grownBy w' (some p) := by rw [set]; exact gbSetCell _ _ _ _
  have F4 : Fr (fun i => i = p) W3 w' := Fr.at g4 rfl
  have h3 := h.kept gr
  have mem : ∀ e, e ∈ (l.take c ++ [(⟨id, r, hh⟩ : RE)]) ++ l.drop c → e = ⟨id, r, hh⟩ ∨ e ∈ l := by
    intro e he
    rcases List.mem_append.1 he with he | he
    · rcases List.mem_append.1 he with he | he
      · exact .inr (List.mem_of_mem_take he)
      · simp at he; exact .inl he
    · exact .inr (List.mem_of_mem_drop he)
  have memBack : ∀ e ∈ l, e ∈ (l.take c ++ [(⟨id, r, hh⟩ : RE)]) ++ l.drop c := by
    intro e he
    rw [← List.take_append_drop c l] at he
    rcases List.mem_append.1 he with he | he
    · exact List.mem_append.2 (.inl (List.mem_append.2 (.inl he)))
    · exact List.mem_append.2 (.inr he)
  have hlt3 : W3.heap.size ≤ w'.heap.size := g4.size
  have hhl : ∀ e ∈ l, e.h < w.heap.size := fun e he => by obtain ⟨d, _, _, N⟩ := h.node e he; exact N.lt
  have srt : ((l.take c ++ [(⟨id, r, hh⟩ : RE)]) ++ l.drop c).Pairwise (fun a b => a.id < b.id) := by
    refine List.pairwise_append.2 ⟨List.pairwise_append.2 ⟨h.srt.sublist (List.take_sublist _ _), by simp, ?_⟩, h.srt.sublist (List.drop_sublist _ _), ?_⟩
    · intro a ha b hb; simp at hb; subst hb; exact lo a ha
    · intro a ha b hb
      rcases List.mem_append.1 ha with ha | ha
      · have := lo a ha; have := hi b hb; omega
      · simp at ha; subst ha; exact hi b hb
  have hnd : ((l.take c ++ [(⟨id, r, hh⟩ : RE)]) ++ l.drop c).Pairwise (fun a b => a.h ≠ b.h) := by
    have hsp := h.hnd
    rw [← List.take_append_drop c l] at hsp
    obtain ⟨p1, p2, p3⟩ := List.pairwise_append.1 hsp
    refine List.pairwise_append.2 ⟨List.pairwise_append.2 ⟨p1, by simp, ?_⟩, p2, ?_⟩
    · intro a ha b hb; simp at hb; subst hb
      have := hhl a (List.mem_of_mem_take ha)
      show a.h ≠ hh
      omega
    · intro a ha b hb
      rcases List.mem_append.1 ha with ha | ha
      · exact p3 a ha b hb
      · simp at ha; subst ha
        have := hhl b (List.mem_of_mem_drop hb)
        show hh ≠ b.h
        omega
  have hv3 : ∀ k, v3.ownBlock = some k → w.heap.size ≤ k ∧ k < W3.heap.size := World.ownsRow.lt ls
  refine ⟨⟨v3, _, ⟨?_, (ls.fr F4 (fun b hb e => by have := (hv3 b hb).1; omega)).low, srt, ?_, ?_, hnd⟩, .inl op, fun k hk => .inr ⟨(hv3 k hk).1, Nat.lt_of_lt_of_le (hv3 k hk).2 hlt3⟩, ?_⟩, (Fr.grown gr).trans (Fr.at g4 op)⟩
  · rw [set]; exact cells_set h3.box v3
  · intro e he
    rcases mem e he with rfl | he
    · exact ⟨_, if_pos rfl, rfl, caps.fr F4 (fun e => by omega)⟩
    · obtain ⟨d, h1, h2, N⟩ := h3.node e he
      have hne : e.id ≠ id := fun e2 => h.noId hs e he e2
      exact ⟨d, by rw [if_neg hne]; exact h1, h2, N.fr F4 (h3.hp he)⟩
  · intro j hj
    have h1 : id ≠ j := hj ⟨id, r, hh⟩ (by simp)
    rw [if_neg (fun e => h1 e.symm)]
    exact h.gone j (fun e he => hj e (memBack e he))
  · intro e he
    rcases mem e he with rfl | he
    · exact .inr ⟨new, Nat.lt_of_lt_of_le caps.lt hlt3⟩
    · exact .inl (oh e he)

theorem RAt.more {w : World} {p : Nat} {O : Nat → Prop} {S : St} (h : RAt u w p O S) : RAt u w p (fun i => O i ∨ (w.heap.size ≤ i ∧ i < w.heap.size)) S := h.mono (fun i hi => .inl hi)

theorem M.radW2 (r : Nat) (h1 : 1 ≤ r) (h4 : r ≤ 4) : wrap64 (2 ^ r) = ((2 ^ r : Nat) : Int) ∧ 2 ^ r ≤ 16 := by
  have : r = 1 ∨ r = 2 ∨ r = 3 ∨ r = 4 := by omega
  rcases this with rfl | rfl | rfl | rfl <;> exact ⟨by decide +kernel, by decide⟩

theorem radd_is {w : World} {p : Nat} {O : Nat → Prop} {S : St} (h : RAt u w p O S) (G : Good S) (id r e : Int) (he : M.addE S id r = e) :
    Calls Tryz.prog 30 #[.pointer (some ⟨p, 0, none⟩), .int .i64 id, .int .i64 r] w fun x w' => x = .returned (.int .i64 e) ∧ RAt u w' p (fun i => O i ∨ (w.heap.size ≤ i ∧ i < w'.heap.size)) (M.addS S id r) ∧ Fr O w w' := by
  subst he
  have H := h
  obtain ⟨v, l, h, op, og, oh⟩ := h
  cases hB : M.inB id r
  · have e : M.addE S id r = 1 := by unfold M.addE; rw [hB]; rfl
    have es : M.addS S id r = S := by unfold M.addS; rw [if_neg (by rw [e]; decide)]
    rw [e, es]
    refine (radd_range w p id r ?_).mono ?_
    · simp only [M.inB, Bool.and_eq_false_iff, decide_eq_false_iff_not] at hB; omega
    · rintro x w' ⟨rfl, rfl⟩; exact ⟨rfl, H.more, Fr.refl _ _⟩
  · obtain ⟨i0, i1, n, rfl, n1, n4⟩ := M.inB_yes hB
    cases hs : S id with
    | some d =>
      obtain ⟨j, x, hj, rfl, hr, _⟩ := h.has hs
      have e : M.addE S x.id n = 4 := by unfold M.addE; rw [hB, hs]; rfl
      have es : M.addS S x.id n = S := by unfold M.addS; rw [if_neg (by rw [e]; decide)]
      rw [e, es]
      refine (radd_twice w p j x.id n (by omega) (by omega) (by omega) (by omega) (at_some h G hj)).mono ?_
      rintro y w' ⟨rfl, rfl⟩; exact ⟨rfl, H.more, Fr.refl _ _⟩
    | none =>
      have e : M.addE S id n = 0 := by unfold M.addE; rw [hB, hs]; rfl
      have es : M.addS S id n = fun j => if j = id then some ⟨n, fun _ => C.zero⟩ else S j := by unfold M.addS; rw [if_pos e]; simp
      rw [e, es]
      obtain ⟨hq, hq16⟩ := M.radW2 n n1 n4
      have hA := at_none h G id hs
      have hlen := h.len G
      have ls := h.ls
      rcases ls.form with ⟨rfl, rfl⟩ | ⟨g, cap, rfl, hcap, _, _, hcap2⟩
      · refine (radd_none (hideIt h) id n _ (by omega) (by omega) (by omega) (by omega) hq hq16 (hideIt rfl) hA).mono ?_
        rintro x w' ⟨rfl, c, hh, v3, W3, L⟩
        exact ⟨rfl, RAt.laid h hs L op oh⟩
      · refine (radd_some (hideIt h) (hideIt rfl) hlen id n _ (by omega) (by omega) (by omega) (by omega) (hideIt hs) hq hq16 (hideIt rfl) (hideIt ⟨hcap, hcap2⟩) hA).mono ?_
        rintro x w' ⟨rfl, c, hh, v3, W3, L⟩
        exact ⟨rfl, RAt.laid h hs L op oh⟩

end Go.Proofs.YtdnoidnpiaadaaaGreat
