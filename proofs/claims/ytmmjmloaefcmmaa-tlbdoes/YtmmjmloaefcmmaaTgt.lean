/-
  A TLB IN MEMORY; THE CONTRACTS of package tlb's New, Len, isSpace, isPage and Get.
-/
import Derived.Test.YtmmjmloaefcmmaaKls
import Derived.Deep.LoopGhost
import Derived.Deep.Cut
namespace Go.Proofs.Ytmmjmloaefcmmaa
set_option maxRecDepth 10000
open Go.RowKit
set_option linter.unusedVariables false

/-- A Tlb: its block t, and the list's own one, are among O, which was not there for w0; nothing else has turned since. -/
structure Tb (ty tk : TypeId) (w0 w : World) (O : Nat → Prop) (t : Nat) (L : List K) : Prop where
  ex : ∃ v, w.heap[t]? = some (.cells #[v] ty) ∧ KL tk w w0.heap.size v L ∧ ∀ k, v.ownBlock = some k → O k ∧ k ≠ t
  ot : O t
  lo : ∀ i, O i → w0.heap.size ≤ i ∧ i < w.heap.size
  gr : w0.grownBy w none
  gd : Good L
section
variable {ty tk : TypeId} {w0 w w' : World} {O : Nat → Prop} {t : Nat} {L L' : List K}
theorem Tb.tlt (h : Tb ty tk w0 w O t L) : t < w.heap.size := (h.lo t h.ot).2
theorem Tb.kept (h : Tb ty tk w0 w O t L) (g : w.grownBy w' none) : Tb ty tk w0 w' O t L := by
  obtain ⟨v, h1, h2, h3⟩ := h.ex
  exact ⟨⟨v, (g.block t h.tlt (by simp)).trans h1, h2.kept g, h3⟩, h.ot, fun i hi => ⟨(h.lo i hi).1, Nat.lt_of_lt_of_le (h.lo i hi).2 g.size⟩, gbTrans h.gr g, h.gd⟩
/-- Other blocks turned, none older than w0. -/
theorem Tb.fr {R : Nat → Prop} (h : Tb ty tk w0 w O t L) (F : Fr R w w') (hd : ∀ i, O i → ¬ R i) (hl : ∀ i, R i → w0.heap.size ≤ i) : Tb ty tk w0 w' O t L := by
  obtain ⟨v, h1, h2, h3⟩ := h.ex
  exact ⟨⟨v, (F.block t h.tlt (hd t h.ot)).trans h1, h2.fr F (fun k hk => hd k (h3 k hk).1), h3⟩, h.ot, fun i hi => ⟨(h.lo i hi).1, Nat.lt_of_lt_of_le (h.lo i hi).2 F.size⟩, F.since h.gr hl, h.gd⟩
theorem Tb.keep {x : Nat} (h : Tb ty tk w0 w O t L) (g : w.grownBy w' (some x)) (hx : ¬ O x) (hl : w0.heap.size ≤ x) : Tb ty tk w0 w' O t L :=
  h.fr (R := fun i => i = x) (Fr.at g rfl) (fun i hi e => hx (e ▸ hi)) (fun i e => e ▸ hl)
theorem Tb.mono {O' : Nat → Prop} (h : Tb ty tk w0 w O t L) (ho : ∀ i, O i → O' i) (hl : ∀ i, O' i → w0.heap.size ≤ i ∧ i < w.heap.size) : Tb ty tk w0 w O' t L := by
  obtain ⟨v, h1, h2, h3⟩ := h.ex
  exact ⟨⟨v, h1, h2, fun k hk => ⟨ho k (h3 k hk).1, (h3 k hk).2⟩⟩, ho t h.ot, hl, h.gr, h.gd⟩
theorem Tb.wide (h : Tb ty tk w0 w O t L) (g : w.grownBy w' none) : Tb ty tk w0 w' (wide O w w') t L := by
  have := h.gr.size
  refine (h.kept g).mono (fun i hi => .inl hi) (fun i hi => ?_)
  rcases hi with hi | hi
  · exact (h.kept g).lo i hi
  · omega
/-- What a call of it leaves. -/
theorem Tb.turn {v v' : Value} (h : Tb ty tk w0 w O t L) (F : Fr O w w') (h1 : w'.heap[t]? = some (.cells #[v'] ty)) (h2 : KL tk w' w0.heap.size v' L') (h3 : ∀ k, v'.ownBlock = some k → k ≠ t ∧ (O k ∨ w.heap.size ≤ k)) (g : Good L') : Tb ty tk w0 w' (Go.Proofs.Ytmmjmloaefcmmaa.wide O w w') t L' := by
  have hs := h.gr.size
  refine ⟨⟨v', h1, h2, fun k hk => ⟨?_, (h3 k hk).1⟩⟩, .inl h.ot, fun i hi => ?_, F.since h.gr (fun i hi => (h.lo i hi).1), g⟩
  · rcases (h3 k hk).2 with e | e
    · exact .inl e
    · exact .inr ⟨e, (h2.lt k hk).2⟩
  · rcases hi with hi | hi
    · exact ⟨(h.lo i hi).1, Nat.lt_of_lt_of_le (h.lo i hi).2 F.size⟩
    · omega
end
/-- The program's Tlb. -/
abbrev Tp (w0 w : World) (O : Nat → Prop) (t : Nat) (L : List K) : Prop := Tb 79 92 w0 w O t L
/-- The document's. -/
abbrev Tr (w0 w : World) (O : Nat → Prop) (t : Nat) (L : List K) : Prop := Tb 33 95 w0 w O t L

abbrev kv (k : K) : Value := .agg #[.int .i64 k.s, .int .i64 k.p, .bool k.e.v, .bool k.e.w, .int .i64 k.e.a]
abbrev pv (s p : Int) : Value := .agg #[.int .i64 s, .int .i64 p]
theorem cellOf {w : World} {t : Nat} {v : Value} {ty : TypeId} (h : w.heap[t]? = some (.cells #[v] ty)) : w.cell? ⟨t, 0, none⟩ = some v := by simp [World.cell?, h]
theorem frozenOf {w : World} {t : Nat} {v : Value} {ty : TypeId} (h : w.heap[t]? = some (.cells #[v] ty)) (i : Nat) : w.frozen? ⟨t, i, none⟩ = false := by simp [World.frozen?, h]

/-! ### Pages held against one another -/
def M.seq (a0 a1 b0 b1 : Int) : Bool := a0 == b0 && a1 == b1
theorem run_equal_pl (w : World) (a0 a1 b0 b1 : Int) : (Op.equalIn 10000 90 (.agg #[.int .i64 a0, .int .i64 a1]) (.agg #[.int .i64 b0, .int .i64 b1])).run Try.prog w = .ok (M.seq a0 a1 b0 b1) w := by
  rw [run_equalIn_agg w 9999 90 _ _ (by kernel_rfl) (by kernel_rfl)]
  simp only [go_sem, Program.fieldsOf, Try.underlying90]
  by_cases h0 : a0 = b0
  · by_cases h1 : a1 = b1
    all_goals simp [M.seq, go_sem, Try.underlying3, h0, h1]
  · simp [M.seq, go_sem, Try.underlying3, h0]
theorem run_eql_pl (w : World) (a0 a1 b0 b1 : Int) : (binOp .eql 90 (.agg #[.int .i64 a0, .int .i64 a1]) (.agg #[.int .i64 b0, .int .i64 b1])).run Try.prog w = .ok (.bool (M.seq a0 a1 b0 b1)) w := by
  rw [run_eql_struct, run_equal_pl]; rfl
theorem eqGuard_pl : Try.prog.eqGuardType Try.prog.depth 90 = false := by kernel_rfl

/-! ### isSpace, isPage -/
set_option maxHeartbeats 400000 in
theorem isSpace_is (s : Int) (v : Bool) (h : M.nr s = v) (w : World) : Calls Try.prog 34 #[.int .i64 s] w fun e w' => e = .returned (.bool v) ∧ w' = w := by
  subst h
  by_cases c1 : 0 ≤ s
  · rw [show M.nr s = decide (s < 64) by simp [M.nr, c1]]
    go_enter Try.func34, Try.ntmps34
    go_wp2
    go_ret
    exact ⟨rfl, rfl⟩
  · rw [show M.nr s = false by simp [M.nr, c1]]
    go_enter Try.func34, Try.ntmps34
    go_wp2
    go_ret
    exact ⟨rfl, rfl⟩
set_option maxHeartbeats 400000 in
theorem tisPage_is (s : Int) (v : Bool) (h : M.np s = v) (w : World) : Calls Try.prog 39 #[.int .i64 s] w fun e w' => e = .returned (.bool v) ∧ w' = w := by
  subst h
  by_cases c1 : 0 ≤ s
  · rw [show M.np s = decide (s < 256) by simp [M.np, c1]]
    go_enter Try.func39, Try.ntmps39
    go_wp2
    go_ret
    exact ⟨rfl, rfl⟩
  · rw [show M.np s = false by simp [M.np, c1]]
    go_enter Try.func39, Try.ntmps39
    go_wp2
    go_ret
    exact ⟨rfl, rfl⟩

/-! ### New, Len -/
set_option maxHeartbeats 400000 in
theorem tnew_is (w0 w : World) (g : w0.grownBy w none) : Calls Try.prog 9 #[] w fun e w' => ∃ t O, e = .returned (.pointer (some ⟨t, 0, none⟩)) ∧ Tp w0 w' O t [] ∧ w.grownBy w' none ∧ ∀ i, O i → w.heap.size ≤ i := by
  have HS := hideIt g.size
  have G := gbAlloc w (.cells #[.slice none 0 0] 79) none
  have HT : Hid (Tp w0 (w.alloc (.cells #[.slice none 0 0] 79)) (fun i => i = w.heap.size) w.heap.size []) := hideIt
    ⟨⟨.slice none 0 0, heap_alloc_new w _, KL.nil _ _ _, fun k hk => by cases hk⟩, rfl, fun i hi => by subst hi; exact ⟨HS.out, by simp⟩, gbTrans g G, Good.nil⟩
  clear g
  go_enter Try.func9, Try.ntmps9
  go_wp2
  go_ret
  exact ⟨_, _, rfl, HT.out, G, fun i hi => by rw [hi]; exact Nat.le_refl _⟩
set_option maxHeartbeats 400000 in
theorem tlen_at (w : World) (t n cap : Nat) (x : Option Addr) (hc : w.cell? ⟨t, 0, none⟩ = some (.slice x n cap)) : Calls Try.prog 24 #[.pointer (some ⟨t, 0, none⟩)] w fun e w' => e = .returned (.int .i64 n) ∧ w' = w := by
  go_enter Try.func24, Try.ntmps24
  go_wp2
  go_ret
  exact ⟨rfl, rfl⟩
theorem Tb.sliceAt {ty tk : TypeId} {w0 w : World} {O : Nat → Prop} {t : Nat} {L : List K} (h : Tb ty tk w0 w O t L) : ∃ x cap, w.cell? ⟨t, 0, none⟩ = some (.slice x L.length cap) := by
  obtain ⟨v, h1, h2, _⟩ := h.ex
  rcases h2.form with ⟨rfl, rfl⟩ | ⟨g, cap, rfl, _⟩
  · exact ⟨_, _, cellOf h1⟩
  · exact ⟨_, _, cellOf h1⟩
theorem tlen_is {w0 w : World} {O : Nat → Prop} {t n : Nat} {L : List K} (h : Tp w0 w O t L) (hn : L.length = n) : Calls Try.prog 24 #[.pointer (some ⟨t, 0, none⟩)] w fun e w' => e = .returned (.int .i64 n) ∧ w' = w := by
  obtain ⟨x, cap, hc⟩ := h.sliceAt
  rw [hn] at hc
  exact tlen_at w t n cap x hc

/-! ### Get -/
theorem M.kg_drop {L : List K} {s p : Int} {i : Nat} {k : K} (h : L[i]? = some k) : M.kg (L.drop i) s p = if M.seq k.s k.p s p then (k.e, true) else M.kg (L.drop (i + 1)) s p := by
  have hi := (List.getElem?_eq_some_iff.1 h)
  obtain ⟨h1, h2⟩ := hi
  rw [List.drop_eq_getElem_cons h1, h2]
  unfold M.kg
  rw [List.find?_cons]
  have : M.here s p k = M.seq k.s k.p s p := rfl
  rw [this]
  cases M.seq k.s k.p s p <;> simp
theorem M.kg_end {L : List K} {s p : Int} {i : Nat} (h : L.length ≤ i) : M.kg (L.drop i) s p = (E.zero, false) := by
  rw [List.drop_eq_nil_of_le h]; rfl

set_option maxHeartbeats 1000000 in
theorem get_nil (w : World) (t cap : Nat) (x : Option Addr) (hc : w.cell? ⟨t, 0, none⟩ = some (.slice x 0 cap)) (s p : Int) :
    Calls Try.prog 21 #[.pointer (some ⟨t, 0, none⟩), .int .i64 s, .int .i64 p] w fun e w' => e = .returned (.tuple #[ev E.zero, .bool false]) ∧ w.grownBy w' none := by
  have X0 : Box (w.alloc (.cells #[.bool false, .bool false, .int .i64 0] 44)) w.heap.size E.zero := Box.made w E.zero _
  have G0 := gbAlloc w (.cells #[.bool false, .bool false, .int .i64 0] 44) none
  have hc1 := G0.cell hc (by simp)
  obtain ⟨a0, a1, a2, lt, fr⟩ := X0
  simp only at a0 a1 a2
  have f0 := fr 0
  have f1 := fr 1
  have f2 := fr 2
  go_enter Try.func21, Try.ntmps21
  go_wp2
  go_loopg [15] 0 (fun g i wr => i = .int .i64 0 ∧ wr = w.alloc (.cells #[.bool false, .bool false, .int .i64 0] 44))
  case atStart => exact ⟨rfl, rfl⟩
  case round =>
    obtain ⟨rfl, rfl⟩ := hrel
    go_wp2
    exact bodyPost_ret (v := .tuple #[ev E.zero, .bool false]) (by simp [results, Try.results21, go_sem, a0, a1, a2]) rfl ⟨rfl, by repeat (first | with_reducible exact G0 | refine gbDrew ?_ | refine gbSetNew ?_ _ _ _ (by omega))⟩

set_option maxHeartbeats 1000000 in
theorem get_some (w : World) (t g n cap B : Nat) (L : List K) (hc : w.cell? ⟨t, 0, none⟩ = some (.slice (some ⟨g, 0, none⟩) n cap)) (hl : KL 92 w B (.slice (some ⟨g, 0, none⟩) n cap) L) (hn : L.length = n) (h8 : n ≤ 1000) (s p : Int) (e : E) (o : Bool) (h : M.kg L s p = (e, o)) :
    Calls Try.prog 21 #[.pointer (some ⟨t, 0, none⟩), .int .i64 s, .int .i64 p] w fun x w' => x = .returned (.tuple #[ev e, .bool o]) ∧ w.grownBy w' none := by
  have X0 : Box (w.alloc (.cells #[.bool false, .bool false, .int .i64 0] 44)) w.heap.size E.zero := Box.made w E.zero _
  have G0 := gbAlloc w (.cells #[.bool false, .bool false, .int .i64 0] 44) none
  have hc1 := G0.cell hc (by simp)
  have hl1 := hideIt (hl.kept G0)
  have qe := eqGuard_pl
  have qn := run_eql_pl
  have HH := hideIt h
  have hn := hideIt hn
  obtain ⟨w1, hw1⟩ : ∃ w1, w.alloc (.cells #[.bool false, .bool false, .int .i64 0] 44) = w1 := ⟨_, rfl⟩
  rw [hw1] at X0 G0 hc1 hl1
  clear h hl hc
  go_enter Try.func21, Try.ntmps21
  go_wp2
  clear hw1
  go_loopg [15] n (fun gk i wr => ∃ j : Nat, j + gk = n ∧ i = .int .i64 j ∧ w1.grownBy wr none ∧ Hid (M.kg (L.drop j) s p = (e, o)))
  case atStart => exact ⟨0, by omega, rfl, gbRefl _ _, HH⟩
  case round =>
    obtain ⟨j, hj, rfl, gw, hg⟩ := hrel
    clear hc1
    by_cases hlt : j < n
    · obtain ⟨k, hk⟩ : ∃ k, L[j]? = some k := ⟨L[j]'(by rw [hn.out]; exact hlt), List.getElem?_eq_getElem _⟩
      obtain ⟨k0, k1, k2, k3, k4, _, _⟩ := (hl1.out.kept gw).el hn.out j k hk
      have hd := hideIt (M.kg_drop (s := s) (p := p) hk)
      go_upto_region 4 with fail
      obtain ⟨W, hW, Y, gY⟩ := kelNew wr k 92
      rw [hW]
      clear hW
      have XW := (X0.kept gw).kept gY
      have GW := gbTrans (gbTrans G0 gw) gY
      have lw : w.heap.size < wr.heap.size := (X0.kept gw).lt
      have nb : ¬ w.heap.size = wr.heap.size := by omega
      obtain ⟨y0, y1, y2, y3, y4, yl, yf⟩ := Y
      obtain ⟨a0, a1, a2, lt, fr⟩ := XW
      simp only at a0 a1 a2
      have f0 := fr 0
      have f1 := fr 1
      have f2 := fr 2
      have hg := hg.out
      have hd := hd.out
      rw [hd] at hg
      clear hd k0 k1 k2 k3 k4
      by_cases hs : M.seq k.s k.p s p = true
      · rw [if_pos hs] at hg
        simp only [Prod.mk.injEq] at hg
        obtain ⟨rfl, rfl⟩ := hg
        go_wp2
        exact bodyPost_ret (v := .tuple #[ev k.e, .bool true]) (by simp [results, Try.results21, go_sem, a0, a1, a2]) rfl ⟨rfl, by repeat (first | with_reducible exact GW | refine gbDrew ?_ | refine gbSetNew ?_ _ _ _ (by omega))⟩
      · rw [if_neg hs] at hg
        have hs : M.seq k.s k.p s p = false := by simpa using hs
        have hg := hideIt hg
        go_wp2
        go_roundg (gk - 1)
        case rel => exact ⟨j + 1, by omega, by go_num, gbTrans gw gY, hg⟩
        case measure => omega
    · have hg := hg.out
      rw [M.kg_end (by rw [hn.out]; omega)] at hg
      simp only [Prod.mk.injEq] at hg
      obtain ⟨rfl, rfl⟩ := hg
      obtain ⟨a0, a1, a2, lt, fr⟩ := X0.kept gw
      have GW := gbTrans G0 gw
      simp only at a0 a1 a2
      have f0 := fr 0
      have f1 := fr 1
      have f2 := fr 2
      go_wp2
      exact bodyPost_ret (v := .tuple #[ev E.zero, .bool false]) (by simp [results, Try.results21, go_sem, a0, a1, a2]) rfl ⟨rfl, by repeat (first | with_reducible exact GW | refine gbDrew ?_ | refine gbSetNew ?_ _ _ _ (by omega))⟩

theorem get_is {w0 w : World} {O : Nat → Prop} {t : Nat} {L : List K} (h : Tp w0 w O t L) (s p : Int) (e : E) (o : Bool) (hg : M.kg L s p = (e, o)) :
    Calls Try.prog 21 #[.pointer (some ⟨t, 0, none⟩), .int .i64 s, .int .i64 p] w fun x w' => x = .returned (.tuple #[ev e, .bool o]) ∧ w.grownBy w' none := by
  obtain ⟨v, h1, h2, _⟩ := h.ex
  rcases h2.form with ⟨rfl, rfl⟩ | ⟨g, cap, rfl, _⟩
  · have hg' : (E.zero, false) = (e, o) := hg
    simp only [Prod.mk.injEq] at hg'
    obtain ⟨rfl, rfl⟩ := hg'
    exact get_nil w t 0 none (cellOf h1) s p
  · exact get_some w t g _ cap _ L (cellOf h1) h2 rfl (by have := h.gd.len; omega) s p e o hg
end Go.Proofs.Ytmmjmloaefcmmaa
