/-
  THE CONTRACT of the document's side: donjonref11's step.
-/
import Derived.Test.YtdnoidnpiaadaaaGreatH5
import Derived.Test.YtdnoidnpiaadaaaGreatG21
import Derived.Deep.CutRange
import Derived.Test.YtdnoidnpiaadaaaGreatH4
namespace Go.Proofs.YtdnoidnpiaadaaaGreat
set_option maxRecDepth 10000
open Go.RowKit
set_option linter.unusedVariables false

/-- A list of capabilities that the parts do not have. -/
structure CT (wc : World) (Oc : Nat → Prop) (B : Nat) (v : Value) (T : List C) : Prop where
  tl : TL wc B v T
  no : ∀ k, v.ownBlock = some k → ¬ Oc k
namespace CT
variable {wc wd : World} {Oc : Nat → Prop} {B : Nat} {v : Value} {T : List C}
theorem kept (h : CT wc Oc B v T) (g : wc.grownBy wd none) : CT wd Oc B v T := ⟨h.tl.kept g, h.no⟩
theorem call (h : CT wc Oc B v T) (F : Fr Oc wc wd) : CT wd (wide Oc wc wd) B v T := ⟨h.tl.fr F h.no, fun k hk => wideNo (h.no k hk) (h.tl.lt k hk).2⟩
end CT

/-- From w on: the document's parts, and what was written besides (O'). -/
structure Ws (w0 w wc : World) (O' O Oc : Nat → Prop) (q : Nat) (S : St) (f : T9.Fo) : Prop where
  rc : Rc w0 wc Oc q S f
  fr : Fr O' w wc
  sub : ∀ i, Oc i → O i ∨ w.heap.size ≤ i
  inn : ∀ i, O i → O' i
namespace Ws
variable {w0 w wc wd : World} {O' O Oc : Nat → Prop} {q : Nat} {S S' : St} {f f' : T9.Fo}
theorem kept (h : Ws w0 w wc O' O Oc q S f) (g : wc.grownBy wd none) : Ws w0 w wd O' O Oc q S f := ⟨h.rc.kept g, h.fr.trans (Fr.grown g), h.sub, h.inn⟩
theorem call (h : Ws w0 w wc O' O Oc q S f) (A : Rc w0 wd (wide Oc wc wd) q S' f') (F : Fr Oc wc wd) : Ws w0 w wd O' O (wide Oc wc wd) q S' f' := by
  refine ⟨A, h.fr.join F (fun i hi k => ?_), fun i hi => ?_, h.inn⟩
  · rcases h.sub i k with e | e
    · exact h.inn i e
    · omega
  · rcases hi with e | e
    · exact h.sub i e
    · have := h.fr.size; exact .inr (by omega)
/-- A block of others is written. -/
theorem put {v : Value} (h : Ws w0 w wc O' O Oc q S f) (g : wc.grownBy wd v.ownBlock) (hx : ∀ k, v.ownBlock = some k → ¬ Oc k ∧ w0.heap.size ≤ k ∧ (O' k ∨ w.heap.size ≤ k)) : Ws w0 w wd O' O Oc q S f := by
  cases e : v.ownBlock with
  | none => rw [e] at g; exact h.kept g
  | some x =>
    rw [e] at g
    obtain ⟨h1, h2, h3⟩ := hx x e
    refine ⟨h.rc.keep g h1 h2, h.fr.join (Fr.at (O := fun i => i = x) g rfl) (fun i hi k => ?_), h.sub, h.inn⟩
    subst k
    exact h3.resolve_right (by omega)
theorem out (h : Ws w0 w wc O' O Oc q S f) {x : Nat} (hx : wc.heap.size ≤ x) : ¬ Oc x := fun e => by have := (h.rc.lo x e).2; omega
end Ws

/-- What a step leaves. -/
structure Stp (w0 w w' : World) (O : Nat → Prop) (tv tv' : Value) (q : Nat) (S : St) (f : T9.Fo) (T : List C) (Oc : Nat → Prop) : Prop where
  ws : Ws w0 w w' (fun i => O i ∨ tv.ownBlock = some i) O Oc q S f
  ct : CT w' Oc w0.heap.size tv' T
  bl : ∀ k, tv'.ownBlock = some k → tv.ownBlock = some k ∨ w.heap.size ≤ k

set_option maxHeartbeats 4000000 in
theorem Rc.step11 {w0 w : World} {O : Nat → Prop} {q : Nat} {S : St} {f : T9.Fo} (h : Rc w0 w O q S f) (I : M.Inv S f) (tv : Value) (T : List C) (ht : CT w O w0.heap.size tv T) (a c k o r b g u : Int) (fi nd : Bool) (hm : f.len ≤ 60) (hT : T.length ≤ 2000)
    (hg : Hid (M.gc S (a, c) = ⟨k, o, r, b, g, u⟩)) (hk : Hid (k ≠ 0)) (hf : M.fin S (a, c) = fi) (hnd : (k == 2) = nd) :
    Calls Tryz.prog 70 #[.pointer (some ⟨q, 0, none⟩), sv a c, tv] w fun e w' => ∃ tv' Oc, e = .returned tv' ∧ Stp w0 w w' O tv tv' q (if fi && nd then M.dropS (M.takS S (a, c)) o else M.takS S (a, c)) (M.takF S f (a, c)) (if fi then T ++ [⟨k, o, r, b, g, u⟩] else T) Oc := by
  have hw0 := h.gr.size
  have hC : M.srcC S (a, c) = ⟨k, o, r, b, g, u⟩ := (M.srcC_ok (M.srcE_yes (by rw [hg.out]; exact hk.out))).trans hg.out
  have he : M.srcE S (a, c) = 0 := M.srcE_yes (by rw [hg.out]; exact hk.out)
  have HT := hideIt ht
  have HH := hideIt h
  clear h ht
  go_enter Tryz.func70, Tryz.ntmps70
  go_upto_region 1 with fail
  obtain ⟨W, hW, X0, g0⟩ := sboxNew w a c
  rw [hW]
  clear hW
  have HW : Hid (Ws w0 w W (fun i => O i ∨ tv.ownBlock = some i) O O q S f) := ⟨HH.out.kept g0, Fr.grown g0, fun i hi => .inl hi, fun i hi => .inl hi⟩
  have HX : Hid (SB W O w.heap.size a c) := ⟨X0, fun e => by have := (HH.out.lo _ e).2; omega⟩
  have HT0 := hideIt (HT.out.kept g0)
  clear X0 g0
  obtain ⟨x0, x1⟩ := HX.out.sb.tup
  go_wp2_with fail
  refine (HW.out.rc.final a c fi hf).mono ?_
  rintro _ w1 ⟨rfl, g1⟩
  clear x0 x1
  have HW1 := hideIt (HW.out.kept g1)
  have HX1 := hideIt (HX.out.kept g1)
  have HT1 := hideIt (HT0.out.kept g1)
  clear HW HX HT0 g1
  obtain ⟨x0, x1⟩ := HX1.out.sb.tup
  go_wp2_with fail
  refine (HW1.out.rc.takeA I a c k o r b g u 0 hm hC he).mono ?_
  rintro _ w2 ⟨rfl, A2, F2⟩
  clear x0 x1
  have HW2 := hideIt (HW1.out.call A2 F2)
  have HT2 := hideIt (HT1.out.call F2)
  clear HW1 HX1 HT1 A2 F2 hC he
  go_upto_region 3 with fail
  obtain ⟨V, hV, Z2, g2⟩ := boxNew w2 ⟨k, o, r, b, g, u⟩
  simp only at hV
  rw [hV]
  clear hV
  have HZ : Hid (BB V _ w2.heap.size ⟨k, o, r, b, g, u⟩) := ⟨Z2, HW2.out.out (Nat.le_refl _)⟩
  have HW3 := hideIt (HW2.out.kept g2)
  have HT3 := hideIt (HT2.out.kept g2)
  have hZw := hideIt HW2.out.fr.size
  clear HW2 HT2 Z2 g2
  cases fi
  · go_wp2
    go_ret
    exact ⟨_, rfl, _, ⟨HW3.out, HT3.out, fun k hk => .inl hk⟩⟩
  · have hsz : V.heap.size < (V.alloc (.cells (sixCells ⟨k, o, r, b, g, u⟩) 25)).heap.size := by rw [Deep.nblk_alloc]; exact Nat.lt_succ_self _
    have hB : w0.heap.size ≤ (V.alloc (.cells (sixCells ⟨k, o, r, b, g, u⟩) 25)).heap.size := by
      have := hZw.out
      have := HZ.out.bx.lt
      omega
    have gA := gbAlloc V (.cells (sixCells ⟨k, o, r, b, g, u⟩) 25) none
    obtain ⟨v5, w5, hr5, l5, g5, o5⟩ := run_append_caps (V.alloc (.cells (sixCells ⟨k, o, r, b, g, u⟩) 25)) w0.heap.size tv T (HT3.out.tl.kept gA) 65 (some ⟨V.heap.size, 0, none⟩) 1 1 [⟨k, o, r, b, g, u⟩] rfl (fun e => (nomatch e)) (fun ad e => by cases e; exact rowCap V _) (by omega) hB
    have hno : ∀ k, tv.ownBlock = some k → k < w.heap.size := fun k hk => (HT.out.tl.lt k hk).2
    have HW5 := hideIt ((HW3.out.kept gA).put g5 (fun k hk => ⟨HT3.out.no k hk, (HT.out.tl.lt k hk).1, .inl (.inr hk)⟩))
    have hZne : ∀ k, tv.ownBlock = some k → w2.heap.size ≠ k := fun k hk e => by have := hno k hk; have := hZw.out; omega
    have HZ5 : Hid (Box w5 w2.heap.size ⟨k, o, r, b, g, u⟩) := by
      cases e : tv.ownBlock with
      | none => rw [e] at g5; exact (HZ.out.bx.kept gA).kept g5
      | some y => rw [e] at g5; exact (HZ.out.bx.kept gA).keep g5 (by simpa using hZne y e)
    have hOc := HZ.out.no
    have HT5 : Hid (CT w5 _ w0.heap.size v5 (T ++ [⟨k, o, r, b, g, u⟩])) := ⟨l5, fun k hk => by
      rcases o5 with e | e
      · rw [e] at hk; exact HT3.out.no k hk
      · rw [e] at hk; cases hk
        exact (HW3.out.kept gA).out (Nat.le_refl _)⟩
    have hbl : Hid (∀ k, v5.ownBlock = some k → tv.ownBlock = some k ∨ w.heap.size ≤ k) := fun k hk => by
      rcases o5 with e | e
      · rw [e] at hk; exact .inl hk
      · rw [e] at hk; cases hk
        have := (HW3.out.kept gA).fr.size
        exact .inr this
    obtain ⟨z0, z1, z2, z3, z4, z5⟩ := HZ.out.bx.tup
    simp only at z0 z1 z2 z3 z4 z5
    clear HH HT hsz hB l5 g5 o5 hno hZne
    go_upto_region 5 with (at_builtin; refine wpList_append_cap rfl (.tmp 20) (.tmp 22) rfl tv (.slice (some ⟨V.heap.size, 0, none⟩) 1 1) rfl rfl v5 w5 hr5 ?_)
    clear z0 z1 z2 z3 z4 z5 hr5 HW3 HT3 HZ gA
    have y0 := HZ5.out.at0
    simp only at y0
    cases nd
    · go_wp2
      go_ret
      exact ⟨_, rfl, _, ⟨HW5.out, HT5.out, hbl.out⟩⟩
    · obtain ⟨e9, h9⟩ : ∃ e, M.dropE (M.takS S (a, c)) o = e := ⟨_, rfl⟩
      go_upto_region 6 with fail
      clear y0
      have T0 : w5.drew.cell? ⟨w2.heap.size, 1, none⟩ = some (.int .i64 o) := (HZ5.out.kept (gbDrewN w5 1 none)).at1
      go_region_held3 (fun w' => w'.cell? ⟨w2.heap.size, 1, none⟩ = some (.int .i64 o))
        (first | with_reducible exact T0 | with_reducible exact T1 | fail)
        ((first | (go_at_call 32; refine ((HW5.out.kept (gbDrewN w5 1 none)).rc.wipe o e9 h9).mono ?_; rintro _ w6 ⟨rfl, A6, F6⟩; have HW6 := hideIt ((HW5.out.kept (gbDrewN w5 1 none)).call A6 F6); have HT6 := hideIt ((HT5.out.kept (gbDrewN w5 1 none)).call F6); have T1 : w6.cell? ⟨w2.heap.size, 1, none⟩ = some (.int .i64 o) := F6.cell (HZ5.out.kept (gbDrewN w5 1 none)).at1 hOc; clear A6 F6) | fail))
      clear T0 T1
      go_wp2
      go_ret
      exact ⟨_, rfl, _, ⟨HW6.out, HT6.out, hbl.out⟩⟩
end Go.Proofs.YtdnoidnpiaadaaaGreat

/-
  THE FIRST SLOT OF A NODE THAT MUST GO AHEAD, PLAINLY; boxes of slots' names that are written. Speaks of no function of the program.
-/
namespace Go.Proofs.YtdnoidnpiaadaaaGreat
set_option maxRecDepth 10000
open Go.RowKit
set_option linter.unusedVariables false

namespace M
def pp (S : St) (L : List (Int × Int)) (s : Int × Int) : Bool := (gc S s).k != 0 && !decide (s ∈ L)
def rowOf16 (o : Int) : List (Int × Int) := (List.range 16).map fun i : Nat => (o, (i : Int))
def fnd (S : St) (o : Int) (L : List (Int × Int)) (m : Nat) : Option (Int × Int) := ((rowOf16 o).drop m).find? (pp S L)
theorem fnd_step (S : St) (o : Int) (L : List (Int × Int)) {m : Nat} (hm : m < 16) : fnd S o L m = if pp S L (o, (m : Int)) then some (o, (m : Int)) else fnd S o L (m + 1) := by
  unfold fnd
  have hl : m < (rowOf16 o).length := by unfold rowOf16; simpa using hm
  have hg : (rowOf16 o)[m] = (o, (m : Int)) := by simp [rowOf16]
  rw [List.drop_eq_getElem_cons hl, List.find?_cons, hg]
  cases pp S L (o, (m : Int)) <;> rfl
theorem fnd_top {S : St} {o : Int} {d : Nd} (hd : S o = some d) (L : List (Int × Int)) : fnd S o L (2 ^ d.r) = none := by
  unfold fnd
  rw [List.find?_eq_none]
  intro s hs hp
  unfold rowOf16 at hs
  rw [← List.map_drop] at hs
  obtain ⟨i, hi, rfl⟩ := List.mem_map.1 hs
  have hi2 : 2 ^ d.r ≤ i := by
    obtain ⟨j, hj, e⟩ := List.mem_iff_getElem.1 hi
    simp at e
    omega
  unfold pp at hp
  simp only [Bool.and_eq_true, bne_iff_ne, ne_eq] at hp
  obtain ⟨d', j, hs', hj', hl⟩ := there_yes (gc_th hp.1)
  rw [hd] at hs'; cases hs'
  have h9 : (i : Int) = (j : Int) := hj'
  omega
theorem fnd_none {S : St} {o : Int} (hd : S o = none) (L : List (Int × Int)) (m : Nat) : fnd S o L m = none := by
  unfold fnd
  rw [List.find?_eq_none]
  intro s hs hp
  unfold rowOf16 at hs
  obtain ⟨i, hi, rfl⟩ := List.mem_map.1 (List.mem_of_mem_drop hs)
  unfold pp at hp
  simp only [Bool.and_eq_true, bne_iff_ne, ne_eq] at hp
  obtain ⟨d', j, hs', _⟩ := there_yes (gc_th hp.1)
  rw [hd] at hs'; cases hs'
theorem uni_fst {m : Nat} {s : Int × Int} (h : s ∈ uni m) : 0 ≤ s.1 ∧ s.1 < m := by
  unfold uni at h
  obtain ⟨i, hi, hs⟩ := List.mem_flatMap.1 h
  obtain ⟨j, _, rfl⟩ := List.mem_map.1 hs
  simp at hi
  constructor <;> simp <;> omega
theorem find_uni (o : Nat) (Q : Int × Int → Bool) (hQ : ∀ s, Q s = true → s.1 = (o : Int)) : ∀ m, o < m → (uni m).find? Q = (rowOf16 (o : Int)).find? Q
  | 0, h => by omega
  | m + 1, h => by
    rw [uni_step, List.find?_append]
    by_cases e : o = m
    · subst e
      have : (uni o).find? Q = none := by
        rw [List.find?_eq_none]
        intro s hs hq
        have h1 := uni_fst hs
        have h2 := hQ s hq
        omega
      rw [this]; rfl
    · rw [find_uni o Q hQ m (by omega)]
      have : ((List.range 16).map fun i : Nat => ((m : Int), (i : Int))).find? Q = none := by
        rw [List.find?_eq_none]
        intro s hs hq
        obtain ⟨i, _, rfl⟩ := List.mem_map.1 hs
        have h2 := hQ _ hq
        simp at h2
        omega
      rw [this, Option.or_none]
theorem find_congr {p q : Int × Int → Bool} : ∀ (l : List (Int × Int)), (∀ s ∈ l, p s = q s) → l.find? p = l.find? q
  | [], _ => rfl
  | x :: l, h => by
    rw [List.find?_cons, List.find?_cons, h x (by simp), find_congr l (fun s hs => h s (by simp [hs]))]
theorem ahd_fnd {S : St} (G : Good S) {a : Int × Int} {o : Int} {L : List (Int × Int)} (hk : (gc S a).k = 2) (hf : fin S a = true) (ho : (gc S a).o = o) (h0 : 0 ≤ o) (h63 : o ≤ 63) : ahd S a L = fnd S o L 0 := by
  obtain ⟨n, rfl⟩ : ∃ n : Nat, o = n := ⟨o.toNat, by omega⟩
  unfold ahd
  rw [if_pos (by rw [hk, hf]; rfl), ho]
  unfold full
  rw [fullTo_uni G, List.find?_filter, find_uni n _ (fun s hs => by simp only [Bool.and_eq_true, decide_eq_true_eq, beq_iff_eq] at hs; exact hs.2.1) 64 (by omega)]
  unfold fnd
  rw [List.drop_zero]
  refine find_congr _ (fun s hs => ?_)
  unfold rowOf16 at hs
  obtain ⟨i, _, rfl⟩ := List.mem_map.1 hs
  unfold pp
  by_cases h9 : (gc S ((n : Int), (i : Int))).k = 0 <;> simp [h9]
theorem ahd_not {S : St} {a : Int × Int} {L : List (Int × Int)} (h : ¬ ((gc S a).k = 2 ∧ fin S a = true)) : ahd S a L = none := by
  unfold ahd
  rw [if_neg (by simpa using h)]

/-- Where a search stands. -/
structure Nw (S : St) (f : T9.Fo) (tgt : Int × Int) (k : Nat) (cur : Int × Int) (L : List (Int × Int)) : Prop where
  eq : nxt k S cur L = tgt
  fr : free f L ≤ k
  nin : cur ∉ L
  ful : (gc S cur).k ≠ 0
  len : free f L + L.length ≤ f.len
theorem Nw.stop {S : St} {f : T9.Fo} {tgt cur : Int × Int} {k : Nat} {L : List (Int × Int)} (h : Nw S f tgt k cur L) (I : Inv S f) (N : T9.Good f) (ha : ahd S cur (L ++ [cur]) = none) : cur = tgt := by
  have hp := free_pos N.nd ((I.inv cur).2 h.ful) h.nin
  have := h.fr
  obtain ⟨j, rfl⟩ : ∃ j, k = j + 1 := ⟨k - 1, by omega⟩
  rw [← h.eq, nxt_none ha]
theorem Nw.more {S : St} {f : T9.Fo} {tgt cur b : Int × Int} {k : Nat} {L : List (Int × Int)} (h : Nw S f tgt k cur L) (I : Inv S f) (G : Good S) (N : T9.Good f) (ha : ahd S cur (L ++ [cur]) = some b) : ∃ j, k = j + 1 ∧ Nw S f tgt j b (L ++ [cur]) := by
  have hp := free_pos N.nd ((I.inv cur).2 h.ful) h.nin
  have hl := free_less N.nd ((I.inv cur).2 h.ful) h.nin
  have := h.fr
  have := h.len
  obtain ⟨j, rfl⟩ : ∃ j, k = j + 1 := ⟨k - 1, by omega⟩
  obtain ⟨_, _, b1, b2, _⟩ := ahd_some G ha
  exact ⟨j, rfl, by rw [← h.eq, nxt_some ha], by omega, b2, b1, by simp; omega⟩
end M

/-- A slot's name that may be written over. -/
structure SF (w : World) (x : Nat) (n i : Int) : Prop where
  sb : SBox w x n i
  fz : ∀ j, w.frozen? ⟨x, j, none⟩ = false
namespace SF
variable {w w' : World} {x : Nat} {n i : Int}
theorem kept (h : SF w x n i) (g : w.grownBy w' none) : SF w' x n i := ⟨h.sb.kept g, fun j => (gbFrozen g h.sb.lt (by simp)).trans (h.fz j)⟩
theorem keep {y : Nat} (h : SF w x n i) (g : w.grownBy w' (some y)) (hy : x ≠ y) : SF w' x n i := ⟨h.sb.keep g hy, fun j => (gbFrozen g h.sb.lt (by simpa using hy)).trans (h.fz j)⟩
theorem onto {v : Value} (h : SF w x n i) (g : w.grownBy w' v.ownBlock) (hy : v.ownBlock ≠ some x) : SF w' x n i := by
  cases e : v.ownBlock with
  | none => rw [e] at g; exact h.kept g
  | some y => rw [e] at g hy; exact h.keep g (fun z => hy (by rw [z]))
theorem put (h : SF w x n i) (n' i' : Int) : ∃ W, (w.setCell ⟨x, 0, none⟩ (.int .i64 n')).setCell ⟨x, 1, none⟩ (.int .i64 i') = W ∧ SF W x n' i' ∧ w.grownBy W (some x) := by
  refine ⟨_, rfl, ⟨⟨?_, ?_, ?_⟩, fun j => by simpa using h.fz j⟩, gbTrans (gbSetCell _ _ _ _) (gbSetCell _ _ _ _)⟩
  · exact (World.cell?_setCell_other _ _ _ _ (by simp)).trans (World.cell?_setCell_same _ _ _ h.sb.at0)
  · exact World.cell?_setCell_same _ _ _ ((World.cell?_setCell_other _ _ _ _ (by simp)).trans h.sb.at1)
  · simpa [World.setCell] using h.sb.lt
end SF
theorem sfNew (w : World) (n i : Int) : ∃ W, w.alloc (.cells #[.int .i64 n, .int .i64 i] 31) = W ∧ SF W w.heap.size n i ∧ w.grownBy W none := by
  obtain ⟨W, hW, X, g⟩ := sboxNew w n i
  exact ⟨W, hW, ⟨X, fun j => by rw [← hW]; simp⟩, g⟩
theorem sf2 (w : World) (n i n' i' : Int) : ∃ W, (w.alloc (.cells #[.int .i64 n, .int .i64 i] 31)).alloc (.cells #[.int .i64 n', .int .i64 i'] 31) = W ∧ SF W w.heap.size n i ∧ SF W (w.heap.size + 1) n' i' ∧ w.grownBy W none := by
  obtain ⟨V, hV, X, g⟩ := sfNew w n i
  obtain ⟨W, hW, Y, g2⟩ := sfNew V n' i'
  have hs : V.heap.size = w.heap.size + 1 := by rw [← hV]; simp
  rw [hs] at Y
  exact ⟨W, by rw [hV]; exact hW, X.kept g2, Y, gbTrans g g2⟩
theorem onto_new {w W w1 : World} {v : Value} (gw : w.grownBy W none) (o : W.grownBy w1 v.ownBlock) (hv : ∀ k, v.ownBlock = some k → w.heap.size ≤ k) : w.grownBy w1 none := by
  cases e : v.ownBlock with
  | none => rw [e] at o; exact gbTrans gw o
  | some y => rw [e] at o; exact gbNew (gbTrans (gbAny gw _) o) (hv y e)
theorem Onto.bl {w w1 : World} {v v1 : Value} (o : Onto w w1 v v1) : v1.ownBlock = v.ownBlock ∨ v1.ownBlock = some w.heap.size := by
  rcases o.or with ⟨g, n, cap, rfl, rfl⟩ | ⟨e, _⟩
  · exact .inl rfl
  · exact .inr e
end Go.Proofs.YtdnoidnpiaadaaaGreat

/-
  THE CONTRACT of the document's side: donjonref11's next.
-/
namespace Go.Proofs.YtdnoidnpiaadaaaGreat
set_option maxRecDepth 10000
open Go.RowKit
set_option linter.unusedVariables false

theorem wr64 {n m : Int} (h : wrap64 n = m) : IntKind.i64.wrap n = m := by
  rw [← h, IntKind.wrap_i64]
  first | rfl | unfold wrap64; rfl
/-- What lies there on the way. -/
structure Nm (w wr : World) (B0 B1 : Int) (v : Value) (L : List (Int × Int)) : Prop where
  ls : Lst wr w.heap.size v L
  x0 : SF wr w.heap.size B0 B1
  x1 : SF wr (w.heap.size + 1) 0 0
  n0 : v.ownBlock ≠ some w.heap.size
  n1 : v.ownBlock ≠ some (w.heap.size + 1)
  gr : w.grownBy wr none
namespace Nm
variable {w wr wd : World} {B0 B1 : Int} {v : Value} {L : List (Int × Int)}
theorem kept (h : Nm w wr B0 B1 v L) (g : wr.grownBy wd none) : Nm w wd B0 B1 v L := ⟨h.ls.kept g, h.x0.kept g, h.x1.kept g, h.n0, h.n1, gbTrans h.gr g⟩
theorem app {wa : World} {v1 : Value} {p : Int × Int} (h : Nm w wr B0 B1 v L) (g : wr.grownBy wa none) (o : Onto wa wd v v1) (l : Lst wd w.heap.size v1 (L ++ [p])) : Nm w wd B0 B1 v1 (L ++ [p]) := by
  have h0 := (h.kept g)
  have l1 := h0.x1.sb.lt
  refine ⟨l, h0.x0.onto o.gr h.n0, h0.x1.onto o.gr h.n1, ?_, ?_, onto_new h0.gr o.gr (fun k hk => (h.ls.lt k hk).1)⟩
  · rcases o.bl with e | e
    · rw [e]; exact h.n0
    · rw [e]; simp; omega
  · rcases o.bl with e | e
    · rw [e]; exact h.n1
    · rw [e]; simp; omega
/-- Another block of the call's own is written. -/
theorem keep {y : Nat} (h : Nm w wr B0 B1 v L) (g : wr.grownBy wd (some y)) (hy : w.heap.size + 1 < y) (hv : v.ownBlock ≠ some y) : Nm w wd B0 B1 v L :=
  ⟨h.ls.block (fun k hk => g.block k (h.ls.lt k hk).2 (fun e => hv (by rw [hk]; exact e))), h.x0.keep g (by omega), h.x1.keep g (by omega), h.n0, h.n1, gbNew (gbTrans (gbAny h.gr _) g) (by omega)⟩
theorem goto_ {A0 A1 : Int} (h : Nm w wr B0 B1 v L) (g : wr.grownBy wd (some w.heap.size)) (x : SF wd w.heap.size A0 A1) : Nm w wd A0 A1 v L :=
  ⟨h.ls.block (fun k hk => g.block k (h.ls.lt k hk).2 (fun e => h.n0 (by rw [hk]; exact e))), x, h.x1.keep g (by omega), h.n0, h.n1, gbNew (gbTrans (gbAny h.gr _) g) (Nat.le_refl _)⟩
end Nm

set_option maxHeartbeats 8000000 in
theorem Rc.next {w0 w : World} {O : Nat → Prop} {q : Nat} {S : St} {f : T9.Fo} (h : Rc w0 w O q S f) (I : M.Inv S f) (a c : Int) (hf : (M.gc S (a, c)).k ≠ 0) (hm : f.len ≤ 60) (n : Nat) (hn : f.len ≤ n) (A C' : Int) (hr : M.nxt n S (a, c) [] = (A, C')) :
    Calls Tryz.prog 69 #[.pointer (some ⟨q, 0, none⟩), sv a c] w fun x w' => x = .returned (sv A C') ∧ w.grownBy w' none := by
  have HN0 : Hid (M.Nw S f (A, C') n (a, c) []) := ⟨hr, by rw [M.free_nil]; exact hn, by simp, hf, by rw [M.free_nil]; simp⟩
  have HI := hideIt I
  have HG := hideIt (And.intro h.gs h.gt)
  have HH := hideIt h
  clear h I hf hn hr
  go_enter Tryz.func69, Tryz.ntmps69
  go_upto_region 1 with fail
  obtain ⟨W, hW, X0, X1, g0⟩ := sf2 w a c 0 0
  rw [hW]
  clear hW
  have HM0 : Hid (Nm w W a c (.slice none 0 0) []) := ⟨World.ownsRow_nil _ _ _ 2, X0, X1, by simp [Value.ownBlock], by simp [Value.ownBlock], g0⟩
  clear X0 X1 g0
  go_wp2
  go_loopg [5, 6] 1100 (fun y s5 s6 wr => ∃ (j k : Nat) (B0 B1 : Int) (L : List (Int × Int)) (v : Value), j + y = 1100 ∧ v = s5 ∧ s6 = .int .i64 j ∧ Hid (M.Nw S f (A, C') k (B0, B1) L) ∧ Hid (Nm w wr B0 B1 v L) ∧ Hid (L.length = j))
  case atStart => exact ⟨0, n, a, c, [], _, by omega, rfl, rfl, HN0, HM0, rfl⟩
  case round =>
    obtain ⟨j, k0, B0, B1, L, v, hj, rfl, rfl, HN, HM, HL⟩ := hrel
    have hjl : j ≤ 60 := by have h1 := HN.out.len; have h2 := HL.out; omega
    have hlt : (j : Int) < 1100 := by omega
    have gA := gbAlloc wr (.cells #[.int .i64 B0, .int .i64 B1] 31) none
    have HLs := hideIt (HM.out.ls.kept gA)
    have HR1 := hideIt (rowOne wr B0 B1)
    have hdl : Hid (L.length + 1 ≤ 100000) := hideIt (by rw [HL.out]; omega)
    have hB : Hid (w.heap.size ≤ (wr.alloc (.cells #[.int .i64 B0, .int .i64 B1] 31)).heap.size) := hideIt (Nat.le_trans HM.out.gr.size gA.size)
    obtain ⟨x0, x1⟩ := HM.out.x0.sb.tup
    go_upto_region 6 with (at_builtin; refine wpList_append_slot1 rfl (.tmp 19) (.tmp 21) rfl w.heap.size v L rfl HLs.out ⟨wr.heap.size, 0, none⟩ 1 (B0, B1) rfl HR1.out hdl.out hB.out ?_; intro v1 w1 l1 o1)
    have HM1 := hideIt (HM.out.app gA o1 l1)
    clear x0 x1 HLs HR1 hdl hB l1 o1 gA HM
    have HRc := hideIt (HH.out.kept HM1.out.gr)
    obtain ⟨⟨k, o, r, b, g, u⟩, hcp⟩ : ∃ d, M.gc S (B0, B1) = d := ⟨_, rfl⟩
    have hth := M.gc_th HN.out.ful
    have hge : M.getE S B0 B1 = 0 := by unfold M.getE; exact if_pos hth
    have ho63 : 0 ≤ o ∧ o ≤ 63 := by
      have h2 := M.gc_chk HG.out.1 (B0, B1)
      rw [hcp] at h2
      exact M.chk_o h2
    have HC := hideIt hcp
    have HGE := hideIt hge
    have HX0 := hideIt HM1.out.x0
    clear hcp hth hge
    go_cut [7, 8] from 23 to 30 (fun s6 s7 wc => ∃ Z : Nat, s6 = .pointer (some ⟨Z, 0, none⟩) ∧ s7 = .int .i64 0 ∧ Hid (Box wc Z ⟨k, o, r, b, g, u⟩) ∧ Hid (w1.heap.size ≤ Z) ∧ Hid (w1.grownBy wc none))
    case first =>
      have T0b : Two w1 w.heap.size B0 B1 := HX0.out.sb.tup
      have T0 : Two w1.drew w.heap.size B0 B1 := two_kept T0b (gbDrew (gbRefl w1 none))
      go_region_held3 (fun w' => Two w' w.heap.size B0 B1)
        (first | with_reducible exact T0 | (refine two_kept T0b ?_; repeat (first | with_reducible exact G2 | with_reducible exact gbRefl w1 none | with_reducible refine gbDrew ?_ | with_reducible refine gbAllocN ?_ _ | with_reducible refine gbSetNew ?_ _ _ _ (by with_reducible first | exact Nat.le_refl _ | exact G2.size))) | fail)
        ((first | (go_at_call 52; refine ((HRc.out.kept (by repeat (first | with_reducible exact gbRefl w1 none | with_reducible refine gbDrew ?_ | with_reducible refine gbAllocN ?_ _))).get _ _ _ _ _ _ _ _ _ HC.out HGE.out).mono ?_; rintro _ u1 ⟨rfl, g5⟩; have hc3 := gcell g5; have hf3 := gfroz g5; have G2 : w1.grownBy u1 none := (by first | exact gbTrans (gbDrewN w1 1 none) g5 | exact gbTrans (gbDrew (gbAllocN (gbRefl w1 none) _)) g5)) | fail))
      · rename_i hold
        clear hold T0
        obtain ⟨W6, hW6, Z6, g6⟩ := boxNew u1 ⟨k, o, r, b, g, u⟩
        simp only at hW6
        rw [hW6]
        go_wp2
        go_meet
        exact ⟨_, rfl, rfl, Z6, G2.size, gbTrans G2 g6⟩
      · rename_i hold
        clear hold T0
        have Z0 : Box u1 w1.heap.size C.zero := ((Box.made w1 C.zero).kept (gbDrew (gbRefl _ none))).kept g5
        obtain ⟨W6, hW6, Z6, g6⟩ := Z0.put ⟨k, o, r, b, g, u⟩
        simp only at hW6
        rw [hW6]
        have G7 := gbNew (gbTrans (gbAny G2 _) g6) (Nat.le_refl _)
        go_wp2
        go_meet
        exact ⟨_, rfl, rfl, Z6, Nat.le_refl _, G7⟩
    case rest =>
    obtain ⟨Z7, rfl, rfl, HZ7, hZ7, G7⟩ := hcut
    obtain ⟨W7, rfl⟩ : ∃ W7, W7 = wc := ⟨_, rfl⟩
    have hlt1 : Hid (w.heap.size + 1 < w1.heap.size) := HM1.out.x1.sb.lt
    have hls1 : Hid (∀ k, v1.ownBlock = some k → k < w1.heap.size) := fun k hk => (HM1.out.ls.lt k hk).2
    have HM7 := hideIt (HM1.out.kept G7.out)
    have HR7 := hideIt (HRc.out.kept G7.out)
    obtain ⟨b1, hb1⟩ : ∃ z, (k != 2) = z := ⟨_, rfl⟩
    obtain ⟨b2, hb2⟩ : ∃ z, M.fin S (B0, B1) = z := ⟨_, rfl⟩
    obtain ⟨rr, hrr⟩ : ∃ z, M.rad S o = z := ⟨_, rfl⟩
    obtain ⟨b3, hb3⟩ : ∃ z, (rr == 0) = z := ⟨_, rfl⟩
    have HQ := hideIt (And.intro hb2 hrr)
    clear hb2 hrr HM1 HRc HX0 HGE
    go_upto_region 7 with fail
    go_cut [48] from 31 to 48 (fun s wc => s = .bool (b1 || !b2 || b3) ∧ Hid (W7.grownBy wc none))
    case first =>
      have z0 : ∀ y : Gr W7, y.w.cell? ⟨Z7, 0, none⟩ = some (.int .i64 k) := fun y => (HZ7.out.kept y.g).at0
      have z1 : ∀ y : Gr W7, y.w.cell? ⟨Z7, 1, none⟩ = some (.int .i64 o) := fun y => (HZ7.out.kept y.g).at1
      have x0 : ∀ y : Gr W7, y.w.cell? ⟨w.heap.size, 0, none⟩ = some (.int .i64 B0) := fun y => (HM7.out.kept y.g).x0.sb.at0
      have x1 : ∀ y : Gr W7, y.w.cell? ⟨w.heap.size, 1, none⟩ = some (.int .i64 B1) := fun y => (HM7.out.kept y.g).x0.sb.at1
      have HF : ∀ y : Gr W7, Calls Tryz.prog 26 #[.pointer (some ⟨q, 0, none⟩), sv B0 B1] y.w fun x w' => x = .returned (.bool b2) ∧ y.w.grownBy w' none := fun y => (HR7.out.kept y.g).final B0 B1 b2 HQ.out.1
      have HD : ∀ y : Gr W7, Calls Tryz.prog 10 #[.pointer (some ⟨q, 0, none⟩), .int .i64 o] y.w fun x w' => x = .returned (.int .i64 rr) ∧ y.w.grownBy w' none := fun y => (HR7.out.kept y.g).radix o rr HQ.out.2
      cases b1 <;> cases b2 <;> cases b3
      all_goals (
        refine wp_region_grown (by kernel_rfl) (by kernel_rfl) fun _ => ?_
        repeat (go_big_quiet_step ((first | (go_at_call 26; with_reducible exact callsGr (HF _)) | (go_at_call 10; with_reducible exact callsGr (HD _)))))
        refine wpQuiet_nil ?_
        rintro w4 ⟨⟨_, g4⟩, rfl⟩
        go_wp2
        go_meet
        exact ⟨rfl, g4⟩)
    case rest =>
    obtain ⟨rfl, G8⟩ := hcut
    obtain ⟨W8, rfl⟩ : ∃ W8, W8 = wc := ⟨_, rfl⟩
    have HM8 := hideIt (HM7.out.kept G8.out)
    have HR8 := hideIt (HR7.out.kept G8.out)
    have HZ8 := hideIt (HZ7.out.kept G8.out)
    have hZ8 : Hid (w.heap.size + 1 < Z7 ∧ v1.ownBlock ≠ some Z7) := by
      have h1 := hZ7.out
      exact ⟨Nat.lt_of_lt_of_le hlt1.out h1, fun e => by have := hls1.out _ e; omega⟩
    cases hcc : (b1 || !b2 || b3)
    · obtain ⟨rfl, rfl, rfl⟩ : b1 = false ∧ b2 = true ∧ b3 = false := by cases b1 <;> cases b2 <;> cases b3 <;> simp at hcc <;> exact ⟨rfl, rfl, rfl⟩
      clear hcc
      obtain rfl : k = 2 := by simpa using hb1
      have HA : Hid (∀ LL, M.ahd S (B0, B1) LL = M.fnd S o LL 0) := fun LL => M.ahd_fnd HG.out.1 (by rw [HC.out]) HQ.out.1 (by rw [HC.out]) ho63.1 ho63.2
      obtain ⟨rn, p2, hrn, hrn2, hp2, hp16, htop⟩ : ∃ rn p2 : Nat, rr = (rn : Int) ∧ rn ≤ 4 ∧ wrap64 (2 ^ rn) = (p2 : Int) ∧ p2 ≤ 16 ∧ ∀ LL, M.fnd S o LL p2 = none := by
        cases hs : S o with
        | none =>
          exfalso
          have := HQ.out.2
          unfold M.rad at this
          rw [hs] at this
          have h3 : ¬ rr = 0 := by simpa using hb3
          exact h3 this.symm
        | some d =>
          have h1 := HQ.out.2
          unfold M.rad at h1
          rw [hs] at h1
          have h2 := HG.out.1.rad _ _ hs
          have h3 := M.radW2 d.r h2.1 h2.2
          exact ⟨d.r, 2 ^ d.r, h1.symm, h2.2, h3.1, h3.2, fun LL => M.fnd_top hs LL⟩
      subst hrn
      have HTop := hideIt htop
      clear htop hb1 hb3
      obtain ⟨x0, x1⟩ := HM8.out.x0.sb.tup
      go_upto_region 11 with fail
      obtain ⟨Wa, hWa, Xa, ga⟩ := sfNew W8 B0 B1
      rw [hWa]
      clear hWa x0 x1
      have HMa := hideIt (HM8.out.kept ga)
      have HRa := hideIt (HR8.out.kept ga)
      have HZa := hideIt (HZ8.out.kept ga)
      have HIa := hideIt Xa
      have hIa : Hid (w.heap.size + 1 < W8.heap.size ∧ v1.ownBlock ≠ some W8.heap.size ∧ Z7 ≠ W8.heap.size) := ⟨Nat.lt_of_lt_of_le hlt1.out (Nat.le_trans G7.out.size G8.out.size), fun e => by have h1 := hls1.out _ e; have h2 := G7.out.size; have h3 := G8.out.size; omega, Nat.ne_of_lt HZ8.out.lt⟩
      clear Xa ga HM8 HR8 HZ8 HM7 HR7 HZ7 G7 G8 hls1 hlt1
      have hk1 : IntKind.i64.wrap ((p2 : Int) - 1) = (p2 : Int) - 1 := by
        rw [IntKind.wrap_i64]
        omega
      have hp3 : IntKind.i64.wrap (2 ^ rn) = (p2 : Int) := wr64 hp2
      go_cut [11] from 51 to 58 (fun s wc => s = .int .i64 ((p2 : Int) - 1) ∧ Hid (Wa.grownBy wc none))
      case first =>
        have T0 : Wa.drew.cell? ⟨Z7, 1, none⟩ = some (.int .i64 o) := (HZa.out.kept (gbDrewN Wa 1 none)).at1
        have hrn3 : (rn : Int) ≤ 4 := by omega
        go_region_held3 (fun w' => w'.cell? ⟨Z7, 1, none⟩ = some (.int .i64 o))
          (first | with_reducible exact T0 | with_reducible exact T1 | fail)
          ((first | (go_at_call 10; refine ((HRa.out.kept (gbDrewN Wa 1 none)).radix o rn HQ.out.2).mono ?_; rintro _ u1 ⟨rfl, g1⟩; have G1 : Wa.grownBy u1 none := gbTrans (gbDrewN Wa 1 none) g1; have T1 : u1.cell? ⟨Z7, 1, none⟩ = some (.int .i64 o) := (HZa.out.kept G1).at1) | fail))
        rename_i hold
        clear hold T0 T1
        go_wp2
        go_meet
        exact ⟨rfl, G1⟩
      case rest =>
      obtain ⟨rfl, Gb⟩ := hcut
      obtain ⟨Wb, rfl⟩ : ∃ Wb, Wb = wc := ⟨_, rfl⟩
      have HMb := hideIt (HMa.out.kept Gb.out)
      have HRb := hideIt (HRa.out.kept Gb.out)
      have HZb := hideIt (HZa.out.kept Gb.out)
      have HIb := hideIt (HIa.out.kept Gb.out)
      clear HMa HRa HZa HIa Gb hp2 hrn2 hk1 HQ
      obtain ⟨wo, rfl⟩ : ∃ wo, wo = wr := ⟨_, rfl⟩
      obtain ⟨Gk, rfl⟩ : ∃ Gk, Gk = gk := ⟨_, rfl⟩
      go_wp2
      go_loopg [9, 11] p2 (fun y s9 s11 wr => ∃ (m nn : Nat) (i0 i1 : Int), m = y ∧ s11 = .int .i64 ((m : Int) - 1) ∧ s9 = .int .i64 nn ∧ nn + m ≤ 16 ∧ Hid (Nm w wr B0 B1 v1 (L ++ [(B0, B1)])) ∧ Hid (Box wr Z7 ⟨2, o, r, b, g, u⟩) ∧ Hid (SF wr W8.heap.size i0 i1) ∧ Hid ((i0, i1) = (M.fnd S o (L ++ [(B0, B1)]) m).getD (B0, B1) ∧ (nn = 0 ↔ M.fnd S o (L ++ [(B0, B1)]) m = none)))
      case atStart => exact ⟨p2, 0, B0, B1, rfl, rfl, rfl, by omega, HMb, HZb, HIb, by show _ ∧ _; rw [HTop.out]; exact ⟨rfl, by simp⟩⟩
      case round =>
        obtain ⟨m, nn, i0, i1, rfl, rfl, rfl, hnm, HMi, HZi, HIi, HFi⟩ := hrel
        by_cases hm0 : m = 0
        · subst hm0
          have hx0 : ¬ (0 : Int) ≤ ((0 : Nat) : Int) - 1 := by omega
          obtain ⟨bn, hbn⟩ : ∃ z, ((nn : Int) == 0) = z := ⟨_, rfl⟩
          cases bn
          · -- something goes ahead
            obtain ⟨x0, x1⟩ := HMi.out.x0.sb.tup
            have f0 := HMi.out.x0.fz 0
            have f1 := HMi.out.x0.fz 1
            obtain ⟨j0, j1⟩ := HIi.out.sb.tup
            go_upto_region 4 with fail
            obtain ⟨Vc, hVc, Xc, gc⟩ := HMi.out.x0.put i0 i1
            rw [hVc]
            clear hVc x0 x1 f0 f1 j0 j1
            have HMc := hideIt (HMi.out.goto_ gc Xc)
            have hsome : M.ahd S (B0, B1) (L ++ [(B0, B1)]) = some (i0, i1) := by
              rw [HA.out]
              have h1 := HFi.out.1
              have h2 : ¬ nn = 0 := by intro e; rw [e] at hbn; simp at hbn
              cases hz : M.fnd S o (L ++ [(B0, B1)]) 0 with
              | none => exact absurd (HFi.out.2.2 hz) h2
              | some p => rw [hz] at h1; simp at h1; rw [← h1]
            obtain ⟨k1, hk1, N1⟩ := HN.out.more HI.out HG.out.1 HG.out.2 hsome
            have HN1 := hideIt N1
            clear hsome hk1 N1 Xc gc
            go_wp2
            go_roundg (Gk - 1)
            case rel => exact ⟨j + 1, k1, i0, i1, L ++ [(B0, B1)], _, by omega, rfl, by go_num, HN1, HMc, by show _ = _; rw [List.length_append, HL.out]; rfl⟩
            case measure => omega
          · have hnn : nn = 0 := by have := eq_of_beq hbn; omega
            have HTg : Hid ((B0, B1) = (A, C')) := HN.out.stop HI.out HG.out.2 (by rw [HA.out]; exact HFi.out.2.1 hnn)
            subst hnn
            obtain ⟨x0, x1⟩ := HMi.out.x0.sb.tup
            obtain ⟨y0, y1⟩ := HMi.out.x1.sb.tup
            have f0 := HMi.out.x1.fz 0
            have f1 := HMi.out.x1.fz 1
            go_wp2
            obtain ⟨V9, hV9, X9, g9⟩ := HMi.out.x1.put B0 B1
            rw [hV9]
            clear hV9 x0 x1 y0 y1 f0 f1
            obtain ⟨y0, y1⟩ := X9.sb.tup
            obtain ⟨rfl, rfl⟩ : B0 = A ∧ B1 = C' := by have := HTg.out; simpa using this
            exact bodyPost_ret (v := sv B0 B1) (by simp [results, Tryz.results69, go_sem, y0, y1]) rfl ⟨rfl, gbNew (gbTrans (gbAny HMi.out.gr _) g9) (Nat.le_succ _)⟩
        · obtain ⟨m', rfl⟩ : ∃ m', m = m' + 1 := ⟨m - 1, by omega⟩
          have hx0 : (0 : Int) ≤ ((m' + 1 : Nat) : Int) - 1 := by omega
          have hx1 : ((m' + 1 : Nat) : Int) - 1 = (m' : Int) := by omega
          have hm16 : m' < 16 := by omega
          rw [hx1]
          rw [hx1] at hx0
          clear hx1
          have z1 := HZi.out.at1
          simp only at z1
          go_upto_region 15 with fail
          obtain ⟨Wd, hWd, Xd, gd⟩ := sfNew wr o (m' : Int)
          rw [hWd]
          clear hWd z1
          have HMd := hideIt (HMi.out.kept gd)
          have HZd := hideIt (HZi.out.kept gd)
          have HId := hideIt (HIi.out.kept gd)
          have HXd := hideIt Xd
          have HRd := hideIt (HH.out.kept HMd.out.gr)
          obtain ⟨⟨yk, yo, yr, yb, yg, yu⟩, hcy⟩ : ∃ d, M.gc S (o, (m' : Int)) = d := ⟨_, rfl⟩
          obtain ⟨ey, hey⟩ : ∃ z, M.getE S o (m' : Int) = z := ⟨_, rfl⟩
          have HCy := hideIt hcy
          have HEy := hideIt hey
          clear hcy hey Xd gd HMi HZi HIi
          go_cut [13, 14] from 67 to 74 (fun s6 s7 wc => ∃ Z : Nat, s6 = .pointer (some ⟨Z, 0, none⟩) ∧ s7 = .int .i64 ey ∧ Hid (Box wc Z ⟨yk, yo, yr, yb, yg, yu⟩) ∧ Hid (Wd.heap.size ≤ Z) ∧ Hid (Wd.grownBy wc none))
          case first =>
            have T0b : Two Wd wr.heap.size o (m' : Int) := HXd.out.sb.tup
            have T0 : Two Wd.drew wr.heap.size o (m' : Int) := two_kept T0b (gbDrew (gbRefl Wd none))
            go_region_held3 (fun w' => Two w' wr.heap.size o (m' : Int))
              (first | with_reducible exact T0 | (refine two_kept T0b ?_; repeat (first | with_reducible exact G2 | with_reducible exact gbRefl Wd none | with_reducible refine gbDrew ?_ | with_reducible refine gbAllocN ?_ _ | with_reducible refine gbSetNew ?_ _ _ _ (by with_reducible first | exact Nat.le_refl _ | exact G2.size))) | fail)
              ((first | (go_at_call 52; refine ((HRd.out.kept (by repeat (first | with_reducible exact gbRefl Wd none | with_reducible refine gbDrew ?_ | with_reducible refine gbAllocN ?_ _))).get _ _ _ _ _ _ _ _ _ HCy.out HEy.out).mono ?_; rintro _ u1 ⟨rfl, g5⟩; have hc3 := gcell g5; have hf3 := gfroz g5; have G2 : Wd.grownBy u1 none := (by first | exact gbTrans (gbDrewN Wd 1 none) g5 | exact gbTrans (gbDrew (gbAllocN (gbRefl Wd none) _)) g5)) | fail))
            · rename_i hold
              clear hold T0
              obtain ⟨W6, hW6, Z6, g6⟩ := boxNew u1 ⟨yk, yo, yr, yb, yg, yu⟩
              simp only at hW6
              rw [hW6]
              go_wp2
              go_meet
              exact ⟨_, rfl, rfl, Z6, G2.size, gbTrans G2 g6⟩
            · rename_i hold
              clear hold T0
              have Z0 : Box u1 Wd.heap.size C.zero := ((Box.made Wd C.zero).kept (gbDrew (gbRefl _ none))).kept g5
              obtain ⟨W6, hW6, Z6, g6⟩ := Z0.put ⟨yk, yo, yr, yb, yg, yu⟩
              simp only at hW6
              rw [hW6]
              have G7 := gbNew (gbTrans (gbAny G2 _) g6) (Nat.le_refl _)
              go_wp2
              go_meet
              exact ⟨_, rfl, rfl, Z6, Nat.le_refl _, G7⟩
          case rest =>
          obtain ⟨Ze, rfl, rfl, HZe, hZe, Ge⟩ := hcut
          obtain ⟨We, rfl⟩ : ∃ We, We = wc := ⟨_, rfl⟩
          have HMe := hideIt (HMd.out.kept Ge.out)
          have HZf := hideIt (HZd.out.kept Ge.out)
          have HIe := hideIt (HId.out.kept Ge.out)
          have HXe := hideIt (HXd.out.kept Ge.out)
          obtain ⟨b4, hb4⟩ : ∃ z, (yk != 0) = z := ⟨_, rfl⟩
          obtain ⟨b5, hb5⟩ : ∃ z, decide ((o, (m' : Int)) ∈ L ++ [(B0, B1)]) = z := ⟨_, rfl⟩
          have hpp : M.pp S (L ++ [(B0, B1)]) (o, (m' : Int)) = (b4 && !b5) := by unfold M.pp; rw [HCy.out, hb5]; show ((yk != 0) && _) = _; rw [hb4]
          have HP := hideIt hpp
          have HB5 := hideIt hb5
          have hle : (L ++ [(B0, B1)]).length ≤ 2000 := by rw [List.length_append, HL.out]; simp; omega
          have HLe := hideIt hle
          clear hpp hb5 hle HMd HZd HId HXd HRd HCy HEy hZe
          have y0 := HZe.out.at0
          simp only at y0
          obtain ⟨s0, s1⟩ := HXe.out.sb.tup
          have hst : ∀ t : Bool, (b4 && !b5) = t → (t = true → M.fnd S o (L ++ [(B0, B1)]) m' = some (o, (m' : Int))) ∧ (t = false → M.fnd S o (L ++ [(B0, B1)]) m' = M.fnd S o (L ++ [(B0, B1)]) (m' + 1)) := by
            intro t ht
            have e := M.fnd_step S o (L ++ [(B0, B1)]) hm16
            rw [HP.out, ht] at e
            exact ⟨fun z => by rw [z] at e; simpa using e, fun z => by rw [z] at e; simpa using e⟩
          have HSt := hideIt hst
          clear hst
          cases b4
          · clear s0 s1
            go_wp2
            go_roundg m'
            case rel => exact ⟨m', nn, i0, i1, by omega, by go_num, rfl, by omega, HMe, HZf, HIe, by
              have e := (HSt.out false (by simp)).2 rfl
              have h1 := HFi.out
              rw [← e] at h1
              exact h1⟩
            case measure => omega
          · go_wp2_with fail
            refine (among_is HMe.out.ls HLe.out o (m' : Int) b5 HB5.out).mono ?_
            rintro _ wf ⟨rfl, gf⟩
            have HMf := hideIt (HMe.out.kept gf)
            have HZg := hideIt (HZf.out.kept gf)
            have HIf := hideIt (HIe.out.kept gf)
            have HXf := hideIt (HXe.out.kept gf)
            clear y0 s0 s1 gf HMe HZf HIe HXe
            cases b5
            · obtain ⟨s0, s1⟩ := HXf.out.sb.tup
              obtain ⟨j0, j1⟩ := HIf.out.sb.tup
              have f0 := HIf.out.fz 0
              have f1 := HIf.out.fz 1
              go_upto_region 18 with fail
              obtain ⟨Vg, hVg, Xg, gg⟩ := HIf.out.put o (m' : Int)
              rw [hVg]
              clear hVg s0 s1 j0 j1 f0 f1
              have HMg := hideIt (HMf.out.keep gg hIa.out.1 hIa.out.2.1)
              have HZh := hideIt (HZg.out.keep gg (by simpa using hIa.out.2.2))
              have HIg := hideIt Xg
              clear HMf HZg HIf HXf Xg gg
              go_wp2
              go_roundg m'
              case rel => exact ⟨m', nn + 1, o, (m' : Int), by omega, by go_num, by go_num, by omega, HMg, HZh, HIg, by
                have e := (HSt.out true (by simp)).1 rfl
                show _ ∧ _
                rw [e]
                exact ⟨rfl, by simp⟩⟩
              case measure => omega
            · go_wp2
              go_roundg m'
              case rel => exact ⟨m', nn, i0, i1, by omega, by go_num, rfl, by omega, HMf, HZg, HIf, by
                have e := (HSt.out false (by simp)).2 rfl
                have h1 := HFi.out
                rw [← e] at h1
                exact h1⟩
              case measure => omega
    · have HTg : Hid ((B0, B1) = (A, C')) := HN.out.stop HI.out HG.out.2 (by
        by_cases e1 : (M.gc S (B0, B1)).k = 2 ∧ M.fin S (B0, B1) = true
        · rw [M.ahd_fnd HG.out.1 e1.1 e1.2 (by rw [HC.out]) ho63.1 ho63.2]
          have h1 : b1 = false := by have := e1.1; rw [HC.out] at this; rw [← hb1]; simpa using this
          have h2 : b2 = true := HQ.out.1.symm.trans e1.2
          have h3 : b3 = true := by rw [h1, h2] at hcc; simpa using hcc
          rw [h3] at hb3
          have h4 : rr = 0 := by simpa using hb3
          cases hs : S o with
          | none => exact M.fnd_none hs _ _
          | some d =>
            have h5 := HQ.out.2
            unfold M.rad at h5
            rw [hs, h4] at h5
            have h6 := HG.out.1.rad _ _ hs
            have h7 : (d.r : Int) = 0 := h5
            omega
        · exact M.ahd_not e1)
      clear hcc
      obtain ⟨x0, x1⟩ := HM8.out.x0.sb.tup
      obtain ⟨y0, y1⟩ := HM8.out.x1.sb.tup
      have f0 := HM8.out.x1.fz 0
      have f1 := HM8.out.x1.fz 1
      go_wp2
      obtain ⟨V9, hV9, X9, g9⟩ := HM8.out.x1.put B0 B1
      rw [hV9]
      clear hV9 x0 x1 y0 y1 f0 f1
      obtain ⟨y0, y1⟩ := X9.sb.tup
      obtain ⟨rfl, rfl⟩ : B0 = A ∧ B1 = C' := by have := HTg.out; simpa using this
      exact bodyPost_ret (v := sv B0 B1) (by simp [results, Tryz.results69, go_sem, y0, y1]) rfl ⟨rfl, gbNew (gbTrans (gbAny HM8.out.gr _) g9) (Nat.le_succ _)⟩
end Go.Proofs.YtdnoidnpiaadaaaGreat

/-
  THE CONTRACT of the document's side: donjonref11's Delete.
-/
namespace Go.Proofs.YtdnoidnpiaadaaaGreat
set_option maxRecDepth 10000
open Go.RowKit
set_option linter.unusedVariables false

/-- A call on its way: the document's parts, what was told, the slot named. -/
structure Dl (w0 w wr : World) (O Oc : Nat → Prop) (q : Nat) (tv : Value) (S : St) (f : T9.Fo) (T : List C) (a c : Int) : Prop where
  ws : Ws w0 w wr O O Oc q S f
  ct : CT wr Oc w0.heap.size tv T
  bl : ∀ k, tv.ownBlock = some k → w.heap.size < k
  bx : SB wr Oc w.heap.size a c
namespace Dl
variable {w0 w wr wd : World} {O Oc Od : Nat → Prop} {q : Nat} {tv tv' : Value} {S S' : St} {f f' : T9.Fo} {T T' : List C} {a c : Int}
theorem kept (h : Dl w0 w wr O Oc q tv S f T a c) (g : wr.grownBy wd none) : Dl w0 w wd O Oc q tv S f T a c := ⟨h.ws.kept g, h.ct.kept g, h.bl, h.bx.kept g⟩
theorem step (h : Dl w0 w wr O Oc q tv S f T a c) (s : Stp w0 wr wd Oc tv tv' q S' f' T' Od) : Dl w0 w wd O Od q tv' S' f' T' a c := by
  have hlt := h.bx.sb.lt
  have hno : ¬ (Oc w.heap.size ∨ tv.ownBlock = some w.heap.size) := fun e => e.elim h.bx.no (fun e => by have := h.bl _ e; omega)
  refine ⟨⟨s.ws.rc, h.ws.fr.join s.ws.fr (fun i hi k => ?_), fun i hi => ?_, fun i hi => hi⟩, s.ct, fun k hk => ?_, ⟨s.ws.fr.sbox h.bx.sb hno, fun e => ?_⟩⟩
  · rcases k with e | e
    · exact (h.ws.sub i e).resolve_right (by omega)
    · have := h.bl i e; omega
  · rcases s.ws.sub i hi with e | e
    · exact h.ws.sub i e
    · have := h.ws.fr.size; exact .inr (by omega)
  · rcases s.bl k hk with e | e
    · exact h.bl k e
    · omega
  · rcases s.ws.sub _ e with e | e
    · exact h.bx.no e
    · omega
end Dl
theorem M.one_is {x : M.X} {s : Int × Int} {k o r b g u : Int} {fi nd : Bool} (hg : M.gc x.S s = ⟨k, o, r, b, g, u⟩) (hf : M.fin x.S s = fi) (hn : (k == 2) = nd) :
    M.one x s = ⟨if fi && nd then M.dropS (M.takS x.S s) o else M.takS x.S s, M.takF x.S x.f s, x.l - 1, if fi then x.T ++ [⟨k, o, r, b, g, u⟩] else x.T⟩ := by
  subst hf hn
  unfold M.one M.fall
  rw [hg]
theorem M.T_one (x : M.X) (s : Int × Int) : (M.one x s).T.length ≤ x.T.length + 1 := by
  unfold M.one
  split <;> simp
/-- Where the document's Delete stands. -/
structure M.Dw (rq : Bool) (rx : M.X) (L j i : Nat) (x : M.X) (a : Int × Int) : Prop where
  dd : M.dd 60 i x a = (rq, rx)
  ok : M.Ok x
  ful : (M.gc x.S a).k ≠ 0
  len : x.f.len ≤ 60
  sum : j + i = L
  tol : x.T.length ≤ j
  lef : x.l = i

theorem Rc.delete_no {w0 w : World} {O : Nat → Prop} {q : Nat} {S : St} {f : T9.Fo} (h : Rc w0 w O q S f) (a c l e : Int) (he : M.faceE S (a, c) l = e) (hne : (e != 0) = true) :
    Calls Tryz.prog 21 #[.pointer (some ⟨q, 0, none⟩), sv a c, .int .i64 l] w fun x w' => x = .returned (.tuple #[.slice none 0 0, .bool false, .int .i64 e]) ∧ w.grownBy w' none := by
  have HH := hideIt h
  have he' := hideIt he
  clear h he
  go_enter Tryz.func21, Tryz.ntmps21
  go_upto_region 1 with fail
  obtain ⟨W, hW, X0, g0⟩ := sboxNew w a c
  rw [hW]
  clear hW
  obtain ⟨x0, x1⟩ := X0.tup
  go_wp2_with fail
  refine ((HH.out.kept g0).check a c l e he'.out).mono ?_
  rintro _ w1 ⟨rfl, g1⟩
  clear x0 x1 X0
  go_wp2
  exact bodyPost_ret (v := .tuple #[.slice none 0 0, .bool false, .int .i64 e]) (by simp [results, Tryz.results21, go_sem]) rfl ⟨rfl, gbTrans g0 g1⟩

set_option maxHeartbeats 8000000 in
theorem Rc.delete_yes {w0 w : World} {O : Nat → Prop} {q : Nat} {S : St} {f : T9.Fo} (h : Rc w0 w O q S f) (I : M.Inv S f) (a c l : Int) (hm : f.len ≤ 60) (he : M.faceE S (a, c) l = 0) (rq : Bool) (rx : M.X) (hr : M.delR S f (a, c) l = (rq, rx)) :
    Calls Tryz.prog 21 #[.pointer (some ⟨q, 0, none⟩), sv a c, .int .i64 l] w fun x w' => ∃ tv Oc, x = .returned (.tuple #[tv, .bool (!rq), .int .i64 (if rq then 11 else 0)]) ∧ Rc w0 w' Oc q rx.S rx.f ∧ (∀ i, Oc i → O i ∨ w.heap.size ≤ i) ∧ Fr O w w' ∧ TL w' w0.heap.size tv rx.T ∧ (∀ k, tv.ownBlock = some k → ¬ Oc k) := by
  obtain ⟨l1, l2, hf⟩ := M.faceE_ok he
  obtain ⟨L, rfl⟩ : ∃ L : Nat, l = (L : Int) := ⟨l.toNat, by omega⟩
  have HD0 : Hid (M.Dw rq rx L 0 L ⟨S, f, L, []⟩ (a, c)) := by
    refine ⟨?_, ⟨I, h.gs, h.gt⟩, hf, hm, by omega, by simp, rfl⟩
    have e := M.dd_away 60 (a, c) L ⟨S, f, L, []⟩ ⟨I, h.gs, h.gt⟩ hf hm rfl
    rw [e]
    have e2 := M.dd_away f.len (a, c) L ⟨S, f, L, []⟩ ⟨I, h.gs, h.gt⟩ hf (Nat.le_refl _) rfl
    rw [← hr]
    show M.away 60 _ _ _ = M.away f.len ⟨S, f, ((L : Int)).toNat, []⟩ (a, c) []
    exact M.away_fuel 60 f.len ⟨S, f, L, []⟩ (a, c) [] ⟨I, h.gs, h.gt⟩ hf (by simp) (by rw [M.free_nil]; exact hm) (by rw [M.free_nil]; exact Nat.le_refl _)
  have qe := T9.run_eql_slots
  have qg := T9.eqGuardSlots
  have hL2 : L ≤ 1000 := by omega
  have HH := hideIt h
  have he' := hideIt he
  clear h he I hf hr
  go_enter Tryz.func21, Tryz.ntmps21
  go_upto_region 1 with fail
  obtain ⟨W, hW, X0, g0⟩ := sboxNew w a c
  rw [hW]
  clear hW
  obtain ⟨x0, x1⟩ := X0.tup
  go_wp2_with fail
  refine ((HH.out.kept g0).check a c L 0 he'.out).mono ?_
  rintro _ w1 ⟨rfl, g1⟩
  clear x0 x1
  have HE0 : Hid (Dl w0 w w1 O O q (.slice none 0 0) S f [] a c) := ⟨⟨(HH.out.kept g0).kept g1, Fr.grown (gbTrans g0 g1), fun i hi => .inl hi, fun i hi => hi⟩, ⟨TL.nil _ _, fun k hk => by simp [Value.ownBlock] at hk⟩, fun k hk => by simp [Value.ownBlock] at hk, ⟨X0.kept g1, fun e => by have := (HH.out.lo _ e).2; omega⟩⟩
  clear X0 g0 g1 HH he'
  go_wp2
  go_loopg [10, 11] L (fun y s10 s11 wr => ∃ (j i : Nat) (x : M.X) (tv : Value) (Oc : Nat → Prop), i = y ∧ tv = s10 ∧ s11 = .int .i64 j ∧ Hid (M.Dw rq rx L j i x (a, c)) ∧ Hid (Dl w0 w wr O Oc q tv x.S x.f x.T a c))
  case atStart => exact ⟨0, L, _, _, _, rfl, rfl, rfl, HD0, HE0⟩
  case round =>
    obtain ⟨j, i, x, tv, Oc, rfl, rfl, rfl, HD, HE⟩ := hrel
    by_cases hi0 : i = 0
    · subst hi0
      have hj : ¬ (j : Int) < (L : Int) := by have := HD.out.sum; omega
      obtain ⟨rfl, rfl⟩ : true = rq ∧ x = rx := by have := HD.out.dd; simpa [M.dd] using this
      go_wp2
      exact bodyPost_ret (v := .tuple #[tv, .bool false, .int .i64 11]) (by simp [results, Tryz.results21, go_sem]) rfl ⟨_, rfl, _, HE.out.ws.rc, HE.out.ws.sub, HE.out.ws.fr, HE.out.ct.tl, HE.out.ct.no⟩
    · obtain ⟨i', rfl⟩ : ∃ i', i = i' + 1 := ⟨i - 1, by omega⟩
      have hj : (j : Int) < (L : Int) := by have := HD.out.sum; omega
      have hj2 : j ≤ 1000 := by have := HD.out.sum; omega
      obtain ⟨⟨A, B⟩, hn⟩ : ∃ z, M.nxt 60 x.S (a, c) [] = z := ⟨_, rfl⟩
      have HNx := hideIt hn
      clear hn
      obtain ⟨x0, x1⟩ := HE.out.bx.sb.tup
      go_wp2_with fail
      refine (HE.out.ws.rc.next HD.out.ok.i a c HD.out.ful HD.out.len 60 HD.out.len A B HNx.out).mono ?_
      rintro _ w2 ⟨rfl, g2⟩
      clear x0 x1
      have HE2 := hideIt (HE.out.kept g2)
      clear g2 HE
      go_upto_region 9 with fail
      obtain ⟨W3, hW3, X3, g3⟩ := sboxNew w2 A B
      rw [hW3]
      clear hW3
      have HE3 := hideIt (HE2.out.kept g3)
      have HX3 : Hid (SB W3 Oc w2.heap.size A B) := ⟨X3, HE2.out.ws.out (Nat.le_refl _)⟩
      have hX3 : Hid (∀ k, tv.ownBlock = some k → k < w2.heap.size) := fun k hk => (HE2.out.ct.tl.lt k hk).2
      clear X3 g3 HE2
      obtain ⟨⟨k, o, r, b, g, u⟩, hcp⟩ : ∃ d, M.gc x.S (A, B) = d := ⟨_, rfl⟩
      obtain ⟨fi, hfi⟩ : ∃ z, M.fin x.S (A, B) = z := ⟨_, rfl⟩
      obtain ⟨nd, hnd⟩ : ∃ z, (k == 2) = z := ⟨_, rfl⟩
      have hs : (M.gc x.S (A, B)).k ≠ 0 := by have := (M.nxt_in 60 x (a, c) [] HD.out.ok HD.out.ful (by simp)).1; rw [HNx.out] at this; exact this
      have HO := hideIt (M.one_is hcp hfi hnd)
      have HS := hideIt hs
      have HC := hideIt hcp
      have HF := hideIt hfi
      have HK : Hid (k ≠ 0) := by have := hs; rw [hcp] at this; exact this
      have HT : Hid (x.T.length ≤ 2000) := by have := HD.out.tol; show _ ≤ _; omega
      have HNd := hideIt hnd
      clear hcp hfi hnd hs
      obtain ⟨x0, x1⟩ := HX3.out.sb.tup
      go_wp2_with fail
      refine (HE3.out.ws.rc.step11 HD.out.ok.i tv x.T HE3.out.ct A B k o r b g u fi nd HD.out.len HT.out HC HK HF.out HNd.out).mono ?_
      rintro _ w4 ⟨tv4, Od, rfl, P4⟩
      clear x0 x1
      have HE4 := hideIt (HE3.out.step P4)
      have HX4 : Hid (SBox w4 w2.heap.size A B) := P4.ws.fr.sbox HX3.out.sb (fun e => e.elim HX3.out.no (fun e => by have := hX3.out _ e; omega))
      clear P4 HX3 HE3 hX3
      obtain ⟨u9, hu9⟩ : ∃ z, T9.M.seq A B a c = z := ⟨_, rfl⟩
      have hseq : Hid (u9 = true ↔ (A, B) = (a, c)) := by
        rw [← hu9]
        exact seq_iff
      obtain ⟨x0, x1⟩ := HX4.out.tup
      obtain ⟨y0, y1⟩ := HE4.out.bx.sb.tup
      cases u9
      · have hne : ¬ (A, B) = (a, c) := fun e => by have := hseq.out.2 e; cases this
        have HD4 : Hid (M.Dw rq rx L (j + 1) i' (M.one x (A, B)) (a, c)) := by
          have e := HD.out.dd
          unfold M.dd at e
          rw [HNx.out, if_neg hne] at e
          refine ⟨e, HD.out.ok.one HS.out, ?_, ?_, by have := HD.out.sum; omega, Nat.le_trans (M.T_one _ _) (by have := HD.out.tol; omega), by have := HD.out.lef; show x.l - 1 = i'; omega⟩
          · rw [M.gc_one HD.out.ok HS.out, if_neg (fun e => hne e.symm)]; exact HD.out.ful
          · have := M.len_one HD.out.ok HS.out; have := HD.out.len; omega
        have HE5 : Hid (Dl w0 w w4 O Od q tv4 (M.one x (A, B)).S (M.one x (A, B)).f (M.one x (A, B)).T a c) := by
          show Dl _ _ _ _ _ _ _ _ _ _ _ _
          rw [HO.out]; exact HE4.out
        clear HD HE4 HX4 hseq hne HO HS HC HF HK HT HNd HNx
        go_wp2
        go_roundg i'
        case rel => exact ⟨j + 1, i', _, tv4, Od, rfl, rfl, by go_num, HD4, HE5⟩
        case measure => omega
      · have heq : (A, B) = (a, c) := hseq.out.1 rfl
        obtain ⟨rfl, rfl⟩ : A = a ∧ B = c := by simpa using heq
        obtain ⟨rfl, hrx⟩ : false = rq ∧ M.one x (A, B) = rx := by
          have e := HD.out.dd
          unfold M.dd at e
          rw [HNx.out, if_pos rfl] at e
          simpa using e
        have HR := hideIt hrx
        have HE5 : Hid (Dl w0 w w4 O Od q tv4 rx.S rx.f rx.T A B) := by
          show Dl _ _ _ _ _ _ _ _ _ _ _ _
          rw [← HR.out, HO.out]; exact HE4.out
        clear HD HE4 HX4 hseq heq HO HS HC HF HK HT HNd HNx hrx HR
        go_wp2
        exact bodyPost_ret (v := .tuple #[tv4, .bool true, .int .i64 0]) (by simp [results, Tryz.results21, go_sem]) rfl ⟨_, rfl, _, HE5.out.ws.rc, HE5.out.ws.sub, HE5.out.ws.fr, HE5.out.ct.tl, HE5.out.ct.no⟩
end Go.Proofs.YtdnoidnpiaadaaaGreat

/-
  THE CONTRACT of the document's side: donjonref11's Revoke.
-/
namespace Go.Proofs.YtdnoidnpiaadaaaGreat
set_option maxRecDepth 10000
open Go.RowKit
set_option linter.unusedVariables false

theorem Fr.frozen {O : Nat → Prop} {w w' : World} (F : Fr O w w') {x : Nat} (hx : x < w.heap.size) (ho : ¬ O x) (j : Nat) : w'.frozen? ⟨x, j, none⟩ = w.frozen? ⟨x, j, none⟩ := by
  have e := F.block x hx ho
  unfold World.frozen?
  simp only [e]
/-- The block of the slot that is being taken away. -/
structure Gl (w wr : World) (Oc : Nat → Prop) (tv : Value) (Y : Nat) (g0 g1 : Int) : Prop where
  sf : SF wr Y g0 g1
  no : ¬ Oc Y
  gt : w.heap.size < Y
  ne : tv.ownBlock ≠ some Y
namespace Gl
variable {w0 w wr wd : World} {Oc Od : Nat → Prop} {q Y : Nat} {tv tv' : Value} {S' : St} {f' : T9.Fo} {T' : List C} {g0 g1 : Int}
theorem kept (h : Gl w wr Oc tv Y g0 g1) (g : wr.grownBy wd none) : Gl w wd Oc tv Y g0 g1 := ⟨h.sf.kept g, h.no, h.gt, h.ne⟩
theorem step (h : Gl w wr Oc tv Y g0 g1) (s : Stp w0 wr wd Oc tv tv' q S' f' T' Od) : Gl w wd Od tv' Y g0 g1 := by
  have hlt := h.sf.sb.lt
  have hno : ¬ (Oc Y ∨ tv.ownBlock = some Y) := fun e => e.elim h.no h.ne
  refine ⟨⟨s.ws.fr.sbox h.sf.sb hno, fun j => (s.ws.fr.frozen hlt hno j).trans (h.sf.fz j)⟩, fun e => ?_, h.gt, fun e => ?_⟩
  · rcases s.ws.sub _ e with e | e
    · exact h.no e
    · omega
  · rcases s.bl _ e with e | e
    · exact h.ne e
    · omega
end Gl
/-- The goal's block is written. -/
theorem Dl.put {w0 w wr wd : World} {O Oc : Nat → Prop} {q Y : Nat} {tv : Value} {S : St} {f : T9.Fo} {T : List C} {a c g0 g1 : Int} (h : Dl w0 w wr O Oc q tv S f T a c) (G : Gl w wr Oc tv Y g0 g1) (g : wr.grownBy wd (some Y)) (hw0 : w0.heap.size ≤ w.heap.size) : Dl w0 w wd O Oc q tv S f T a c := by
  have hgt := G.gt
  refine ⟨h.ws.put (v := .slice (some ⟨Y, 0, none⟩) 1 1) g (fun k hk => ?_), ⟨h.ct.tl.keep g (fun k hk e => G.ne (by rw [hk, e])), h.ct.no⟩, h.bl, h.bx.keep g (by omega)⟩
  simp only [Value.ownBlock, Option.some.injEq] at hk
  subst hk
  have := h.ws.rc.gr.size
  have := h.ws.fr.size
  exact ⟨G.no, by omega, .inr (by omega)⟩
theorem M.kin_no {x : M.X} (h : M.Ok x) {a : Int × Int} (ha : (M.gc x.S a).k = 0) : x.f.kin a = [] := by
  have : a ∉ x.f.pre := fun e => (h.i.inv a).1 e ha
  unfold T9.Fo.kin
  rw [T9.Fo.sub_none.2 this]
/-- Where the document's Revoke stands. -/
structure M.Rw (rq : Bool) (rx : M.X) (L j : Nat) (x : M.X) (a g : Int × Int) : Prop where
  st : (j ≤ L ∧ x.l = L - j ∧ M.rd 60 a (L - j) x (if g = a then none else some g) = (rq, rx)) ∨ (j = L + 1 ∧ rq = true ∧ x = rx)
  ok : M.Ok x
  len : x.f.len ≤ 60
  tol : x.T.length ≤ j
/-- The same, a goal having been found. -/
structure M.Rg (rq : Bool) (rx : M.X) (L j : Nat) (x : M.X) (a g : Int × Int) : Prop where
  lt : j < L → M.rd 60 a (L - j - 1) (M.one x (M.nxt 60 x.S g [])) (some g) = (rq, rx)
  eq : j = L → rq = true ∧ x = rx
  jl : j ≤ L
  lef : x.l = L - j
  ne : g ≠ a
  ful : (M.gc x.S g).k ≠ 0
  ok : M.Ok x
  len : x.f.len ≤ 60
  tol : x.T.length ≤ j
namespace M
variable {rq : Bool} {rx x : X} {L j : Nat} {a g : Int × Int}
theorem Rw.rd (h : Rw rq rx L j x a g) (hj : j ≤ L) : x.l = L - j ∧ rd 60 a (L - j) x (if g = a then none else some g) = (rq, rx) := by
  rcases h.st with e | e
  · exact e.2
  · omega
theorem Rw.last (h : Rw rq rx L j x a g) (hj : ¬ j ≤ L) : rq = true ∧ x = rx := by
  rcases h.st with e | e
  · omega
  · exact e.2
/-- The goal is not empty. -/
theorem Rw.go (h : Rw rq rx L j x a g) (hj : j ≤ L) (hg : g ≠ a) (hf : (gc x.S g).k ≠ 0) : Rg rq rx L j x a g := by
  obtain ⟨h1, h2⟩ := h.rd hj
  rw [if_neg hg] at h2
  refine ⟨fun hl => ?_, fun hl => ?_, hj, h1, hg, hf, h.ok, h.len, h.tol⟩
  · obtain ⟨R, hR⟩ : ∃ R, L - j = R + 1 := ⟨L - j - 1, by omega⟩
    rw [hR] at h2
    rw [hR]
    unfold M.rd at h2
    rw [if_neg hf] at h2
    exact h2
  · have e : L - j = 0 := by omega
    rw [e] at h2
    unfold M.rd at h2
    rw [if_neg hf] at h2
    simp only [Prod.mk.injEq] at h2
    exact ⟨h2.1.symm, h2.2⟩
/-- No goal, or an empty one. -/
def Emp (S : St) (a g : Int × Int) : Prop := g = a ∨ (gc S g).k = 0
theorem Rw.none (h : Rw rq rx L j x a g) (hj : j ≤ L) (hg : Emp x.S a g) (hk : (x.f.kin a).getLast? = none) : rq = false ∧ x = rx := by
  obtain ⟨h1, h2⟩ := h.rd hj
  have e : M.rd 60 a (L - j) x (if g = a then Option.none else some g) = (false, x) := by
    by_cases hga : g = a
    · rw [if_pos hga]
      cases L - j <;> (unfold M.rd; rw [hk])
    · rw [if_neg hga]
      have hf : (gc x.S g).k = 0 := hg.resolve_left hga
      cases L - j <;> (unfold M.rd; rw [if_pos hf, hk])
  rw [e] at h2
  simp only [Prod.mk.injEq] at h2
  exact ⟨h2.1.symm, h2.2⟩
theorem Rw.some (h : Rw rq rx L j x a g) (hj : j ≤ L) (hg : Emp x.S a g) {b : Int × Int} (hk : (x.f.kin a).getLast? = some b) : Rg rq rx L j x a b := by
  obtain ⟨h1, h2⟩ := h.rd hj
  have hm := List.mem_of_getLast? hk
  have hb : b ≠ a := fun e => kin_self h.ok.t.nd a (by rw [e] at hm; exact hm)
  have hf : (gc x.S b).k ≠ 0 := kin_full2 h.ok hm
  have e : M.rd 60 a (L - j) x (if g = a then Option.none else Option.some g) = M.rd 60 a (L - j) x Option.none := by
    by_cases hga : g = a
    · rw [if_pos hga]
    · rw [if_neg hga]
      have hf : (gc x.S g).k = 0 := hg.resolve_left hga
      cases L - j <;> (conv => lhs; unfold M.rd) <;> (conv => rhs; unfold M.rd) <;> rw [if_pos hf]
  rw [e] at h2
  refine ⟨fun hl => ?_, fun hl => ?_, hj, h1, hb, hf, h.ok, h.len, h.tol⟩
  · obtain ⟨R, hR⟩ : ∃ R, L - j = R + 1 := ⟨L - j - 1, by omega⟩
    rw [hR] at h2
    rw [hR]
    unfold M.rd at h2
    rw [hk] at h2
    exact h2
  · have e : L - j = 0 := by omega
    rw [e] at h2
    unfold M.rd at h2
    rw [hk] at h2
    simp only [Prod.mk.injEq] at h2
    exact ⟨h2.1.symm, h2.2⟩
theorem Rg.fin (h : Rg rq rx L j x a g) (hj : ¬ j < L) : Rw rq rx L (j + 1) x a g := by
  have hh := h.jl
  have e : j = L := by omega
  exact ⟨.inr ⟨by omega, h.eq e⟩, h.ok, h.len, Nat.le_succ_of_le h.tol⟩
theorem Rg.more (h : Rg rq rx L j x a g) (hj : j < L) {s : Int × Int} (hs : nxt 60 x.S g [] = s) : (gc x.S s).k ≠ 0 ∧ Rw rq rx L (j + 1) (one x s) a g := by
  have h1 := (nxt_in 60 x g [] h.ok h.ful (by simp)).1
  have h2 := h.lt hj
  rw [hs] at h1 h2
  refine ⟨h1, ⟨.inl ⟨hj, by have := h.lef; show x.l - 1 = _; omega, ?_⟩, h.ok.one h1, by have := len_one h.ok h1; have := h.len; omega, Nat.le_trans (T_one x s) (Nat.succ_le_succ h.tol)⟩⟩
  rw [if_neg h.ne, ← h2, show L - (j + 1) = L - j - 1 by omega]
end M

theorem Rc.revoke_no {w0 w : World} {O : Nat → Prop} {q : Nat} {S : St} {f : T9.Fo} (h : Rc w0 w O q S f) (a c l e : Int) (he : M.faceE S (a, c) l = e) (hne : (e != 0) = true) :
    Calls Tryz.prog 24 #[.pointer (some ⟨q, 0, none⟩), sv a c, .int .i64 l] w fun x w' => x = .returned (.tuple #[.slice none 0 0, .bool false, .int .i64 e]) ∧ w.grownBy w' none := by
  have HH := hideIt h
  have he' := hideIt he
  clear h he
  go_enter Tryz.func24, Tryz.ntmps24
  go_upto_region 1 with fail
  obtain ⟨W, hW, X0, g0⟩ := sboxNew w a c
  rw [hW]
  clear hW
  obtain ⟨x0, x1⟩ := X0.tup
  go_wp2_with fail
  refine ((HH.out.kept g0).check a c l e he'.out).mono ?_
  rintro _ w1 ⟨rfl, g1⟩
  clear x0 x1 X0
  go_wp2
  exact bodyPost_ret (v := .tuple #[.slice none 0 0, .bool false, .int .i64 e]) (by simp [results, Tryz.results24, go_sem]) rfl ⟨rfl, gbTrans g0 g1⟩

set_option maxHeartbeats 8000000 in
theorem Rc.revoke_yes {w0 w : World} {O : Nat → Prop} {q : Nat} {S : St} {f : T9.Fo} (h : Rc w0 w O q S f) (I : M.Inv S f) (a c l : Int) (hm : f.len ≤ 60) (he : M.faceE S (a, c) l = 0) (rq : Bool) (rx : M.X) (hr : M.revR S f (a, c) l = (rq, rx)) :
    Calls Tryz.prog 24 #[.pointer (some ⟨q, 0, none⟩), sv a c, .int .i64 l] w fun x w' => ∃ tv Oc, x = .returned (.tuple #[tv, .bool (!rq), .int .i64 (if rq then 11 else 0)]) ∧ Rc w0 w' Oc q rx.S rx.f ∧ (∀ i, Oc i → O i ∨ w.heap.size ≤ i) ∧ Fr O w w' ∧ TL w' w0.heap.size tv rx.T ∧ (∀ k, tv.ownBlock = some k → ¬ Oc k) := by
  obtain ⟨l1, l2, hf⟩ := M.faceE_ok he
  obtain ⟨L, rfl⟩ : ∃ L : Nat, l = (L : Int) := ⟨l.toNat, by omega⟩
  have HR0 : Hid (M.Rw rq rx L 0 ⟨S, f, L, []⟩ (a, c) (a, c)) := by
    refine ⟨.inl ⟨by omega, rfl, ?_⟩, ⟨I, h.gs, h.gt⟩, hm, by simp⟩
    rw [if_pos rfl, ← hr]
    exact (M.rd_rvk 60 (a, c) L ⟨S, f, L, []⟩ (f.len + 1) ⟨I, h.gs, h.gt⟩ hm rfl (Nat.lt_succ_self _)).1
  have qe := T9.run_eql_slots
  have qn := T9.run_neq_slots
  have qg := T9.eqGuardSlots
  have hL2 : L ≤ 1000 := by omega
  have hw0 := hideIt h.gr.size
  have HH := hideIt h
  have he' := hideIt he
  clear h he I hf hr
  go_enter Tryz.func24, Tryz.ntmps24
  go_upto_region 1 with fail
  obtain ⟨W, hW, X0, g0⟩ := sboxNew w a c
  rw [hW]
  clear hW
  obtain ⟨x0, x1⟩ := X0.tup
  go_wp2_with fail
  refine ((HH.out.kept g0).check a c L 0 he'.out).mono ?_
  rintro _ w1 ⟨rfl, g1⟩
  clear x0 x1
  have HE0 : Hid (Dl w0 w w1 O O q (.slice none 0 0) S f [] a c) := ⟨⟨(HH.out.kept g0).kept g1, Fr.grown (gbTrans g0 g1), fun i hi => .inl hi, fun i hi => hi⟩, ⟨TL.nil _ _, fun k hk => by simp [Value.ownBlock] at hk⟩, fun k hk => by simp [Value.ownBlock] at hk, ⟨X0.kept g1, fun e => by have := (HH.out.lo _ e).2; omega⟩⟩
  clear X0 g0 g1 HH he'
  obtain ⟨x0, x1⟩ := HE0.out.bx.sb.tup
  go_upto_region 6 with fail
  obtain ⟨W2, hW2, X2, g2⟩ := sfNew w1 a c
  rw [hW2]
  clear hW2 x0 x1
  obtain ⟨Y, hY⟩ : ∃ Y, w1.heap.size = Y := ⟨_, rfl⟩
  have HG0 : Hid (Gl w W2 O (.slice none 0 0) w1.heap.size a c) := ⟨X2, HE0.out.ws.out (Nat.le_refl _), HE0.out.bx.sb.lt, by simp [Value.ownBlock]⟩
  have HE1 := hideIt (HE0.out.kept g2)
  rw [hY] at HG0 ⊢
  clear X2 g2 HE0 hY
  go_wp2
  go_loopg [10, 12] (L + 1) (fun y s10 s12 wr => ∃ (j : Nat) (x : M.X) (tv : Value) (Oc : Nat → Prop) (g0 g1 : Int), j + y = L + 1 ∧ tv = s10 ∧ s12 = .int .i64 j ∧ Hid (M.Rw rq rx L j x (a, c) (g0, g1)) ∧ Hid (Dl w0 w wr O Oc q tv x.S x.f x.T a c) ∧ Hid (Gl w wr Oc tv Y g0 g1))
  case atStart => exact ⟨0, _, _, _, a, c, by omega, rfl, rfl, HR0, HE1, HG0⟩
  case round =>
    obtain ⟨j, x, tv, Oc, g0, g1, hj, rfl, rfl, HR, HE, HG⟩ := hrel
    by_cases hjL : j ≤ L
    · have hjL' : (j : Int) ≤ (L : Int) := by omega
      obtain ⟨u1, hu1⟩ : ∃ z, T9.M.seq g0 g1 a c = z := ⟨_, rfl⟩
      obtain ⟨x0, x1⟩ := HE.out.bx.sb.tup
      obtain ⟨y0, y1⟩ := HG.out.sf.sb.tup
      cases u1
      · have hne := hideIt (seq_no.1 hu1)
        obtain ⟨b5, hb5⟩ : ∃ z, ((M.gc x.S (g0, g1)).k != 0) = z := ⟨_, rfl⟩
        have HB5 := hideIt hb5
        clear hb5
        go_wp2_with fail
        refine (HE.out.ws.rc.fulla g0 g1 b5 HB5.out).mono ?_
        rintro _ w2 ⟨rfl, g2⟩
        clear x0 x1 y0 y1
        have HE2 := hideIt (HE.out.kept g2)
        have HG2 := hideIt (HG.out.kept g2)
        clear g2 HE HG
        cases b5
        · have HEm : Hid (M.Emp x.S (a, c) (g0, g1)) := by have := HB5.out; exact .inr (by simpa using this)
          obtain ⟨x0, x1⟩ := HE2.out.bx.sb.tup
          obtain ⟨y0, y1⟩ := HG2.out.sf.sb.tup
          have f0 := HG2.out.sf.fz 0
          have f1 := HG2.out.sf.fz 1
          go_upto_region 11 with fail
          obtain ⟨V3, hV3, X3, g3⟩ := HG2.out.sf.put a c
          rw [hV3]
          have HE3 := hideIt (HE2.out.put HG2.out g3 hw0.out)
          have HG3 : Hid (Gl w V3 Oc tv Y a c) := ⟨X3, HG2.out.no, HG2.out.gt, HG2.out.ne⟩
          clear hV3 x0 x1 y0 y1 f0 f1 X3 g3 HE2 HG2
          obtain ⟨x0, x1⟩ := HE3.out.bx.sb.tup
          obtain ⟨y0, y1⟩ := HG3.out.sf.sb.tup
          have hse := T9.M.seq_refl a c
          go_upto_region 12 with fail
          clear x0 x1 y0 y1
          have T0 : Two V3.drew w.heap.size a c := (HE3.out.kept (gbDrewN V3 1 none)).bx.sb.tup
          go_region_held3 (fun w' => Two w' w.heap.size a c)
            (first | with_reducible exact T0 | with_reducible exact T1 | fail)
            ((first | (go_at_call 15; refine ((HE3.out.kept (gbDrewN V3 1 none)).ws.rc.kin a c HR.out.len).mono ?_; rintro _ w4 ⟨v4, rfl, l4, g4⟩; have HE4 := hideIt ((HE3.out.kept (gbDrewN V3 1 none)).kept g4); have HG4 := hideIt ((HG3.out.kept (gbDrewN V3 1 none)).kept g4); have T1 : Two w4 w.heap.size a c := HE4.out.bx.sb.tup; have HL4 := hideIt l4) | fail))
          rename_i hold
          clear hold T0 T1 l4 g4
          obtain ⟨b6, hb6⟩ : ∃ z, ((M.gc x.S (a, c)).k != 0) = z := ⟨_, rfl⟩
          have HB6 := hideIt hb6
          clear hb6
          obtain ⟨x0, x1⟩ := HE4.out.bx.sb.tup
          go_wp2_with fail
          refine (HE4.out.ws.rc.fulla a c b6 HB6.out).mono ?_
          rintro _ w5 ⟨rfl, g5⟩
          clear x0 x1
          have HE5 := hideIt (HE4.out.kept g5)
          have HG5 := hideIt (HG4.out.kept g5)
          have HL5 := hideIt (HL4.out.kept g5)
          clear g5 HE4 HG4 HL4
          have hkl : (x.f.kin (a, c)).length ≤ 60 := Nat.le_trans (kin_len11 x.f (a, c)) HR.out.len
          rcases HL5.out.last with ⟨h1, h2, xo, cap, rfl⟩ | ⟨gg, nq, cap, e0, e1, h1, h2, rfl, z0, z1⟩
          · obtain ⟨rfl, rfl⟩ := HR.out.none hjL HEm.out h1
            have HE6 := hideIt HE5
            cases b6
            · go_wp2
              exact bodyPost_ret (v := .tuple #[tv, .bool true, .int .i64 0]) (by simp [results, Tryz.results24, go_sem]) rfl ⟨_, rfl, _, HE5.out.ws.rc, HE5.out.ws.sub, HE5.out.ws.fr, HE5.out.ct.tl, HE5.out.ct.no⟩
            · go_wp2
              exact bodyPost_ret (v := .tuple #[tv, .bool true, .int .i64 0]) (by simp [results, Tryz.results24, go_sem]) rfl ⟨_, rfl, _, HE5.out.ws.rc, HE5.out.ws.sub, HE5.out.ws.fr, HE5.out.ct.tl, HE5.out.ct.no⟩
          · obtain rfl : b6 = true := by
              cases b6
              · exfalso
                have e : (M.gc x.S (a, c)).k = 0 := by have := HB6.out; simpa using this
                rw [M.kin_no HR.out.ok e] at h1
                cases h1
              · rfl
            have HS := hideIt (HR.out.some hjL HEm.out h1)
            have hq : ¬ ((nq + 1 : Nat) : Int) = 0 := by omega
            have hq1 : ((nq + 1 : Nat) : Int) - 1 = (nq : Int) := by omega
            have hq2 : (nq : Int) ≤ 1000 := by omega
            have hq3 : nq < nq + 1 := Nat.lt_succ_self nq
            obtain ⟨NQ, hNQ⟩ : ∃ NQ, nq + 1 = NQ := ⟨_, rfl⟩
            rw [hNQ] at hq hq1 hq3 ⊢
            have hQl : (NQ : Int) ≤ 1001 := by omega
            clear hNQ h1 h2 hkl
            obtain ⟨y0, y1⟩ := HG5.out.sf.sb.tup
            have f0 := HG5.out.sf.fz 0
            have f1 := HG5.out.sf.fz 1
            go_upto_region 16 with fail
            obtain ⟨V6, hV6, X6, g6⟩ := HG5.out.sf.put e0 e1
            rw [hV6]
            have HE6 := hideIt (HE5.out.put HG5.out g6 hw0.out)
            have HG6 : Hid (Gl w V6 Oc tv Y e0 e1) := ⟨X6, HG5.out.no, HG5.out.gt, HG5.out.ne⟩
            clear hV6 y0 y1 f0 f1 z0 z1 X6 g6 HE5 HG5 HL5 hq hq1 hq2 hq3 hQl
            by_cases hlt : j < L
            · have hlt' : (j : Int) < (L : Int) := by omega
              obtain ⟨⟨A, B⟩, hn⟩ : ∃ z, M.nxt 60 x.S (e0, e1) [] = z := ⟨_, rfl⟩
              obtain ⟨hs, HRn⟩ := HS.out.more hlt hn
              obtain ⟨⟨k, o, r, b, g, u⟩, hcp⟩ : ∃ d, M.gc x.S (A, B) = d := ⟨_, rfl⟩
              obtain ⟨fi, hfi⟩ : ∃ z, M.fin x.S (A, B) = z := ⟨_, rfl⟩
              obtain ⟨nd, hnd⟩ : ∃ z, (k == 2) = z := ⟨_, rfl⟩
              have HNx := hideIt hn
              have HRn' := hideIt HRn
              have HO := hideIt (M.one_is hcp hfi hnd)
              have HC := hideIt hcp
              have HF := hideIt hfi
              have HK : Hid (k ≠ 0) := by have := hs; rw [hcp] at this; exact this
              have HT : Hid (x.T.length ≤ 2000) := by have := HS.out.tol; show _ ≤ _; omega
              have HNd := hideIt hnd
              clear hcp hfi hnd hs hn HRn
              obtain ⟨y0, y1⟩ := HG6.out.sf.sb.tup
              go_wp2_with fail
              refine (HE6.out.ws.rc.next HS.out.ok.i e0 e1 HS.out.ful HS.out.len 60 HS.out.len A B HNx.out).mono ?_
              rintro _ w7 ⟨rfl, g7⟩
              have HE7 := hideIt (HE6.out.kept g7)
              have HG7 := hideIt (HG6.out.kept g7)
              clear y0 y1 g7
              go_wp2_with fail
              refine (HE7.out.ws.rc.step11 HS.out.ok.i tv x.T HE7.out.ct A B k o r b g u fi nd HS.out.len HT.out HC HK HF.out HNd.out).mono ?_
              rintro _ w8 ⟨tv8, Od, rfl, P8⟩
              have HG8 := hideIt (HG7.out.step P8)
              have HE8 : Hid (Dl w0 w w8 O Od q tv8 (M.one x (A, B)).S (M.one x (A, B)).f (M.one x (A, B)).T a c) := by
                show Dl _ _ _ _ _ _ _ _ _ _ _ _
                rw [HO.out]; exact HE7.out.step P8
              clear P8 HE7 HG7 HO HC HF HK HT HNd HNx
              go_wp2
              go_roundg (gk - 1)
              case rel => exact ⟨j + 1, _, tv8, Od, e0, e1, by omega, rfl, by go_num, HRn', HE8, HG8⟩
              case measure => omega
            · have hlt' : ¬ (j : Int) < (L : Int) := by omega
              have HRn := hideIt (HS.out.fin hlt)
              go_wp2
              go_roundg (gk - 1)
              case rel => exact ⟨j + 1, x, tv, Oc, e0, e1, by omega, rfl, by go_num, HRn, HE6, HG6⟩
              case measure => omega
        · have HS : Hid (M.Rg rq rx L j x (a, c) (g0, g1)) := HR.out.go hjL hne.out (by have := HB5.out; simpa using this)
          obtain ⟨x0, x1⟩ := HE2.out.bx.sb.tup
          obtain ⟨y0, y1⟩ := HG2.out.sf.sb.tup
          go_upto_region 16 with fail
          clear x0 x1 y0 y1
          by_cases hlt : j < L
          · have hlt' : (j : Int) < (L : Int) := by omega
            obtain ⟨⟨A, B⟩, hn⟩ : ∃ z, M.nxt 60 x.S (g0, g1) [] = z := ⟨_, rfl⟩
            obtain ⟨hs, HRn⟩ := HS.out.more hlt hn
            obtain ⟨⟨k, o, r, b, g, u⟩, hcp⟩ : ∃ d, M.gc x.S (A, B) = d := ⟨_, rfl⟩
            obtain ⟨fi, hfi⟩ : ∃ z, M.fin x.S (A, B) = z := ⟨_, rfl⟩
            obtain ⟨nd, hnd⟩ : ∃ z, (k == 2) = z := ⟨_, rfl⟩
            have HNx := hideIt hn
            have HRn' := hideIt HRn
            have HO := hideIt (M.one_is hcp hfi hnd)
            have HC := hideIt hcp
            have HF := hideIt hfi
            have HK : Hid (k ≠ 0) := by have := hs; rw [hcp] at this; exact this
            have HT : Hid (x.T.length ≤ 2000) := by have := HS.out.tol; show _ ≤ _; omega
            have HNd := hideIt hnd
            clear hcp hfi hnd hs hn HRn
            obtain ⟨y0, y1⟩ := HG2.out.sf.sb.tup
            go_wp2_with fail
            refine (HE2.out.ws.rc.next HS.out.ok.i g0 g1 HS.out.ful HS.out.len 60 HS.out.len A B HNx.out).mono ?_
            rintro _ w7 ⟨rfl, g7⟩
            have HE7 := hideIt (HE2.out.kept g7)
            have HG7 := hideIt (HG2.out.kept g7)
            clear y0 y1 g7
            go_wp2_with fail
            refine (HE7.out.ws.rc.step11 HS.out.ok.i tv x.T HE7.out.ct A B k o r b g u fi nd HS.out.len HT.out HC HK HF.out HNd.out).mono ?_
            rintro _ w8 ⟨tv8, Od, rfl, P8⟩
            have HG8 := hideIt (HG7.out.step P8)
            have HE8 : Hid (Dl w0 w w8 O Od q tv8 (M.one x (A, B)).S (M.one x (A, B)).f (M.one x (A, B)).T a c) := by
              show Dl _ _ _ _ _ _ _ _ _ _ _ _
              rw [HO.out]; exact HE7.out.step P8
            clear P8 HE7 HG7 HO HC HF HK HT HNd HNx
            go_wp2
            go_roundg (gk - 1)
            case rel => exact ⟨j + 1, _, tv8, Od, g0, g1, by omega, rfl, by go_num, HRn', HE8, HG8⟩
            case measure => omega
          · have hlt' : ¬ (j : Int) < (L : Int) := by omega
            have HRn := hideIt (HS.out.fin hlt)
            go_wp2
            go_roundg (gk - 1)
            case rel => exact ⟨j + 1, x, tv, Oc, g0, g1, by omega, rfl, by go_num, HRn, HE2, HG2⟩
            case measure => omega
      · obtain ⟨rfl, rfl⟩ : g0 = a ∧ g1 = c := by have := seq_iff.1 hu1; simpa using this
        have HEm : Hid (M.Emp x.S (g0, g1) (g0, g1)) := .inl rfl
        have hse := T9.M.seq_refl g0 g1
        go_upto_region 12 with fail
        clear x0 x1 y0 y1
        have T0 : Two wr.drew w.heap.size g0 g1 := (HE.out.kept (gbDrewN wr 1 none)).bx.sb.tup
        go_region_held3 (fun w' => Two w' w.heap.size g0 g1)
          (first | with_reducible exact T0 | with_reducible exact T1 | fail)
          ((first | (go_at_call 15; refine ((HE.out.kept (gbDrewN wr 1 none)).ws.rc.kin g0 g1 HR.out.len).mono ?_; rintro _ w4 ⟨v4, rfl, l4, g4⟩; have HE4 := hideIt ((HE.out.kept (gbDrewN wr 1 none)).kept g4); have HG4 := hideIt ((HG.out.kept (gbDrewN wr 1 none)).kept g4); have T1 : Two w4 w.heap.size g0 g1 := HE4.out.bx.sb.tup; have HL4 := hideIt l4) | fail))
        rename_i hold
        clear hold T0 T1 l4 g4
        obtain ⟨b6, hb6⟩ : ∃ z, ((M.gc x.S (g0, g1)).k != 0) = z := ⟨_, rfl⟩
        have HB6 := hideIt hb6
        clear hb6
        obtain ⟨x0, x1⟩ := HE4.out.bx.sb.tup
        go_wp2_with fail
        refine (HE4.out.ws.rc.fulla g0 g1 b6 HB6.out).mono ?_
        rintro _ w5 ⟨rfl, g5⟩
        clear x0 x1
        have HE5 := hideIt (HE4.out.kept g5)
        have HG5 := hideIt (HG4.out.kept g5)
        have HL5 := hideIt (HL4.out.kept g5)
        clear g5 HE4 HG4 HL4
        have hkl : (x.f.kin (g0, g1)).length ≤ 60 := Nat.le_trans (kin_len11 x.f (g0, g1)) HR.out.len
        rcases HL5.out.last with ⟨h1, h2, xo, cap, rfl⟩ | ⟨gg, nq, cap, e0, e1, h1, h2, rfl, z0, z1⟩
        · obtain ⟨rfl, rfl⟩ := HR.out.none hjL HEm.out h1
          have HE6 := hideIt HE5
          cases b6
          · go_wp2
            exact bodyPost_ret (v := .tuple #[tv, .bool true, .int .i64 0]) (by simp [results, Tryz.results24, go_sem]) rfl ⟨_, rfl, _, HE5.out.ws.rc, HE5.out.ws.sub, HE5.out.ws.fr, HE5.out.ct.tl, HE5.out.ct.no⟩
          · go_wp2
            exact bodyPost_ret (v := .tuple #[tv, .bool true, .int .i64 0]) (by simp [results, Tryz.results24, go_sem]) rfl ⟨_, rfl, _, HE5.out.ws.rc, HE5.out.ws.sub, HE5.out.ws.fr, HE5.out.ct.tl, HE5.out.ct.no⟩
        · obtain rfl : b6 = true := by
            cases b6
            · exfalso
              have e : (M.gc x.S (g0, g1)).k = 0 := by have := HB6.out; simpa using this
              rw [M.kin_no HR.out.ok e] at h1
              cases h1
            · rfl
          have HS := hideIt (HR.out.some hjL HEm.out h1)
          have hq : ¬ ((nq + 1 : Nat) : Int) = 0 := by omega
          have hq1 : ((nq + 1 : Nat) : Int) - 1 = (nq : Int) := by omega
          have hq2 : (nq : Int) ≤ 1000 := by omega
          have hq3 : nq < nq + 1 := Nat.lt_succ_self nq
          obtain ⟨NQ, hNQ⟩ : ∃ NQ, nq + 1 = NQ := ⟨_, rfl⟩
          rw [hNQ] at hq hq1 hq3 ⊢
          have hQl : (NQ : Int) ≤ 1001 := by omega
          clear hNQ h1 h2 hkl
          obtain ⟨y0, y1⟩ := HG5.out.sf.sb.tup
          have f0 := HG5.out.sf.fz 0
          have f1 := HG5.out.sf.fz 1
          go_upto_region 16 with fail
          obtain ⟨V6, hV6, X6, g6⟩ := HG5.out.sf.put e0 e1
          rw [hV6]
          have HE6 := hideIt (HE5.out.put HG5.out g6 hw0.out)
          have HG6 : Hid (Gl w V6 Oc tv Y e0 e1) := ⟨X6, HG5.out.no, HG5.out.gt, HG5.out.ne⟩
          clear hV6 y0 y1 f0 f1 z0 z1 X6 g6 HE5 HG5 HL5 hq hq1 hq2 hq3 hQl
          by_cases hlt : j < L
          · have hlt' : (j : Int) < (L : Int) := by omega
            obtain ⟨⟨A, B⟩, hn⟩ : ∃ z, M.nxt 60 x.S (e0, e1) [] = z := ⟨_, rfl⟩
            obtain ⟨hs, HRn⟩ := HS.out.more hlt hn
            obtain ⟨⟨k, o, r, b, g, u⟩, hcp⟩ : ∃ d, M.gc x.S (A, B) = d := ⟨_, rfl⟩
            obtain ⟨fi, hfi⟩ : ∃ z, M.fin x.S (A, B) = z := ⟨_, rfl⟩
            obtain ⟨nd, hnd⟩ : ∃ z, (k == 2) = z := ⟨_, rfl⟩
            have HNx := hideIt hn
            have HRn' := hideIt HRn
            have HO := hideIt (M.one_is hcp hfi hnd)
            have HC := hideIt hcp
            have HF := hideIt hfi
            have HK : Hid (k ≠ 0) := by have := hs; rw [hcp] at this; exact this
            have HT : Hid (x.T.length ≤ 2000) := by have := HS.out.tol; show _ ≤ _; omega
            have HNd := hideIt hnd
            clear hcp hfi hnd hs hn HRn
            obtain ⟨y0, y1⟩ := HG6.out.sf.sb.tup
            go_wp2_with fail
            refine (HE6.out.ws.rc.next HS.out.ok.i e0 e1 HS.out.ful HS.out.len 60 HS.out.len A B HNx.out).mono ?_
            rintro _ w7 ⟨rfl, g7⟩
            have HE7 := hideIt (HE6.out.kept g7)
            have HG7 := hideIt (HG6.out.kept g7)
            clear y0 y1 g7
            go_wp2_with fail
            refine (HE7.out.ws.rc.step11 HS.out.ok.i tv x.T HE7.out.ct A B k o r b g u fi nd HS.out.len HT.out HC HK HF.out HNd.out).mono ?_
            rintro _ w8 ⟨tv8, Od, rfl, P8⟩
            have HG8 := hideIt (HG7.out.step P8)
            have HE8 : Hid (Dl w0 w w8 O Od q tv8 (M.one x (A, B)).S (M.one x (A, B)).f (M.one x (A, B)).T g0 g1) := by
              show Dl _ _ _ _ _ _ _ _ _ _ _ _
              rw [HO.out]; exact HE7.out.step P8
            clear P8 HE7 HG7 HO HC HF HK HT HNd HNx
            go_wp2
            go_roundg (gk - 1)
            case rel => exact ⟨j + 1, _, tv8, Od, e0, e1, by omega, rfl, by go_num, HRn', HE8, HG8⟩
            case measure => omega
          · have hlt' : ¬ (j : Int) < (L : Int) := by omega
            have HRn := hideIt (HS.out.fin hlt)
            go_wp2
            go_roundg (gk - 1)
            case rel => exact ⟨j + 1, x, tv, Oc, e0, e1, by omega, rfl, by go_num, HRn, HE6, HG6⟩
            case measure => omega
    · have hjL' : ¬ (j : Int) ≤ (L : Int) := by omega
      obtain ⟨rfl, rfl⟩ := HR.out.last hjL
      go_wp2
      exact bodyPost_ret (v := .tuple #[tv, .bool false, .int .i64 11]) (by simp [results, Tryz.results24, go_sem]) rfl ⟨_, rfl, _, HE.out.ws.rc, HE.out.ws.sub, HE.out.ws.fr, HE.out.ct.tl, HE.out.ct.no⟩
end Go.Proofs.YtdnoidnpiaadaaaGreat
