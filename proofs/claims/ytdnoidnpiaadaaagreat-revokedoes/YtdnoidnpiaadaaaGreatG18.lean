/-
  THE CONTRACTS of package moves: source, place, ends.
-/
import Derived.Test.YtdnoidnpiaadaaaGreatG16
import Derived.Deep.RegionHeld3
import Derived.Deep.DeepCutAuto
namespace Go.Proofs.YtdnoidnpiaadaaaGreat
set_option maxRecDepth 10000
open Go.RowKit
set_option linter.unusedVariables false

abbrev Six (w : World) (x : Nat) (c : C) : Prop := w.cell? ⟨x, 0, none⟩ = some (.int .i64 c.k) ∧ w.cell? ⟨x, 1, none⟩ = some (.int .i64 c.o) ∧ w.cell? ⟨x, 2, none⟩ = some (.int .i64 c.r) ∧ w.cell? ⟨x, 3, none⟩ = some (.int .u64 c.b) ∧ w.cell? ⟨x, 4, none⟩ = some (.int .u64 c.g) ∧ w.cell? ⟨x, 5, none⟩ = some (.int .i64 c.n)
theorem Box.tup {w : World} {x : Nat} {c : C} (h : Box w x c) : Six w x c := ⟨h.at0, h.at1, h.at2, h.at3, h.at4, h.at5⟩
theorem gcell {W w1 : World} (h : W.grownBy w1 none) (b o : Nat) (hb : b < W.heap.size) : w1.cell? ⟨b, o, none⟩ = W.cell? ⟨b, o, none⟩ := by
  cases e : W.cell? ⟨b, o, none⟩ with
  | some v => exact h.cell e (by simp)
  | none => unfold World.cell? at e ⊢; rw [h.block b hb (by simp)]; exact e
theorem gfroz {W w1 : World} (h : W.grownBy w1 none) (b o : Nat) (hb : b < W.heap.size) : w1.frozen? ⟨b, o, none⟩ = W.frozen? ⟨b, o, none⟩ := gbFrozen h hb (by simp)
/-- A pointer's cell and a slot's name. -/
abbrev Rd3 (w : World) (p j q x : Nat) (n i : Int) : Prop := w.cell? ⟨p, j, none⟩ = some (.pointer (some ⟨q, 0, none⟩)) ∧ w.cell? ⟨x, 0, none⟩ = some (.int .i64 n) ∧ w.cell? ⟨x, 1, none⟩ = some (.int .i64 i)
theorem Rd3.kept {w w' : World} {p j q x : Nat} {n i : Int} (h : Rd3 w p j q x n i) (g : w.grownBy w' none) : Rd3 w' p j q x n i := ⟨g.cell h.1 (by simp), g.cell h.2.1 (by simp), g.cell h.2.2 (by simp)⟩

theorem slotCap (w : World) (n i : Int) : ∃ W, (w.alloc (.cells #[.int .i64 n, .int .i64 i] 31)).alloc (.cells #[.int .i64 0, .int .i64 0, .int .i64 0, .int .u64 0, .int .u64 0, .int .i64 0] 25) = W ∧ SBox W w.heap.size n i ∧ Box W (w.heap.size + 1) C.zero ∧ w.grownBy W none := by
  have g := gbAlloc (w.alloc (.cells #[.int .i64 n, .int .i64 i] 31)) (.cells #[.int .i64 0, .int .i64 0, .int .i64 0, .int .u64 0, .int .u64 0, .int .i64 0] 25) none
  have b := Box.made (w.alloc (.cells #[.int .i64 n, .int .i64 i] 31)) C.zero
  rw [Deep.nblk_alloc] at b
  exact ⟨_, rfl, (SBox.made w n i).kept g, b, gbTrans (gbAlloc _ _ _) g⟩

abbrev gGet (w : World) (s : Nat) (n i : Int) (c : C) (e : Int) : Prop := ∀ W, w.grownBy W none → Calls Tryz.prog 51 #[.pointer (some ⟨s, 0, none⟩), sv n i] W fun x w' => x = .returned (.tuple #[cv c, .int .i64 e]) ∧ W.grownBy w' none

set_option maxHeartbeats 2000000 in
theorem source_core (w : World) (p s : Nat) (n i k o r b g t e : Int) (v1 v2 : Bool) (hc : w.cell? ⟨p, 0, none⟩ = some (.pointer (some ⟨s, 0, none⟩))) (HG : gGet w s n i ⟨k, o, r, b, g, t⟩ e) (hv1 : (e == 0) = v1) (hv2 : (k == 0) = v2) :
    Calls Tryz.prog 90 #[.pointer (some ⟨p, 0, none⟩), sv n i] w fun x w' => x = .returned (if v1 && v2 then .tuple #[cv C.zero, .int .i64 3] else .tuple #[cv ⟨k, o, r, b, g, t⟩, .int .i64 e]) ∧ w.grownBy w' none := by
  go_enter Tryz.func90, Tryz.ntmps90
  go_upto_region 1 with fail
  obtain ⟨W, hW, X, Y, g0⟩ := slotCap w n i
  rw [hW]
  clear hW
  have HY := hideIt Y
  have HX := hideIt X
  clear X Y
  go_cut [6, 7] (fun s6 s7 wc => ∃ Z : Nat, s6 = .pointer (some ⟨Z, 0, none⟩) ∧ s7 = .int .i64 e ∧ Hid (Box wc Z ⟨k, o, r, b, g, t⟩) ∧ Hid (Box wc (w.heap.size + 1) C.zero) ∧ Hid (w.grownBy wc none))
  case first =>
    have T0b : Rd3 W p 0 s w.heap.size n i := ⟨g0.cell hc (by simp), HX.out.at0, HX.out.at1⟩
    have T0 : Rd3 W.drew p 0 s w.heap.size n i := T0b.kept (gbDrew (gbRefl W none))
    go_region_held3 (fun w' => Rd3 w' p 0 s w.heap.size n i)
      (first | with_reducible exact T0 | (refine Rd3.kept T0b ?_; repeat (first | with_reducible exact G2 | with_reducible exact gbRefl W none | with_reducible refine gbDrew ?_ | with_reducible refine gbAllocN ?_ _ | with_reducible refine gbSetNew ?_ _ _ _ (by with_reducible first | exact Nat.le_refl _ | exact G2.size))) | fail)
      ((first | (go_at_call 51; refine (HG _ (by repeat (first | with_reducible exact g0 | with_reducible refine gbDrew ?_ | with_reducible refine gbAllocN ?_ _))).mono ?_; rintro _ u1 ⟨rfl, g5⟩; have hc3 := gcell g5; have hf3 := gfroz g5; have G2 : W.grownBy u1 none := (by first | exact gbTrans (gbDrewN W 1 none) g5 | exact gbTrans (gbDrew (gbAllocN (gbRefl W none) _)) g5)) | fail))
    · rename_i hold
      clear hold T0
      obtain ⟨W6, hW6, Z6, g6⟩ := boxNew u1 ⟨k, o, r, b, g, t⟩
      simp only at hW6
      rw [hW6]
      go_wp2
      go_meet
      exact ⟨_, rfl, rfl, Z6, HY.out.kept (gbTrans G2 g6), gbTrans g0 (gbTrans G2 g6)⟩
    · rename_i hold
      clear hold T0
      have Z0 : Box u1 W.heap.size C.zero := ((Box.made W C.zero).kept (gbDrew (gbRefl _ none))).kept g5
      obtain ⟨W6, hW6, Z6, g6⟩ := Z0.put ⟨k, o, r, b, g, t⟩
      simp only at hW6
      rw [hW6]
      have G7 := gbNew (gbTrans (gbAny G2 _) g6) (Nat.le_refl _)
      go_wp2
      go_meet
      exact ⟨_, rfl, rfl, Z6, HY.out.kept G7, gbTrans g0 G7⟩
  case rest =>
    obtain ⟨Z, rfl, rfl, HZ, HQ, GG⟩ := hcut
    obtain ⟨z0, z1, z2, z3, z4, z5, _, _⟩ := HZ.out
    simp only at z0 z1 z2 z3 z4 z5
    obtain ⟨q0, q1, q2, q3, q4, q5, _, qf⟩ := HQ.out
    have f0 := qf 0
    have f1 := qf 1
    have f2 := qf 2
    have f3 := qf 3
    have f4 := qf 4
    have f5 := qf 5
    clear qf
    cases v1 <;> cases v2
    · go_wp2
      obtain ⟨W7, hW7, Q7, g7⟩ := HQ.out.put ⟨k, o, r, b, g, t⟩
      simp only at hW7
      rw [hW7]
      clear hW7 q0 q1 q2 q3 q4 q5 f0 f1 f2 f3 f4 f5
      obtain ⟨y0, y1, y2, y3, y4, y5, _, _⟩ := Q7
      simp only at y0 y1 y2 y3 y4 y5
      exact bodyPost_ret (v := .tuple #[cv ⟨k, o, r, b, g, t⟩, .int .i64 e]) (by simp [results, Tryz.results90, go_sem, y0, y1, y2, y3, y4, y5]) rfl ⟨rfl, gbNew (gbTrans (gbAny GG.out _) g7) (Nat.le_succ _)⟩
    · go_wp2
      obtain ⟨W7, hW7, Q7, g7⟩ := HQ.out.put ⟨k, o, r, b, g, t⟩
      simp only at hW7
      rw [hW7]
      clear hW7 q0 q1 q2 q3 q4 q5 f0 f1 f2 f3 f4 f5
      obtain ⟨y0, y1, y2, y3, y4, y5, _, _⟩ := Q7
      simp only at y0 y1 y2 y3 y4 y5
      exact bodyPost_ret (v := .tuple #[cv ⟨k, o, r, b, g, t⟩, .int .i64 e]) (by simp [results, Tryz.results90, go_sem, y0, y1, y2, y3, y4, y5]) rfl ⟨rfl, gbNew (gbTrans (gbAny GG.out _) g7) (Nat.le_succ _)⟩
    · go_wp2
      obtain ⟨W7, hW7, Q7, g7⟩ := HQ.out.put ⟨k, o, r, b, g, t⟩
      simp only at hW7
      rw [hW7]
      clear hW7 q0 q1 q2 q3 q4 q5 f0 f1 f2 f3 f4 f5
      obtain ⟨y0, y1, y2, y3, y4, y5, _, _⟩ := Q7
      simp only at y0 y1 y2 y3 y4 y5
      exact bodyPost_ret (v := .tuple #[cv ⟨k, o, r, b, g, t⟩, .int .i64 e]) (by simp [results, Tryz.results90, go_sem, y0, y1, y2, y3, y4, y5]) rfl ⟨rfl, gbNew (gbTrans (gbAny GG.out _) g7) (Nat.le_succ _)⟩
    · go_wp2
      obtain ⟨W7, hW7, Q7, g7⟩ := HQ.out.put C.zero
      simp only at hW7
      rw [hW7]
      clear hW7 q0 q1 q2 q3 q4 q5 f0 f1 f2 f3 f4 f5
      obtain ⟨y0, y1, y2, y3, y4, y5, _, _⟩ := Q7
      exact bodyPost_ret (v := .tuple #[cv C.zero, .int .i64 3]) (by simp [results, Tryz.results90, go_sem, y0, y1, y2, y3, y4, y5]) rfl ⟨rfl, gbNew (gbTrans (gbAny GG.out _) g7) (Nat.le_succ _)⟩

set_option maxHeartbeats 2000000 in
theorem place_core (w : World) (p s : Nat) (n i k o r b g t e : Int) (v1 v2 : Bool) (hc : w.cell? ⟨p, 0, none⟩ = some (.pointer (some ⟨s, 0, none⟩))) (HG : gGet w s n i ⟨k, o, r, b, g, t⟩ e) (hv1 : (e == 0) = v1) (hv2 : (k != 0) = v2) :
    Calls Tryz.prog 91 #[.pointer (some ⟨p, 0, none⟩), sv n i] w fun x w' => x = .returned (.int .i64 (if v1 && v2 then 4 else e)) ∧ w.grownBy w' none := by
  go_enter Tryz.func91, Tryz.ntmps91
  go_upto_region 1 with fail
  obtain ⟨W, hW, X, g0⟩ := sboxNew w n i
  rw [hW]
  clear hW
  have HX := hideIt X
  clear X
  go_cut [5, 6] (fun s6 s7 wc => ∃ Z : Nat, s6 = .pointer (some ⟨Z, 0, none⟩) ∧ s7 = .int .i64 e ∧ Hid (Box wc Z ⟨k, o, r, b, g, t⟩) ∧ Hid (w.grownBy wc none))
  case first =>
    have T0b : Rd3 W p 0 s w.heap.size n i := ⟨g0.cell hc (by simp), HX.out.at0, HX.out.at1⟩
    have T0 : Rd3 W.drew p 0 s w.heap.size n i := T0b.kept (gbDrew (gbRefl W none))
    go_region_held3 (fun w' => Rd3 w' p 0 s w.heap.size n i)
      (first | with_reducible exact T0 | (refine Rd3.kept T0b ?_; repeat (first | with_reducible exact G2 | with_reducible exact gbRefl W none | with_reducible refine gbDrew ?_ | with_reducible refine gbAllocN ?_ _ | with_reducible refine gbSetNew ?_ _ _ _ (by with_reducible first | exact Nat.le_refl _ | exact G2.size))) | fail)
      ((first | (go_at_call 51; refine (HG _ (by repeat (first | with_reducible exact g0 | with_reducible refine gbDrew ?_ | with_reducible refine gbAllocN ?_ _))).mono ?_; rintro _ u1 ⟨rfl, g5⟩; have hc3 := gcell g5; have hf3 := gfroz g5; have G2 : W.grownBy u1 none := (by first | exact gbTrans (gbDrewN W 1 none) g5 | exact gbTrans (gbDrew (gbAllocN (gbRefl W none) _)) g5)) | fail))
    · rename_i hold
      clear hold T0
      obtain ⟨W6, hW6, Z6, g6⟩ := boxNew u1 ⟨k, o, r, b, g, t⟩
      simp only at hW6
      rw [hW6]
      go_wp2
      go_meet
      exact ⟨_, rfl, rfl, Z6, gbTrans g0 (gbTrans G2 g6)⟩
    · rename_i hold
      clear hold T0
      have Z0 : Box u1 W.heap.size C.zero := ((Box.made W C.zero).kept (gbDrew (gbRefl _ none))).kept g5
      obtain ⟨W6, hW6, Z6, g6⟩ := Z0.put ⟨k, o, r, b, g, t⟩
      simp only at hW6
      rw [hW6]
      have G7 := gbNew (gbTrans (gbAny G2 _) g6) (Nat.le_refl _)
      go_wp2
      go_meet
      exact ⟨_, rfl, rfl, Z6, gbTrans g0 G7⟩
  case rest =>
    obtain ⟨Z, rfl, rfl, HZ, GG⟩ := hcut
    obtain ⟨z0, _, _, _, _, _, _, _⟩ := HZ.out
    simp only at z0
    cases v1 <;> cases v2
    · go_wp2
      go_ret
      exact ⟨rfl, GG.out⟩
    · go_wp2
      go_ret
      exact ⟨rfl, GG.out⟩
    · go_wp2
      go_ret
      exact ⟨rfl, GG.out⟩
    · go_wp2
      go_ret
      exact ⟨rfl, GG.out⟩

/-- A source: what is there, or why it is none. -/
theorem Cs.src {w0 w : World} {O : Nat → Prop} {p s t m : Nat} {S : St} {f : T9.Fo} (h : Cs w0 w O p s t m S f) (x : Int × Int) (hx : I64 x.1) (c : C) (e : Int) (hc : M.srcC S x = c) (he : M.srcE S x = e) :
    Calls Tryz.prog 90 #[.pointer (some ⟨p, 0, none⟩), sv x.1 x.2] w fun x w' => x = .returned (.tuple #[cv c, .int .i64 e]) ∧ w.grownBy w' none := by
  subst hc he
  obtain ⟨c1, hc⟩ : ∃ c, M.gc S x = c := ⟨_, rfl⟩
  obtain ⟨e0, he⟩ : ∃ e, M.getE S x.1 x.2 = e := ⟨_, rfl⟩
  obtain ⟨k, o, r, b, g, u⟩ := c1
  have HG : gGet w s x.1 x.2 ⟨k, o, r, b, g, u⟩ e0 := fun W g => (h.kept g).get x.1 x.2 _ _ _ _ _ _ _ hx hc he
  refine (source_core w p s x.1 x.2 k o r b g u e0 _ _ h.c0 HG rfl rfl).mono ?_
  rintro _ w' ⟨rfl, g'⟩
  refine ⟨?_, g'⟩
  by_cases ht : M.there S x.1 x.2 = true
  · have h0 : e0 = 0 := by rw [← he]; unfold M.getE; rw [if_pos ht]
    subst h0
    by_cases hk : k = 0
    · subst hk
      have e1 : M.srcE S x = 3 := by
        unfold M.srcE M.takeE
        rw [if_pos ht, if_pos (show (M.getC S x.1 x.2).k = 0 by rw [show M.getC S x.1 x.2 = _ from hc])]
      rw [M.srcC_no (by rw [e1]; decide), e1]; rfl
    · have hk' : (M.gc S x).k ≠ 0 := by rw [hc]; exact hk
      have : (k == 0) = false := by simpa using hk
      rw [M.srcC_ok (M.srcE_yes hk'), M.srcE_yes hk', hc, this]; rfl
  · have h0 : e0 = 6 := by rw [← he]; unfold M.getE; rw [if_neg ht]
    subst h0
    have e1 : M.srcE S x = 6 := by unfold M.srcE M.takeE; rw [if_neg ht]
    have e2 : M.gc S x = C.zero := M.gc_no (by simpa [M.th] using ht)
    rw [hc] at e2
    cases e2
    rw [M.srcC_no (by rw [e1]; decide), e1]; rfl
/-- A place, or why it is none. -/
theorem Cs.plc {w0 w : World} {O : Nat → Prop} {p s t m : Nat} {S : St} {f : T9.Fo} (h : Cs w0 w O p s t m S f) (x : Int × Int) (hx : I64 x.1) (e : Int) (he : M.plcE S x = e) :
    Calls Tryz.prog 91 #[.pointer (some ⟨p, 0, none⟩), sv x.1 x.2] w fun x w' => x = .returned (.int .i64 e) ∧ w.grownBy w' none := by
  subst he
  obtain ⟨c1, hc⟩ : ∃ c, M.gc S x = c := ⟨_, rfl⟩
  obtain ⟨e0, he⟩ : ∃ e, M.getE S x.1 x.2 = e := ⟨_, rfl⟩
  obtain ⟨k, o, r, b, g, u⟩ := c1
  have HG : gGet w s x.1 x.2 ⟨k, o, r, b, g, u⟩ e0 := fun W g => (h.kept g).get x.1 x.2 _ _ _ _ _ _ _ hx hc he
  refine (place_core w p s x.1 x.2 k o r b g u e0 _ _ h.c0 HG rfl rfl).mono ?_
  rintro _ w' ⟨rfl, g'⟩
  refine ⟨?_, g'⟩
  unfold M.plcE
  rw [hc]
  by_cases ht : M.there S x.1 x.2 = true
  · have h0 : e0 = 0 := by rw [← he]; unfold M.getE; rw [if_pos ht]
    subst h0
    rw [if_pos (show M.th S x = true from ht)]
    by_cases hk : k = 0
    · subst hk; rfl
    · have : (k != 0) = true := by simpa using hk
      rw [if_neg hk, this]; rfl
  · have h0 : e0 = 6 := by rw [← he]; unfold M.getE; rw [if_neg ht]
    subst h0
    rw [if_neg (show ¬ M.th S x = true from ht)]; rfl

abbrev gSrc (w : World) (p : Nat) (x : Int × Int) (c : C) (e : Int) : Prop := ∀ W, w.grownBy W none → Calls Tryz.prog 90 #[.pointer (some ⟨p, 0, none⟩), sv x.1 x.2] W fun x w' => x = .returned (.tuple #[cv c, .int .i64 e]) ∧ W.grownBy w' none
abbrev gPlc (w : World) (p : Nat) (x : Int × Int) (e : Int) : Prop := ∀ W, w.grownBy W none → Calls Tryz.prog 91 #[.pointer (some ⟨p, 0, none⟩), sv x.1 x.2] W fun x w' => x = .returned (.int .i64 e) ∧ W.grownBy w' none

theorem slotsCap (w : World) (n i n' i' : Int) : ∃ W, ((w.alloc (.cells #[.int .i64 n, .int .i64 i] 31)).alloc (.cells #[.int .i64 n', .int .i64 i'] 31)).alloc (.cells #[.int .i64 0, .int .i64 0, .int .i64 0, .int .u64 0, .int .u64 0, .int .i64 0] 25) = W ∧ SBox W w.heap.size n i ∧ SBox W (w.heap.size + 1) n' i' ∧ Box W (w.heap.size + 2) C.zero ∧ w.grownBy W none := by
  obtain ⟨W, hW, X, Y, g⟩ := slotCap (w.alloc (.cells #[.int .i64 n, .int .i64 i] 31)) n' i'
  rw [Deep.nblk_alloc] at X Y
  exact ⟨W, hW, (SBox.made w n i).kept g, X, Y, gbTrans (gbAlloc _ _ _) g⟩

set_option maxHeartbeats 2000000 in
theorem ends_core (w : World) (p : Nat) (A B : Int × Int) (k o r b g t E1 E2 : Int) (v1 v2 : Bool) (HS : gSrc w p A ⟨k, o, r, b, g, t⟩ E1) (HP : gPlc w p B E2) (hv1 : (E1 != 0) = v1) (hv2 : (E2 != 0) = v2) :
    Calls Tryz.prog 80 #[.pointer (some ⟨p, 0, none⟩), sv A.1 A.2, sv B.1 B.2] w fun x w' => x = .returned (if v1 then .tuple #[cv C.zero, .int .i64 E1] else if v2 then .tuple #[cv C.zero, .int .i64 E2] else .tuple #[cv ⟨k, o, r, b, g, t⟩, .int .i64 0]) ∧ w.grownBy w' none := by
  go_enter Tryz.func80, Tryz.ntmps80
  go_upto_region 1 with fail
  obtain ⟨W, hW, X, Y, Q, g0⟩ := slotsCap w A.1 A.2 B.1 B.2
  rw [hW]
  clear hW
  have HY := hideIt Y
  have HQ0 := hideIt Q
  obtain ⟨x0, x1, _⟩ := X
  clear Y Q
  go_wp2_with fail
  refine (HS _ g0).mono ?_
  rintro _ w1 ⟨rfl, g1⟩
  clear x0 x1
  go_upto_region 2 with fail
  obtain ⟨W2, hW2, Z2, g2⟩ := boxNew w1 ⟨k, o, r, b, g, t⟩
  simp only at hW2
  rw [hW2]
  clear hW2
  have HZ := hideIt Z2
  clear Z2
  have GA := hideIt (gbTrans g0 (gbTrans g1 g2))
  have HQ1 := hideIt (HQ0.out.kept (gbTrans g1 g2))
  have HY1 := hideIt (HY.out.kept (gbTrans g1 g2))
  clear HQ0 HY g1 g2 g0
  cases v1
  · obtain ⟨y0, y1, _⟩ := HY1.out
    go_wp2_with fail
    refine (HP _ GA.out).mono ?_
    rintro _ w3 ⟨rfl, g3⟩
    clear y0 y1
    have GG := gbTrans GA.out g3
    have HQ := hideIt (HQ1.out.kept g3)
    have HZ3 := hideIt (HZ.out.kept g3)
    cases v2
    · obtain ⟨z0, z1, z2, z3, z4, z5, _, _⟩ := HZ3.out
      simp only at z0 z1 z2 z3 z4 z5
      obtain ⟨q0, q1, q2, q3, q4, q5, _, qf⟩ := HQ.out
      have f0 := qf 0
      have f1 := qf 1
      have f2 := qf 2
      have f3 := qf 3
      have f4 := qf 4
      have f5 := qf 5
      clear qf
      go_wp2
      obtain ⟨W7, hW7, Q7, g7⟩ := HQ.out.put ⟨k, o, r, b, g, t⟩
      simp only at hW7
      rw [hW7]
      clear hW7 q0 q1 q2 q3 q4 q5 f0 f1 f2 f3 f4 f5
      obtain ⟨y0, y1, y2, y3, y4, y5, _, _⟩ := Q7
      simp only at y0 y1 y2 y3 y4 y5
      exact bodyPost_ret (v := .tuple #[cv ⟨k, o, r, b, g, t⟩, .int .i64 0]) (by simp [results, Tryz.results80, go_sem, y0, y1, y2, y3, y4, y5]) rfl ⟨rfl, gbNew (gbTrans (gbAny GG _) g7) (Nat.le_add_right _ 2)⟩
    · have hz := HZ3
      obtain ⟨q0, q1, q2, q3, q4, q5, _, qf⟩ := HQ.out
      have f0 := qf 0
      have f1 := qf 1
      have f2 := qf 2
      have f3 := qf 3
      have f4 := qf 4
      have f5 := qf 5
      clear qf
      go_wp2
      obtain ⟨W7, hW7, Q7, g7⟩ := HQ.out.put C.zero
      simp only at hW7
      rw [hW7]
      clear hW7 q0 q1 q2 q3 q4 q5 f0 f1 f2 f3 f4 f5
      obtain ⟨y0, y1, y2, y3, y4, y5, _, _⟩ := Q7
      exact bodyPost_ret (v := .tuple #[cv C.zero, .int .i64 E2]) (by simp [results, Tryz.results80, go_sem, y0, y1, y2, y3, y4, y5]) rfl ⟨rfl, gbNew (gbTrans (gbAny GG _) g7) (Nat.le_add_right _ 2)⟩
  · have HQ := HQ1
    have GG := GA.out
    · have hz := HZ
      obtain ⟨q0, q1, q2, q3, q4, q5, _, qf⟩ := HQ.out
      have f0 := qf 0
      have f1 := qf 1
      have f2 := qf 2
      have f3 := qf 3
      have f4 := qf 4
      have f5 := qf 5
      clear qf
      go_wp2
      obtain ⟨W7, hW7, Q7, g7⟩ := HQ.out.put C.zero
      simp only at hW7
      rw [hW7]
      clear hW7 q0 q1 q2 q3 q4 q5 f0 f1 f2 f3 f4 f5
      obtain ⟨y0, y1, y2, y3, y4, y5, _, _⟩ := Q7
      exact bodyPost_ret (v := .tuple #[cv C.zero, .int .i64 E1]) (by simp [results, Tryz.results80, go_sem, y0, y1, y2, y3, y4, y5]) rfl ⟨rfl, gbNew (gbTrans (gbAny GG _) g7) (Nat.le_add_right _ 2)⟩

/-- What is in a source, if there is a place for it. -/
theorem Cs.ends {w0 w : World} {O : Nat → Prop} {p s t m : Nat} {S : St} {f : T9.Fo} (h : Cs w0 w O p s t m S f) (A B : Int × Int) (hA : I64 A.1) (hB : I64 B.1) (c : C) (e : Int) (hc : M.endC S A B = c) (he : M.endE S A B = e) :
    Calls Tryz.prog 80 #[.pointer (some ⟨p, 0, none⟩), sv A.1 A.2, sv B.1 B.2] w fun x w' => x = .returned (.tuple #[cv c, .int .i64 e]) ∧ w.grownBy w' none := by
  subst hc he
  obtain ⟨c1, hc⟩ : ∃ c, M.srcC S A = c := ⟨_, rfl⟩
  obtain ⟨e1, h1⟩ : ∃ e, M.srcE S A = e := ⟨_, rfl⟩
  obtain ⟨e2, h2⟩ : ∃ e, M.plcE S B = e := ⟨_, rfl⟩
  obtain ⟨k, o, r, b, g, u⟩ := c1
  refine (ends_core w p A B k o r b g u e1 e2 _ _ (fun W g => (h.kept g).src A hA _ _ hc h1) (fun W g => (h.kept g).plc B hB _ h2) rfl rfl).mono ?_
  rintro _ w' ⟨rfl, g'⟩
  refine ⟨?_, g'⟩
  unfold M.endC M.endE
  rw [h1, h2]
  by_cases k1 : e1 = 0
  · subst k1
    rw [M.srcC_ok h1] at hc
    rw [if_pos rfl, hc]
    by_cases k2 : e2 = 0
    · subst k2; rfl
    · have : (e2 != 0) = true := by simpa using k2
      rw [if_neg k2, this]; rfl
  · have : (e1 != 0) = true := by simpa using k1
    rw [if_neg k1, if_neg k1, this]; rfl
end Go.Proofs.YtdnoidnpiaadaaaGreat

/-
  A CALL ON ITS WAY: what a call of package moves has made so far (the two parts, the frame from its beginning on), and its own boxes, which the parts do not have. Speaks of no function of the program but the parts' calls.
-/
namespace Go.Proofs.YtdnoidnpiaadaaaGreat
set_option maxRecDepth 10000
open Go.RowKit
set_option linter.unusedVariables false

/-- From w on: the parts as they are now, their blocks, and the frame. -/
structure Wy (w0 w wc : World) (O Oc : Nat → Prop) (p s t m : Nat) (S : St) (f : T9.Fo) : Prop where
  cs : Cs w0 wc Oc p s t m S f
  fr : Fr O w wc
  sub : ∀ i, Oc i → O i ∨ w.heap.size ≤ i
theorem Wy.start {w0 w : World} {O : Nat → Prop} {p s t m : Nat} {S : St} {f : T9.Fo} (h : Cs w0 w O p s t m S f) : Wy w0 w w O O p s t m S f := ⟨h, Fr.refl O w, fun i hi => .inl hi⟩
theorem Wy.kept {w0 w wc wd : World} {O Oc : Nat → Prop} {p s t m : Nat} {S : St} {f : T9.Fo} (h : Wy w0 w wc O Oc p s t m S f) (g : wc.grownBy wd none) : Wy w0 w wd O Oc p s t m S f :=
  ⟨h.cs.kept g, h.fr.trans (Fr.grown g), h.sub⟩
theorem Wy.call {w0 w wc wd : World} {O Oc : Nat → Prop} {p s t m m' : Nat} {S S' : St} {f f' : T9.Fo} (h : Wy w0 w wc O Oc p s t m S f) (A : Cs w0 wd (wide Oc wc wd) p s t m' S' f') (F : Fr Oc wc wd) : Wy w0 w wd O (wide Oc wc wd) p s t m' S' f' := by
  refine ⟨A, h.fr.join F (fun i hi k => ?_), fun i hi => ?_⟩
  · rcases h.sub i k with e | e
    · exact e
    · omega
  · rcases hi with e | e
    · exact h.sub i e
    · have := h.fr.size; exact .inr (by omega)
theorem Wy.keep {w0 w wc wd : World} {O Oc : Nat → Prop} {p s t m x : Nat} {S : St} {f : T9.Fo} (h : Wy w0 w wc O Oc p s t m S f) (g : wc.grownBy wd (some x)) (hx : ¬ Oc x) (hw : w.heap.size ≤ x) (h0 : w0.heap.size ≤ w.heap.size) : Wy w0 w wd O Oc p s t m S f :=
  ⟨h.cs.keep g hx (Nat.le_trans h0 hw), h.fr.join (Fr.at (O := fun i => i = x) g rfl) (fun i hi e => by omega), h.sub⟩
theorem Wy.fin {w0 w wc : World} {O Oc : Nat → Prop} {p s t m : Nat} {S : St} {f : T9.Fo} (h : Wy w0 w wc O Oc p s t m S f) (h0 : w0.heap.size ≤ w.heap.size) (ho : ∀ i, O i → w0.heap.size ≤ i ∧ i < w.heap.size) : Cs w0 wc (wide O w wc) p s t m S f ∧ Fr O w wc := by
  have hs := h.fr.size
  refine ⟨h.cs.mono (fun i hi => ?_) (fun i hi => ?_), h.fr⟩
  · rcases h.sub i hi with e | e
    · exact .inl e
    · exact .inr ⟨e, (h.cs.lo i hi).2⟩
  · rcases hi with e | e
    · have := ho i e; omega
    · omega
theorem Wy.out {w0 w wc : World} {O Oc : Nat → Prop} {p s t m : Nat} {S : St} {f : T9.Fo} (h : Wy w0 w wc O Oc p s t m S f) {x : Nat} (hx : wc.heap.size ≤ x) : ¬ Oc x := fun e => by have := (h.cs.lo x e).2; omega

theorem SBox.keep {w w' : World} {x y : Nat} {n i : Int} (h : SBox w x n i) (g : w.grownBy w' (some y)) (hy : x ≠ y) : SBox w' x n i := ⟨g.cell h.at0 (by simpa using hy), g.cell h.at1 (by simpa using hy), Nat.lt_of_lt_of_le h.lt g.size⟩
theorem Rd3.keep {w w' : World} {p j q x y : Nat} {n i : Int} (h : Rd3 w p j q x n i) (g : w.grownBy w' (some y)) (hp : p ≠ y) (hx : x ≠ y) : Rd3 w' p j q x n i := ⟨g.cell h.1 (by simpa using hp), g.cell h.2.1 (by simpa using hx), g.cell h.2.2 (by simpa using hx)⟩
theorem gbSet1 {a b : World} {y : Nat} (h : a.grownBy b (some y)) (i : Nat) (v : Value) : a.grownBy (b.setCell ⟨y, i, none⟩ v) (some y) := gbTrans h (gbSetCell _ _ _ _)
theorem wideNo {O : Nat → Prop} {w w' : World} {x : Nat} (h : ¬ O x) (hx : x < w.heap.size) : ¬ wide O w w' x := fun e => by
  rcases e with e | e
  · exact h e
  · omega
theorem gcellF {O : Nat → Prop} {W w1 : World} (F : Fr O W w1) (b o : Nat) (hO : ¬ O b) (hb : b < W.heap.size) : w1.cell? ⟨b, o, none⟩ = W.cell? ⟨b, o, none⟩ := World.cell?_of_block (F.block b hb hO)
theorem gfrozF {O : Nat → Prop} {W w1 : World} (F : Fr O W w1) (b o : Nat) (hO : ¬ O b) (hb : b < W.heap.size) : w1.frozen? ⟨b, o, none⟩ = W.frozen? ⟨b, o, none⟩ := World.frozen?_of_block (F.block b hb hO)
/-- A slot's name that the parts do not have. -/
structure SB (wc : World) (Oc : Nat → Prop) (x : Nat) (n i : Int) : Prop where
  sb : SBox wc x n i
  no : ¬ Oc x
theorem SB.kept {wc wd : World} {Oc : Nat → Prop} {x : Nat} {n i : Int} (h : SB wc Oc x n i) (g : wc.grownBy wd none) : SB wd Oc x n i := ⟨h.sb.kept g, h.no⟩
theorem SB.call {wc wd : World} {Oc : Nat → Prop} {x : Nat} {n i : Int} (h : SB wc Oc x n i) (F : Fr Oc wc wd) : SB wd (wide Oc wc wd) x n i :=
  ⟨F.sbox h.sb h.no, fun e => by
    rcases e with e | e
    · exact h.no e
    · have := h.sb.lt; omega⟩
theorem SB.keep {wc wd : World} {Oc : Nat → Prop} {x y : Nat} {n i : Int} (h : SB wc Oc x n i) (g : wc.grownBy wd (some y)) (hy : x ≠ y) : SB wd Oc x n i := ⟨h.sb.keep g hy, h.no⟩
/-- A capability that the parts do not have. -/
structure BB (wc : World) (Oc : Nat → Prop) (x : Nat) (c : C) : Prop where
  bx : Box wc x c
  no : ¬ Oc x
theorem BB.kept {wc wd : World} {Oc : Nat → Prop} {x : Nat} {c : C} (h : BB wc Oc x c) (g : wc.grownBy wd none) : BB wd Oc x c := ⟨h.bx.kept g, h.no⟩
theorem BB.call {wc wd : World} {Oc : Nat → Prop} {x : Nat} {c : C} (h : BB wc Oc x c) (F : Fr Oc wc wd) : BB wd (wide Oc wc wd) x c :=
  ⟨F.box h.bx h.no, fun e => by
    rcases e with e | e
    · exact h.no e
    · have := h.bx.lt; omega⟩

theorem BB.keep {wc wd : World} {Oc : Nat → Prop} {x y : Nat} {c : C} (h : BB wc Oc x c) (g : wc.grownBy wd (some y)) (hy : x ≠ y) : BB wd Oc x c := ⟨h.bx.keep g (by simpa using hy), h.no⟩
/-! ### Boxes made at a call's beginning -/
theorem slotBox (w : World) (n i : Int) (c : C) : ∃ W, (w.alloc (.cells #[.int .i64 n, .int .i64 i] 31)).alloc (.cells #[.int .i64 c.k, .int .i64 c.o, .int .i64 c.r, .int .u64 c.b, .int .u64 c.g, .int .i64 c.n] 25) = W ∧ SBox W w.heap.size n i ∧ Box W (w.heap.size + 1) c ∧ w.grownBy W none := by
  have g := gbAlloc (w.alloc (.cells #[.int .i64 n, .int .i64 i] 31)) (.cells #[.int .i64 c.k, .int .i64 c.o, .int .i64 c.r, .int .u64 c.b, .int .u64 c.g, .int .i64 c.n] 25) none
  have b := Box.made (w.alloc (.cells #[.int .i64 n, .int .i64 i] 31)) c
  rw [Deep.nblk_alloc] at b
  exact ⟨_, rfl, (SBox.made w n i).kept g, b, gbTrans (gbAlloc _ _ _) g⟩
theorem slots2 (w : World) (n i n' i' : Int) : ∃ W, (w.alloc (.cells #[.int .i64 n, .int .i64 i] 31)).alloc (.cells #[.int .i64 n', .int .i64 i'] 31) = W ∧ SBox W w.heap.size n i ∧ SBox W (w.heap.size + 1) n' i' ∧ w.grownBy W none := by
  obtain ⟨W, hW, X, g⟩ := sboxNew (w.alloc (.cells #[.int .i64 n, .int .i64 i] 31)) n' i'
  rw [Deep.nblk_alloc] at X
  exact ⟨W, hW, (SBox.made w n i).kept g, X, gbTrans (gbAlloc _ _ _) g⟩
theorem slots3 (w : World) (n i n' i' n'' i'' : Int) : ∃ W, ((w.alloc (.cells #[.int .i64 n, .int .i64 i] 31)).alloc (.cells #[.int .i64 n', .int .i64 i'] 31)).alloc (.cells #[.int .i64 n'', .int .i64 i''] 31) = W ∧ SBox W w.heap.size n i ∧ SBox W (w.heap.size + 1) n' i' ∧ SBox W (w.heap.size + 2) n'' i'' ∧ w.grownBy W none := by
  obtain ⟨W, hW, X, Y, g⟩ := slots2 (w.alloc (.cells #[.int .i64 n, .int .i64 i] 31)) n' i' n'' i''
  rw [Deep.nblk_alloc] at X Y
  exact ⟨W, hW, (SBox.made w n i).kept g, X, Y, gbTrans (gbAlloc _ _ _) g⟩
theorem slots2Box (w : World) (n i n' i' : Int) (c : C) : ∃ W, ((w.alloc (.cells #[.int .i64 n, .int .i64 i] 31)).alloc (.cells #[.int .i64 n', .int .i64 i'] 31)).alloc (.cells #[.int .i64 c.k, .int .i64 c.o, .int .i64 c.r, .int .u64 c.b, .int .u64 c.g, .int .i64 c.n] 25) = W ∧ SBox W w.heap.size n i ∧ SBox W (w.heap.size + 1) n' i' ∧ Box W (w.heap.size + 2) c ∧ w.grownBy W none := by
  obtain ⟨W, hW, X, Y, g⟩ := slotBox (w.alloc (.cells #[.int .i64 n, .int .i64 i] 31)) n' i' c
  rw [Deep.nblk_alloc] at X Y
  exact ⟨W, hW, (SBox.made w n i).kept g, X, Y, gbTrans (gbAlloc _ _ _) g⟩

/-! ### What regions read -/
abbrev Two (w : World) (x : Nat) (n i : Int) : Prop := w.cell? ⟨x, 0, none⟩ = some (.int .i64 n) ∧ w.cell? ⟨x, 1, none⟩ = some (.int .i64 i)
abbrev Ptr (w : World) (p j q : Nat) : Prop := w.cell? ⟨p, j, none⟩ = some (.pointer (some ⟨q, 0, none⟩))
theorem SBox.tup {w : World} {x : Nat} {n i : Int} (h : SBox w x n i) : Two w x n i := ⟨h.at0, h.at1⟩
end Go.Proofs.YtdnoidnpiaadaaaGreat

/-
  THE CONTRACTS of package moves: New, Node, Clear, Plant, carry, Child (written by mkact1.py).
-/
namespace Go.Proofs.YtdnoidnpiaadaaaGreat
set_option maxRecDepth 10000
open Go.RowKit
set_option linter.unusedVariables false

set_option maxHeartbeats 1000000 in
theorem newCaps {w0 w : World} (g : w0.grownBy w none) : Calls Tryz.prog 5 #[] w fun e w' => ∃ p s t, e = .returned (.pointer (some ⟨p, 0, none⟩)) ∧ Cs w0 w' (fun i => w.heap.size ≤ i ∧ i < w'.heap.size) p s t 0 (fun _ => none) .nil ∧ w.grownBy w' none := by
  go_enter Tryz.func5, Tryz.ntmps5
  go_wp2_with fail
  refine (new_is _).mono ?_
  rintro _ w1 ⟨s, rfl, A1, g1⟩
  go_wp2_with fail
  refine (T9.new_is _).mono ?_
  rintro _ w2 ⟨t, rfl, A2, g2⟩
  have H1 := hideIt A1
  have H2 := hideIt A2
  clear A1 A2
  go_wp2
  go_ret
  have g3 := gbAlloc w2 (.cells #[.pointer (some ⟨s, 0, none⟩), .pointer (some ⟨t, 0, none⟩)] 40) none
  have s1 := g1.size
  have s2 := g2.size
  have s3 : (w2.alloc (.cells #[.pointer (some ⟨s, 0, none⟩), .pointer (some ⟨t, 0, none⟩)] 40)).heap.size = w2.heap.size + 1 := by simp
  have s0 := g.size
  refine ⟨w2.heap.size, s, t, rfl, ⟨⟨_, _, H1.out.kept (gbTrans g2 g3), H2.out.kept g3, fun i hi k => by omega, fun i hi => ⟨by omega, by omega⟩, fun i hi => ⟨by omega, by omega⟩⟩, ?_, by omega, fun i hi => by omega, gbTrans g (gbTrans g1 (gbTrans g2 g3)), Good.none, T9.Good.nil⟩, gbTrans g1 (gbTrans g2 g3)⟩
  exact Deep.blk_alloc_new w2 _

set_option maxHeartbeats 1000000 in
theorem Cs.nodeA {w0 w : World} {O : Nat → Prop} {p s t m : Nat} {S : St} {f : T9.Fo} (h : Cs w0 w O p s t m S f) (id r e : Int) (hid : I64 id) (hm : m ≤ 1000) (he : M.addE S id r = e) :
    Calls Tryz.prog 29 #[.pointer (some ⟨p, 0, none⟩), .int .i64 id, .int .i64 r] w fun x w' => x = .returned (.int .i64 e) ∧ Cs w0 w' (wide O w w') p s t (m + 1) (M.addS S id r) f ∧ Fr O w w' := by
  have c0 := h.c0
  go_enter Tryz.func29, Tryz.ntmps29
  go_wp2_with fail
  refine (h.add id r e hid hm he).mono ?_
  rintro _ w1 ⟨rfl, A, F⟩
  have HA := hideIt A
  have HF := hideIt F
  clear A F
  go_wp2
  go_ret
  exact ⟨rfl, HA.out, HF.out⟩

set_option maxHeartbeats 1000000 in
theorem Cs.clear {w0 w : World} {O : Nat → Prop} {p s t m : Nat} {S : St} {f : T9.Fo} (h : Cs w0 w O p s t m S f) (id e : Int) (hid : I64 id) (he : M.dropE S id = e) :
    Calls Tryz.prog 31 #[.pointer (some ⟨p, 0, none⟩), .int .i64 id] w fun x w' => x = .returned (.int .i64 e) ∧ Cs w0 w' (wide O w w') p s t m (M.dropS S id) f ∧ Fr O w w' := by
  have c0 := h.c0
  go_enter Tryz.func31, Tryz.ntmps31
  go_wp2_with fail
  refine (h.wipe id e hid he).mono ?_
  rintro _ w1 ⟨rfl, A, F⟩
  have HA := hideIt A
  have HF := hideIt F
  clear A F
  go_wp2
  go_ret
  exact ⟨rfl, HA.out, HF.out⟩

set_option maxHeartbeats 2000000 in
theorem Cs.plant {w0 w : World} {O : Nat → Prop} {p s t m : Nat} {S : St} {f : T9.Fo} (h : Cs w0 w O p s t m S f) (I : M.Inv S f) (a c k o r b g u e : Int) (ha : I64 a) (hc : I64 c) (hb : 0 ≤ b) (hg : 0 ≤ g) (hm : f.len ≤ 1000) (he : M.plaE S (a, c) ⟨k, o, r, b, g, u⟩ = e) :
    Calls Tryz.prog 33 #[.pointer (some ⟨p, 0, none⟩), sv a c, cv ⟨k, o, r, b, g, u⟩] w fun x w' => x = .returned (.int .i64 e) ∧ Cs w0 w' (wide O w w') p s t m (M.plaS S (a, c) ⟨k, o, r, b, g, u⟩) (M.plaF S f (a, c) ⟨k, o, r, b, g, u⟩) ∧ Fr O w w' := by
  obtain ⟨v, hv⟩ : ∃ v, (e != 0) = v := ⟨_, rfl⟩
  have hw0 := h.gr.size
  have hlo := h.lo
  have HH := hideIt h
  clear h
  go_enter Tryz.func33, Tryz.ntmps33
  go_upto_region 1 with fail
  obtain ⟨W, hW, X, Y, g0⟩ := slotBox w a c ⟨k, o, r, b, g, u⟩
  simp only at hW
  rw [hW]
  clear hW
  have HW := hideIt ((Wy.start HH.out).kept (gbTrans g0 (gbDrewN W 1 none)))
  have HX := hideIt (SB.kept ⟨X, (Wy.start HH.out).out (Nat.le_refl _)⟩ (gbDrewN W 1 none))
  have HY := hideIt (BB.kept ⟨Y, (Wy.start HH.out).out (Nat.le_succ _)⟩ (gbDrewN W 1 none))
  clear X Y g0
  have T0 : Ptr W.drew p 0 s ∧ Two W.drew w.heap.size a c ∧ Six W.drew (w.heap.size + 1) ⟨k, o, r, b, g, u⟩ := ⟨HW.out.cs.c0, HX.out.sb.tup, HY.out.bx.tup⟩
  go_region_held3 (fun w' => Ptr w' p 0 s ∧ Two w' w.heap.size a c ∧ Six w' (w.heap.size + 1) ⟨k, o, r, b, g, u⟩)
    (first | with_reducible exact T0 | with_reducible exact T1 | fail)
    ((first | (go_at_call 76; refine (HW.out.cs.put a c k o r b g u e ha hb hg he).mono ?_; rintro _ u1 ⟨rfl, A1, F1⟩; have HW1 := hideIt (HW.out.call A1 F1); have HX1 := hideIt (HX.out.call F1); have HY1 := hideIt (HY.out.call F1); have T1 : Ptr u1 p 0 s ∧ Two u1 w.heap.size a c ∧ Six u1 (w.heap.size + 1) ⟨k, o, r, b, g, u⟩ := ⟨HW1.out.cs.c0, HX1.out.sb.tup, HY1.out.bx.tup⟩; clear A1 F1) | fail))

  clear T0 T1
  cases v
  · have e0 : e = 0 := by simpa using hv
    subst e0
    go_upto_region 4 with fail
    have T0 : Ptr u1.drew p 1 t ∧ Two u1.drew w.heap.size a c := ⟨(HW1.out.kept (gbDrewN u1 1 none)).cs.c1, (HX1.out.kept (gbDrewN u1 1 none)).sb.tup⟩
    go_region_held3 (fun w' => Ptr w' p 1 t ∧ Two w' w.heap.size a c)
      (first | with_reducible exact T0 | with_reducible exact T1 | fail)
      ((first | (go_at_call 77; refine ((HW1.out.kept (gbDrewN u1 1 none)).cs.root a c 0 ha hc hm (M.pla_root I he)).mono ?_; rintro _ u2 ⟨rfl, A2, F2⟩; have HW2 := hideIt ((HW1.out.kept (gbDrewN u1 1 none)).call A2 F2); have HX2 := hideIt ((HX1.out.kept (gbDrewN u1 1 none)).call F2); have T1 : Ptr u2 p 1 t ∧ Two u2 w.heap.size a c := ⟨HW2.out.cs.c1, HX2.out.sb.tup⟩; clear A2 F2) | fail))

    clear T0 T1
    go_wp2
    go_ret
    have E := HW2.out.fin hw0 hlo
    unfold M.plaF
    rw [if_pos he]
    exact ⟨rfl, E.1, E.2⟩
  · have e0 : e ≠ 0 := by simpa using hv
    go_wp2
    go_ret
    have E := HW1.out.fin hw0 hlo
    unfold M.plaF
    rw [if_neg (by rw [he]; exact e0)]
    exact ⟨rfl, E.1, E.2⟩

end Go.Proofs.YtdnoidnpiaadaaaGreat

/-
  THE CONTRACTS of package moves: carry, Child (written by mkact2.py).
-/
namespace Go.Proofs.YtdnoidnpiaadaaaGreat
set_option maxRecDepth 10000
open Go.RowKit
set_option linter.unusedVariables false

set_option maxHeartbeats 2000000 in
theorem Cs.carry {w0 w : World} {O : Nat → Prop} {p s t m : Nat} {S : St} {f : T9.Fo} (h : Cs w0 w O p s t m S f) (I : M.Inv S f) (a c a2 c2 k o r b g u : Int) (ha : I64 a) (hc : I64 c) (ha2 : I64 a2) (hc2 : I64 c2) (hb : 0 ≤ b) (hg : 0 ≤ g) (hm : f.len ≤ 1000) (he : M.endE S (a, c) (a2, c2) = 0) (hk : M.chk ⟨k, o, r, b, g, u⟩ = 0) (hn : k ≠ 0) :
    Calls Tryz.prog 87 #[.pointer (some ⟨p, 0, none⟩), sv a c, sv a2 c2, cv ⟨k, o, r, b, g, u⟩] w fun x w' => x = .returned (.int .i64 0) ∧ Cs w0 w' (wide O w w') p s t m (M.carS S (a, c) (a2, c2) ⟨k, o, r, b, g, u⟩) (f.moveF (a, c) (a2, c2)) ∧ Fr O w w' := by
  obtain ⟨q1, q2, q3, q4⟩ := M.car_put (c := ⟨k, o, r, b, g, u⟩) he hk hn
  obtain ⟨⟨k1, o1, r1, b1, g1, u1⟩, hd⟩ : ∃ d, M.takeC S a c = d := ⟨_, rfl⟩
  have Q := hideIt (And.intro q1 (And.intro q2 (And.intro q3 q4)))
  clear q1 q2 q3 q4 hk hn
  have hw0 := h.gr.size
  have hlo := h.lo
  have HH := hideIt h
  clear h
  go_enter Tryz.func87, Tryz.ntmps87
  go_upto_region 1 with fail
  obtain ⟨W, hW, X0, X1, X2, g0⟩ := slots2Box w a c a2 c2 ⟨k, o, r, b, g, u⟩
  try simp only at hW
  rw [hW]
  clear hW
  have HW := hideIt ((Wy.start HH.out).kept g0)
  have HX : Hid (SB W O w.heap.size a c) := ⟨X0, (Wy.start HH.out).out (by omega)⟩
  have HY : Hid (SB W O (w.heap.size + 1) a2 c2) := ⟨X1, (Wy.start HH.out).out (by omega)⟩
  have HB : Hid (BB W O (w.heap.size + 2) ⟨k, o, r, b, g, u⟩) := ⟨X2, (Wy.start HH.out).out (by omega)⟩
  clear X0 X1 X2 g0
  have T0 : Ptr W.drew p 0 s ∧ Two W.drew w.heap.size a c := ⟨(HW.out.kept (gbDrewN W 1 none)).cs.c0, (HX.out.kept (gbDrewN W 1 none)).sb.tup⟩
  go_region_held3 (fun w' => Ptr w' p 0 s ∧ Two w' w.heap.size a c)
    (first | with_reducible exact T0 | with_reducible exact T1 | fail)
    ((first | (go_at_call 95; refine ((HW.out.kept (gbDrewN W 1 none)).cs.take a c k1 o1 r1 b1 g1 u1 0 ha hd Q.out.1).mono ?_; rintro _ u1 ⟨rfl, A1, F1⟩; rw [Q.out.2.1] at A1; have HW1 := hideIt ((HW.out.kept (gbDrewN W 1 none)).call A1 F1); have HX_1 := hideIt ((HX.out.kept (gbDrewN W 1 none)).call F1); have HY_1 := hideIt ((HY.out.kept (gbDrewN W 1 none)).call F1); have HB_1 := hideIt ((HB.out.kept (gbDrewN W 1 none)).call F1); have T1 : Ptr u1 p 0 s ∧ Two u1 w.heap.size a c := ⟨HW1.out.cs.c0, HX_1.out.sb.tup⟩; clear A1 F1) | fail))
  clear T0 T1
  go_upto_region 2 with fail
  have T0 : Ptr u1.drew p 0 s ∧ Two u1.drew (w.heap.size + 1) a2 c2 ∧ Six u1.drew (w.heap.size + 2) ⟨k, o, r, b, g, u⟩ := ⟨(HW1.out.kept (gbDrewN u1 1 none)).cs.c0, (HY_1.out.kept (gbDrewN u1 1 none)).sb.tup, (HB_1.out.kept (gbDrewN u1 1 none)).bx.tup⟩
  go_region_held3 (fun w' => Ptr w' p 0 s ∧ Two w' (w.heap.size + 1) a2 c2 ∧ Six w' (w.heap.size + 2) ⟨k, o, r, b, g, u⟩)
    (first | with_reducible exact T0 | with_reducible exact T1 | fail)
    ((first | (go_at_call 76; refine ((HW1.out.kept (gbDrewN u1 1 none)).cs.put a2 c2 k o r b g u 0 ha2 hb hg Q.out.2.2.1).mono ?_; rintro _ u2 ⟨rfl, A2, F2⟩; rw [Q.out.2.2.2] at A2; have HW2 := hideIt ((HW1.out.kept (gbDrewN u1 1 none)).call A2 F2); have HX_2 := hideIt ((HX_1.out.kept (gbDrewN u1 1 none)).call F2); have HY_2 := hideIt ((HY_1.out.kept (gbDrewN u1 1 none)).call F2); have HB_2 := hideIt ((HB_1.out.kept (gbDrewN u1 1 none)).call F2); have T1 : Ptr u2 p 0 s ∧ Two u2 (w.heap.size + 1) a2 c2 ∧ Six u2 (w.heap.size + 2) ⟨k, o, r, b, g, u⟩ := ⟨HW2.out.cs.c0, HY_2.out.sb.tup, HB_2.out.bx.tup⟩; clear A2 F2) | fail))
  clear T0 T1
  go_upto_region 3 with fail
  have T0 : Ptr u2.drew p 1 t ∧ Two u2.drew w.heap.size a c ∧ Two u2.drew (w.heap.size + 1) a2 c2 := ⟨(HW2.out.kept (gbDrewN u2 1 none)).cs.c1, (HX_2.out.kept (gbDrewN u2 1 none)).sb.tup, (HY_2.out.kept (gbDrewN u2 1 none)).sb.tup⟩
  go_region_held3 (fun w' => Ptr w' p 1 t ∧ Two w' w.heap.size a c ∧ Two w' (w.heap.size + 1) a2 c2)
    (first | with_reducible exact T0 | with_reducible exact T1 | fail)
    ((first | (go_at_call 120; refine ((HW2.out.kept (gbDrewN u2 1 none)).cs.move a c a2 c2 0 ha hc ha2 hc2 hm (M.end_move I he)).mono ?_; rintro _ u3 ⟨rfl, A3, F3⟩; have HW3 := hideIt ((HW2.out.kept (gbDrewN u2 1 none)).call A3 F3); have HX_3 := hideIt ((HX_2.out.kept (gbDrewN u2 1 none)).call F3); have HY_3 := hideIt ((HY_2.out.kept (gbDrewN u2 1 none)).call F3); have HB_3 := hideIt ((HB_2.out.kept (gbDrewN u2 1 none)).call F3); have T1 : Ptr u3 p 1 t ∧ Two u3 w.heap.size a c ∧ Two u3 (w.heap.size + 1) a2 c2 := ⟨HW3.out.cs.c1, HX_3.out.sb.tup, HY_3.out.sb.tup⟩; clear A3 F3) | fail))
  clear T0 T1
  go_wp2
  go_ret
  have E := HW3.out.fin hw0 hlo
  exact ⟨rfl, E.1, E.2⟩

set_option maxHeartbeats 2000000 in
theorem Cs.childA {w0 w : World} {O : Nat → Prop} {p s t m : Nat} {S : St} {f : T9.Fo} (h : Cs w0 w O p s t m S f) (I : M.Inv S f) (a c a2 c2 k o r b g u e : Int) (ha : I64 a) (hc : I64 c) (ha2 : I64 a2) (hc2 : I64 c2) (hb : 0 ≤ b) (hg : 0 ≤ g) (hm : f.len ≤ 1000) (he : M.chiE S (a, c) (a2, c2) ⟨k, o, r, b, g, u⟩ = e) :
    Calls Tryz.prog 35 #[.pointer (some ⟨p, 0, none⟩), sv a c, sv a2 c2, cv ⟨k, o, r, b, g, u⟩] w fun x w' => x = .returned (.int .i64 e) ∧ Cs w0 w' (wide O w w') p s t m (M.chiS S (a, c) (a2, c2) ⟨k, o, r, b, g, u⟩) (M.chiF S f (a, c) (a2, c2) ⟨k, o, r, b, g, u⟩) ∧ Fr O w w' := by
  obtain ⟨e1, h1⟩ : ∃ e1, M.endE S (a, c) (a2, c2) = e1 := ⟨_, rfl⟩
  obtain ⟨⟨k1, o1, r1, b1, g1, u1⟩, hd⟩ : ∃ d, M.endC S (a, c) (a2, c2) = d := ⟨_, rfl⟩
  obtain ⟨v, hv⟩ : ∃ v, (e1 != 0) = v := ⟨_, rfl⟩
  have hw0 := h.gr.size
  have hlo := h.lo
  have HH := hideIt h
  clear h
  go_enter Tryz.func35, Tryz.ntmps35
  go_upto_region 1 with fail
  obtain ⟨W, hW, X0, X1, X2, g0⟩ := slots2Box w a c a2 c2 ⟨k, o, r, b, g, u⟩
  try simp only at hW
  rw [hW]
  clear hW
  have HW := hideIt ((Wy.start HH.out).kept g0)
  have HX : Hid (SB W O w.heap.size a c) := ⟨X0, (Wy.start HH.out).out (by omega)⟩
  have HY : Hid (SB W O (w.heap.size + 1) a2 c2) := ⟨X1, (Wy.start HH.out).out (by omega)⟩
  have HB : Hid (BB W O (w.heap.size + 2) ⟨k, o, r, b, g, u⟩) := ⟨X2, (Wy.start HH.out).out (by omega)⟩
  clear X0 X1 X2 g0
  obtain ⟨x0, x1⟩ := HX.out.sb.tup
  obtain ⟨y0, y1⟩ := HY.out.sb.tup
  go_wp2_with fail
  refine (HW.out.cs.ends (a, c) (a2, c2) ha ha2 _ _ hd h1).mono ?_
  rintro _ w1 ⟨rfl, g1'⟩
  clear x0 x1 y0 y1
  go_upto_region 2 with fail
  obtain ⟨W2, hW2, Z2, g2⟩ := boxNew w1 ⟨k1, o1, r1, b1, g1, u1⟩
  simp only at hW2
  rw [hW2]
  clear hW2 Z2
  have HW' := hideIt (HW.out.kept (gbTrans g1' g2))
  have HX' := hideIt (HX.out.kept (gbTrans g1' g2))
  have HY' := hideIt (HY.out.kept (gbTrans g1' g2))
  have HB' := hideIt (HB.out.kept (gbTrans g1' g2))
  clear HW HX HY HB g1' g2
  cases v
  · have z1 : e1 = 0 := by simpa using hv
    subst z1
    have he2 : M.putE S a2 c2 ⟨k, o, r, b, g, u⟩ = e := by unfold M.chiE at he; rw [if_pos h1] at he; exact he
    obtain ⟨v2, hv2⟩ : ∃ v, (e != 0) = v := ⟨_, rfl⟩
    have HE := hideIt he
    clear he
    go_upto_region 4 with fail
    have T0 : Ptr W2.drew p 0 s ∧ Two W2.drew (w.heap.size + 1) a2 c2 ∧ Six W2.drew (w.heap.size + 2) ⟨k, o, r, b, g, u⟩ := ⟨(HW'.out.kept (gbDrewN W2 1 none)).cs.c0, (HY'.out.kept (gbDrewN W2 1 none)).sb.tup, (HB'.out.kept (gbDrewN W2 1 none)).bx.tup⟩
    go_region_held3 (fun w' => Ptr w' p 0 s ∧ Two w' (w.heap.size + 1) a2 c2 ∧ Six w' (w.heap.size + 2) ⟨k, o, r, b, g, u⟩)
      (first | with_reducible exact T0 | with_reducible exact T1 | fail)
      ((first | (go_at_call 76; refine ((HW'.out.kept (gbDrewN W2 1 none)).cs.put a2 c2 k o r b g u e ha2 hb hg he2).mono ?_; rintro _ u1 ⟨rfl, A1, F1⟩; have HW1 := hideIt ((HW'.out.kept (gbDrewN W2 1 none)).call A1 F1); have HX_1 := hideIt ((HX'.out.kept (gbDrewN W2 1 none)).call F1); have HY_1 := hideIt ((HY'.out.kept (gbDrewN W2 1 none)).call F1); have HB_1 := hideIt ((HB'.out.kept (gbDrewN W2 1 none)).call F1); have T1 : Ptr u1 p 0 s ∧ Two u1 (w.heap.size + 1) a2 c2 ∧ Six u1 (w.heap.size + 2) ⟨k, o, r, b, g, u⟩ := ⟨HW1.out.cs.c0, HY_1.out.sb.tup, HB_1.out.bx.tup⟩; clear A1 F1) | fail))
    clear T0 T1
    cases v2
    · have e0 : e = 0 := by simpa using hv2
      subst e0
      go_upto_region 7 with fail
      have T0 : Ptr u1.drew p 1 t ∧ Two u1.drew w.heap.size a c ∧ Two u1.drew (w.heap.size + 1) a2 c2 := ⟨(HW1.out.kept (gbDrewN u1 1 none)).cs.c1, (HX_1.out.kept (gbDrewN u1 1 none)).sb.tup, (HY_1.out.kept (gbDrewN u1 1 none)).sb.tup⟩
      go_region_held3 (fun w' => Ptr w' p 1 t ∧ Two w' w.heap.size a c ∧ Two w' (w.heap.size + 1) a2 c2)
        (first | with_reducible exact T0 | with_reducible exact T1 | fail)
        ((first | (go_at_call 81; refine ((HW1.out.kept (gbDrewN u1 1 none)).cs.child a c a2 c2 0 ha hc ha2 hc2 hm (M.chi_child I h1)).mono ?_; rintro _ u2 ⟨rfl, A2, F2⟩; have HW2 := hideIt ((HW1.out.kept (gbDrewN u1 1 none)).call A2 F2); have HX_2 := hideIt ((HX_1.out.kept (gbDrewN u1 1 none)).call F2); have HY_2 := hideIt ((HY_1.out.kept (gbDrewN u1 1 none)).call F2); have HB_2 := hideIt ((HB_1.out.kept (gbDrewN u1 1 none)).call F2); have T1 : Ptr u2 p 1 t ∧ Two u2 w.heap.size a c ∧ Two u2 (w.heap.size + 1) a2 c2 := ⟨HW2.out.cs.c1, HX_2.out.sb.tup, HY_2.out.sb.tup⟩; clear A2 F2) | fail))
      clear T0 T1
      go_wp2
      go_ret
      have E := HW2.out.fin hw0 hlo
      unfold M.chiS M.chiF
      rw [if_pos HE.out, if_pos HE.out]
      rw [M.putS_up (x := (a2, c2)) he2] at E
      exact ⟨rfl, E.1, E.2⟩
    · have e0 : e ≠ 0 := by simpa using hv2
      go_wp2
      go_ret
      have E := HW1.out.fin hw0 hlo
      unfold M.chiS M.chiF
      rw [if_neg (by rw [HE.out]; exact e0), if_neg (by rw [HE.out]; exact e0)]
      unfold M.putS at E
      rw [if_neg (by rw [he2]; exact e0)] at E
      exact ⟨rfl, E.1, E.2⟩
  · have z1 : e1 ≠ 0 := by simpa using hv
    have ee : e1 = e := by unfold M.chiE at he; rw [if_neg (by rw [h1]; exact z1), h1] at he; exact he
    subst ee
    have HE := hideIt he
    clear he
    go_wp2
    go_ret
    have E := HW'.out.fin hw0 hlo
    unfold M.chiS M.chiF
    rw [if_neg (by rw [HE.out]; exact z1), if_neg (by rw [HE.out]; exact z1)]
    exact ⟨rfl, E.1, E.2⟩

end Go.Proofs.YtdnoidnpiaadaaaGreat
