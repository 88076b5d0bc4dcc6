/-
  THE CONTRACTS of package moves: source, place, ends.
-/
import Derived.Test.YtpfjcfgbecoccaaG7
import Derived.Deep.RegionHeld3
import Derived.Deep.DeepCutAuto
namespace Go.Proofs.Ytpfjcfgbecoccaa
set_option maxRecDepth 10000
open Go.RowKit
set_option linter.unusedVariables false

abbrev Six (w : World) (x : Nat) (c : C) : Prop := w.cell? ⟨x, 0, none⟩ = some (.int .i64 c.k) ∧ w.cell? ⟨x, 1, none⟩ = some (.int .i64 c.o) ∧ w.cell? ⟨x, 2, none⟩ = some (.int .i64 c.r) ∧ w.cell? ⟨x, 3, none⟩ = some (.int .u64 c.b) ∧ w.cell? ⟨x, 4, none⟩ = some (.int .u64 c.g) ∧ w.cell? ⟨x, 5, none⟩ = some (.int .i64 c.n)
theorem Box.tup {w : World} {x : Nat} {c : C} (h : Box w x c) : Six w x c := ⟨h.at0, h.at1, h.at2, h.at3, h.at4, h.at5⟩
theorem gcell {W w1 : World} (h : W.grownBy w1 none) (b o : Nat) (hb : b < W.heap.size) : w1.cell? ⟨b, o, none⟩ = W.cell? ⟨b, o, none⟩ := by
  cases e : W.cell? ⟨b, o, none⟩ with
  | some v => exact h.cell e (by simp)
  | none => unfold World.cell? at e ⊢; rw [h.block b hb (by simp)]; exact e
theorem gfroz {W w1 : World} (h : W.grownBy w1 none) (b o : Nat) (hb : b < W.heap.size) : w1.frozen? ⟨b, o, none⟩ = W.frozen? ⟨b, o, none⟩ := gbFrozen h hb (by simp)
/-- A pointer's cell and a slot's name. -/
abbrev Rd3 (w : World) (p j q x : Nat) (n i : Int) : Prop := w.cell? ⟨p, j, none⟩ = some (.pointer (some ⟨q, 0, none⟩)) ∧ w.cell? ⟨x, 0, none⟩ = some (.int .i64 n) ∧ w.cell? ⟨x, 1, none⟩ = some (.int .i64 i)
theorem Rd3.kept {w w' : World} {p j q x : Nat} {n i : Int} (h : Rd3 w p j q x n i) (g : w.grownBy w' none) : Rd3 w' p j q x n i := ⟨g.cell h.1 (by simp), g.cell h.2.1 (by simp), g.cell h.2.2 (by simp)⟩

theorem slotCap (w : World) (n i : Int) : ∃ W, (w.alloc (.cells #[.int .i64 n, .int .i64 i] 24)).alloc (.cells #[.int .i64 0, .int .i64 0, .int .i64 0, .int .u64 0, .int .u64 0, .int .i64 0] 36) = W ∧ SBox W w.heap.size n i ∧ Box W (w.heap.size + 1) C.zero ∧ w.grownBy W none := by
  have g := gbAlloc (w.alloc (.cells #[.int .i64 n, .int .i64 i] 24)) (.cells #[.int .i64 0, .int .i64 0, .int .i64 0, .int .u64 0, .int .u64 0, .int .i64 0] 36) none
  have b := Box.made (w.alloc (.cells #[.int .i64 n, .int .i64 i] 24)) C.zero
  rw [Deep.nblk_alloc] at b
  exact ⟨_, rfl, (SBox.made w n i).kept g, b, gbTrans (gbAlloc _ _ _) g⟩

abbrev gGet (w : World) (s : Nat) (n i : Int) (c : C) (e : Int) : Prop := ∀ W, w.grownBy W none → Calls Try.prog 11 #[.pointer (some ⟨s, 0, none⟩), sv n i] W fun x w' => x = .returned (.tuple #[cv c, .int .i64 e]) ∧ W.grownBy w' none

set_option maxHeartbeats 2000000 in
theorem source_core (w : World) (p s : Nat) (n i k o r b g t e : Int) (v1 v2 : Bool) (hc : w.cell? ⟨p, 0, none⟩ = some (.pointer (some ⟨s, 0, none⟩))) (HG : gGet w s n i ⟨k, o, r, b, g, t⟩ e) (hv1 : (e == 0) = v1) (hv2 : (k == 0) = v2) :
    Calls Try.prog 53 #[.pointer (some ⟨p, 0, none⟩), sv n i] w fun x w' => x = .returned (if v1 && v2 then .tuple #[cv C.zero, .int .i64 3] else .tuple #[cv ⟨k, o, r, b, g, t⟩, .int .i64 e]) ∧ w.grownBy w' none := by
  go_enter Try.func53, Try.ntmps53
  go_upto_region 1 with fail
  obtain ⟨W, hW, X, Y, g0⟩ := slotCap w n i
  rw [hW]
  clear hW
  have HY := hideIt Y
  have HX := hideIt X
  clear X Y
  go_cut [6, 7] (fun s6 s7 wc => ∃ Z : Nat, s6 = .pointer (some ⟨Z, 0, none⟩) ∧ s7 = .int .i64 e ∧ Hid (Box wc Z ⟨k, o, r, b, g, t⟩) ∧ Hid (Box wc (w.heap.size + 1) C.zero) ∧ Hid (w.grownBy wc none))
  case first =>
    have T0b : Rd3 W p 0 s w.heap.size n i := ⟨g0.cell hc (by simp), HX.out.at0, HX.out.at1⟩
    have T0 : Rd3 W.drew p 0 s w.heap.size n i := T0b.kept (gbDrew (gbRefl W none))
    go_region_held3 (fun w' => Rd3 w' p 0 s w.heap.size n i)
      (first | with_reducible exact T0 | (refine Rd3.kept T0b ?_; repeat (first | with_reducible exact G2 | with_reducible exact gbRefl W none | with_reducible refine gbDrew ?_ | with_reducible refine gbAllocN ?_ _ | with_reducible refine gbSetNew ?_ _ _ _ (by with_reducible first | exact Nat.le_refl _ | exact G2.size))) | fail)
      ((first | (go_at_call 11; refine (HG _ (by repeat (first | with_reducible exact g0 | with_reducible refine gbDrew ?_ | with_reducible refine gbAllocN ?_ _))).mono ?_; rintro _ u1 ⟨rfl, g5⟩; have hc3 := gcell g5; have hf3 := gfroz g5; have G2 : W.grownBy u1 none := (by first | exact gbTrans (gbDrewN W 1 none) g5 | exact gbTrans (gbDrew (gbAllocN (gbRefl W none) _)) g5)) | fail))
    · rename_i hold
      clear hold T0
      obtain ⟨W6, hW6, Z6, g6⟩ := boxNew u1 ⟨k, o, r, b, g, t⟩
      simp only at hW6
      rw [hW6]
      go_wp2
      go_meet
      exact ⟨_, rfl, rfl, Z6, HY.out.kept (gbTrans G2 g6), gbTrans g0 (gbTrans G2 g6)⟩
    · rename_i hold
      clear hold T0
      have Z0 : Box u1 W.heap.size C.zero := ((Box.made W C.zero).kept (gbDrew (gbRefl _ none))).kept g5
      obtain ⟨W6, hW6, Z6, g6⟩ := Z0.put ⟨k, o, r, b, g, t⟩
      simp only at hW6
      rw [hW6]
      have G7 := gbNew (gbTrans (gbAny G2 _) g6) (Nat.le_refl _)
      go_wp2
      go_meet
      exact ⟨_, rfl, rfl, Z6, HY.out.kept G7, gbTrans g0 G7⟩
  case rest =>
    obtain ⟨Z, rfl, rfl, HZ, HQ, GG⟩ := hcut
    obtain ⟨z0, z1, z2, z3, z4, z5, _, _⟩ := HZ.out
    simp only at z0 z1 z2 z3 z4 z5
    obtain ⟨q0, q1, q2, q3, q4, q5, _, qf⟩ := HQ.out
    have f0 := qf 0
    have f1 := qf 1
    have f2 := qf 2
    have f3 := qf 3
    have f4 := qf 4
    have f5 := qf 5
    clear qf
    cases v1 <;> cases v2
    · go_wp2
      obtain ⟨W7, hW7, Q7, g7⟩ := HQ.out.put ⟨k, o, r, b, g, t⟩
      simp only at hW7
      rw [hW7]
      clear hW7 q0 q1 q2 q3 q4 q5 f0 f1 f2 f3 f4 f5
      obtain ⟨y0, y1, y2, y3, y4, y5, _, _⟩ := Q7
      simp only at y0 y1 y2 y3 y4 y5
      exact bodyPost_ret (v := .tuple #[cv ⟨k, o, r, b, g, t⟩, .int .i64 e]) (by simp [results, Try.results53, go_sem, y0, y1, y2, y3, y4, y5]) rfl ⟨rfl, gbNew (gbTrans (gbAny GG.out _) g7) (Nat.le_succ _)⟩
    · go_wp2
      obtain ⟨W7, hW7, Q7, g7⟩ := HQ.out.put ⟨k, o, r, b, g, t⟩
      simp only at hW7
      rw [hW7]
      clear hW7 q0 q1 q2 q3 q4 q5 f0 f1 f2 f3 f4 f5
      obtain ⟨y0, y1, y2, y3, y4, y5, _, _⟩ := Q7
      simp only at y0 y1 y2 y3 y4 y5
      exact bodyPost_ret (v := .tuple #[cv ⟨k, o, r, b, g, t⟩, .int .i64 e]) (by simp [results, Try.results53, go_sem, y0, y1, y2, y3, y4, y5]) rfl ⟨rfl, gbNew (gbTrans (gbAny GG.out _) g7) (Nat.le_succ _)⟩
    · go_wp2
      obtain ⟨W7, hW7, Q7, g7⟩ := HQ.out.put ⟨k, o, r, b, g, t⟩
      simp only at hW7
      rw [hW7]
      clear hW7 q0 q1 q2 q3 q4 q5 f0 f1 f2 f3 f4 f5
      obtain ⟨y0, y1, y2, y3, y4, y5, _, _⟩ := Q7
      simp only at y0 y1 y2 y3 y4 y5
      exact bodyPost_ret (v := .tuple #[cv ⟨k, o, r, b, g, t⟩, .int .i64 e]) (by simp [results, Try.results53, go_sem, y0, y1, y2, y3, y4, y5]) rfl ⟨rfl, gbNew (gbTrans (gbAny GG.out _) g7) (Nat.le_succ _)⟩
    · go_wp2
      obtain ⟨W7, hW7, Q7, g7⟩ := HQ.out.put C.zero
      simp only at hW7
      rw [hW7]
      clear hW7 q0 q1 q2 q3 q4 q5 f0 f1 f2 f3 f4 f5
      obtain ⟨y0, y1, y2, y3, y4, y5, _, _⟩ := Q7
      exact bodyPost_ret (v := .tuple #[cv C.zero, .int .i64 3]) (by simp [results, Try.results53, go_sem, y0, y1, y2, y3, y4, y5]) rfl ⟨rfl, gbNew (gbTrans (gbAny GG.out _) g7) (Nat.le_succ _)⟩

set_option maxHeartbeats 2000000 in
theorem place_core (w : World) (p s : Nat) (n i k o r b g t e : Int) (v1 v2 : Bool) (hc : w.cell? ⟨p, 0, none⟩ = some (.pointer (some ⟨s, 0, none⟩))) (HG : gGet w s n i ⟨k, o, r, b, g, t⟩ e) (hv1 : (e == 0) = v1) (hv2 : (k != 0) = v2) :
    Calls Try.prog 54 #[.pointer (some ⟨p, 0, none⟩), sv n i] w fun x w' => x = .returned (.int .i64 (if v1 && v2 then 4 else e)) ∧ w.grownBy w' none := by
  go_enter Try.func54, Try.ntmps54
  go_upto_region 1 with fail
  obtain ⟨W, hW, X, g0⟩ := sboxNew w n i
  rw [hW]
  clear hW
  have HX := hideIt X
  clear X
  go_cut [5, 6] (fun s6 s7 wc => ∃ Z : Nat, s6 = .pointer (some ⟨Z, 0, none⟩) ∧ s7 = .int .i64 e ∧ Hid (Box wc Z ⟨k, o, r, b, g, t⟩) ∧ Hid (w.grownBy wc none))
  case first =>
    have T0b : Rd3 W p 0 s w.heap.size n i := ⟨g0.cell hc (by simp), HX.out.at0, HX.out.at1⟩
    have T0 : Rd3 W.drew p 0 s w.heap.size n i := T0b.kept (gbDrew (gbRefl W none))
    go_region_held3 (fun w' => Rd3 w' p 0 s w.heap.size n i)
      (first | with_reducible exact T0 | (refine Rd3.kept T0b ?_; repeat (first | with_reducible exact G2 | with_reducible exact gbRefl W none | with_reducible refine gbDrew ?_ | with_reducible refine gbAllocN ?_ _ | with_reducible refine gbSetNew ?_ _ _ _ (by with_reducible first | exact Nat.le_refl _ | exact G2.size))) | fail)
      ((first | (go_at_call 11; refine (HG _ (by repeat (first | with_reducible exact g0 | with_reducible refine gbDrew ?_ | with_reducible refine gbAllocN ?_ _))).mono ?_; rintro _ u1 ⟨rfl, g5⟩; have hc3 := gcell g5; have hf3 := gfroz g5; have G2 : W.grownBy u1 none := (by first | exact gbTrans (gbDrewN W 1 none) g5 | exact gbTrans (gbDrew (gbAllocN (gbRefl W none) _)) g5)) | fail))
    · rename_i hold
      clear hold T0
      obtain ⟨W6, hW6, Z6, g6⟩ := boxNew u1 ⟨k, o, r, b, g, t⟩
      simp only at hW6
      rw [hW6]
      go_wp2
      go_meet
      exact ⟨_, rfl, rfl, Z6, gbTrans g0 (gbTrans G2 g6)⟩
    · rename_i hold
      clear hold T0
      have Z0 : Box u1 W.heap.size C.zero := ((Box.made W C.zero).kept (gbDrew (gbRefl _ none))).kept g5
      obtain ⟨W6, hW6, Z6, g6⟩ := Z0.put ⟨k, o, r, b, g, t⟩
      simp only at hW6
      rw [hW6]
      have G7 := gbNew (gbTrans (gbAny G2 _) g6) (Nat.le_refl _)
      go_wp2
      go_meet
      exact ⟨_, rfl, rfl, Z6, gbTrans g0 G7⟩
  case rest =>
    obtain ⟨Z, rfl, rfl, HZ, GG⟩ := hcut
    obtain ⟨z0, _, _, _, _, _, _, _⟩ := HZ.out
    simp only at z0
    cases v1 <;> cases v2
    · go_wp2
      go_ret
      exact ⟨rfl, GG.out⟩
    · go_wp2
      go_ret
      exact ⟨rfl, GG.out⟩
    · go_wp2
      go_ret
      exact ⟨rfl, GG.out⟩
    · go_wp2
      go_ret
      exact ⟨rfl, GG.out⟩

/-- A source: what is there, or why it is none. -/
theorem Cs.src {w0 w : World} {O : Nat → Prop} {p s t m : Nat} {S : St} {f : T9.Fo} (h : Cs w0 w O p s t m S f) (x : Int × Int) (hx : I64 x.1) (c : C) (e : Int) (hc : M.srcC S x = c) (he : M.srcE S x = e) :
    Calls Try.prog 53 #[.pointer (some ⟨p, 0, none⟩), sv x.1 x.2] w fun x w' => x = .returned (.tuple #[cv c, .int .i64 e]) ∧ w.grownBy w' none := by
  subst hc he
  obtain ⟨c1, hc⟩ : ∃ c, M.gc S x = c := ⟨_, rfl⟩
  obtain ⟨e0, he⟩ : ∃ e, M.getE S x.1 x.2 = e := ⟨_, rfl⟩
  obtain ⟨k, o, r, b, g, u⟩ := c1
  have HG : gGet w s x.1 x.2 ⟨k, o, r, b, g, u⟩ e0 := fun W g => (h.kept g).get x.1 x.2 _ _ _ _ _ _ _ hx hc he
  refine (source_core w p s x.1 x.2 k o r b g u e0 _ _ h.c0 HG rfl rfl).mono ?_
  rintro _ w' ⟨rfl, g'⟩
  refine ⟨?_, g'⟩
  by_cases ht : M.there S x.1 x.2 = true
  · have h0 : e0 = 0 := by rw [← he]; unfold M.getE; rw [if_pos ht]
    subst h0
    by_cases hk : k = 0
    · subst hk
      have e1 : M.srcE S x = 3 := by
        unfold M.srcE M.takeE
        rw [if_pos ht, if_pos (show (M.getC S x.1 x.2).k = 0 by rw [show M.getC S x.1 x.2 = _ from hc])]
      rw [M.srcC_no (by rw [e1]; decide), e1]; rfl
    · have hk' : (M.gc S x).k ≠ 0 := by rw [hc]; exact hk
      have : (k == 0) = false := by simpa using hk
      rw [M.srcC_ok (M.srcE_yes hk'), M.srcE_yes hk', hc, this]; rfl
  · have h0 : e0 = 6 := by rw [← he]; unfold M.getE; rw [if_neg ht]
    subst h0
    have e1 : M.srcE S x = 6 := by unfold M.srcE M.takeE; rw [if_neg ht]
    have e2 : M.gc S x = C.zero := M.gc_no (by simpa [M.th] using ht)
    rw [hc] at e2
    cases e2
    rw [M.srcC_no (by rw [e1]; decide), e1]; rfl
/-- A place, or why it is none. -/
theorem Cs.plc {w0 w : World} {O : Nat → Prop} {p s t m : Nat} {S : St} {f : T9.Fo} (h : Cs w0 w O p s t m S f) (x : Int × Int) (hx : I64 x.1) (e : Int) (he : M.plcE S x = e) :
    Calls Try.prog 54 #[.pointer (some ⟨p, 0, none⟩), sv x.1 x.2] w fun x w' => x = .returned (.int .i64 e) ∧ w.grownBy w' none := by
  subst he
  obtain ⟨c1, hc⟩ : ∃ c, M.gc S x = c := ⟨_, rfl⟩
  obtain ⟨e0, he⟩ : ∃ e, M.getE S x.1 x.2 = e := ⟨_, rfl⟩
  obtain ⟨k, o, r, b, g, u⟩ := c1
  have HG : gGet w s x.1 x.2 ⟨k, o, r, b, g, u⟩ e0 := fun W g => (h.kept g).get x.1 x.2 _ _ _ _ _ _ _ hx hc he
  refine (place_core w p s x.1 x.2 k o r b g u e0 _ _ h.c0 HG rfl rfl).mono ?_
  rintro _ w' ⟨rfl, g'⟩
  refine ⟨?_, g'⟩
  unfold M.plcE
  rw [hc]
  by_cases ht : M.there S x.1 x.2 = true
  · have h0 : e0 = 0 := by rw [← he]; unfold M.getE; rw [if_pos ht]
    subst h0
    rw [if_pos (show M.th S x = true from ht)]
    by_cases hk : k = 0
    · subst hk; rfl
    · have : (k != 0) = true := by simpa using hk
      rw [if_neg hk, this]; rfl
  · have h0 : e0 = 6 := by rw [← he]; unfold M.getE; rw [if_neg ht]
    subst h0
    rw [if_neg (show ¬ M.th S x = true from ht)]; rfl

abbrev gSrc (w : World) (p : Nat) (x : Int × Int) (c : C) (e : Int) : Prop := ∀ W, w.grownBy W none → Calls Try.prog 53 #[.pointer (some ⟨p, 0, none⟩), sv x.1 x.2] W fun x w' => x = .returned (.tuple #[cv c, .int .i64 e]) ∧ W.grownBy w' none
abbrev gPlc (w : World) (p : Nat) (x : Int × Int) (e : Int) : Prop := ∀ W, w.grownBy W none → Calls Try.prog 54 #[.pointer (some ⟨p, 0, none⟩), sv x.1 x.2] W fun x w' => x = .returned (.int .i64 e) ∧ W.grownBy w' none

theorem slotsCap (w : World) (n i n' i' : Int) : ∃ W, ((w.alloc (.cells #[.int .i64 n, .int .i64 i] 24)).alloc (.cells #[.int .i64 n', .int .i64 i'] 24)).alloc (.cells #[.int .i64 0, .int .i64 0, .int .i64 0, .int .u64 0, .int .u64 0, .int .i64 0] 36) = W ∧ SBox W w.heap.size n i ∧ SBox W (w.heap.size + 1) n' i' ∧ Box W (w.heap.size + 2) C.zero ∧ w.grownBy W none := by
  obtain ⟨W, hW, X, Y, g⟩ := slotCap (w.alloc (.cells #[.int .i64 n, .int .i64 i] 24)) n' i'
  rw [Deep.nblk_alloc] at X Y
  exact ⟨W, hW, (SBox.made w n i).kept g, X, Y, gbTrans (gbAlloc _ _ _) g⟩

set_option maxHeartbeats 2000000 in
theorem ends_core (w : World) (p : Nat) (A B : Int × Int) (k o r b g t E1 E2 : Int) (v1 v2 : Bool) (HS : gSrc w p A ⟨k, o, r, b, g, t⟩ E1) (HP : gPlc w p B E2) (hv1 : (E1 != 0) = v1) (hv2 : (E2 != 0) = v2) :
    Calls Try.prog 41 #[.pointer (some ⟨p, 0, none⟩), sv A.1 A.2, sv B.1 B.2] w fun x w' => x = .returned (if v1 then .tuple #[cv C.zero, .int .i64 E1] else if v2 then .tuple #[cv C.zero, .int .i64 E2] else .tuple #[cv ⟨k, o, r, b, g, t⟩, .int .i64 0]) ∧ w.grownBy w' none := by
  go_enter Try.func41, Try.ntmps41
  go_upto_region 1 with fail
  obtain ⟨W, hW, X, Y, Q, g0⟩ := slotsCap w A.1 A.2 B.1 B.2
  rw [hW]
  clear hW
  have HY := hideIt Y
  have HQ0 := hideIt Q
  obtain ⟨x0, x1, _⟩ := X
  clear Y Q
  go_wp2_with fail
  refine (HS _ g0).mono ?_
  rintro _ w1 ⟨rfl, g1⟩
  clear x0 x1
  go_upto_region 2 with fail
  obtain ⟨W2, hW2, Z2, g2⟩ := boxNew w1 ⟨k, o, r, b, g, t⟩
  simp only at hW2
  rw [hW2]
  clear hW2
  have HZ := hideIt Z2
  clear Z2
  have GA := hideIt (gbTrans g0 (gbTrans g1 g2))
  have HQ1 := hideIt (HQ0.out.kept (gbTrans g1 g2))
  have HY1 := hideIt (HY.out.kept (gbTrans g1 g2))
  clear HQ0 HY g1 g2 g0
  cases v1
  · obtain ⟨y0, y1, _⟩ := HY1.out
    go_wp2_with fail
    refine (HP _ GA.out).mono ?_
    rintro _ w3 ⟨rfl, g3⟩
    clear y0 y1
    have GG := gbTrans GA.out g3
    have HQ := hideIt (HQ1.out.kept g3)
    have HZ3 := hideIt (HZ.out.kept g3)
    cases v2
    · obtain ⟨z0, z1, z2, z3, z4, z5, _, _⟩ := HZ3.out
      simp only at z0 z1 z2 z3 z4 z5
      obtain ⟨q0, q1, q2, q3, q4, q5, _, qf⟩ := HQ.out
      have f0 := qf 0
      have f1 := qf 1
      have f2 := qf 2
      have f3 := qf 3
      have f4 := qf 4
      have f5 := qf 5
      clear qf
      go_wp2
      obtain ⟨W7, hW7, Q7, g7⟩ := HQ.out.put ⟨k, o, r, b, g, t⟩
      simp only at hW7
      rw [hW7]
      clear hW7 q0 q1 q2 q3 q4 q5 f0 f1 f2 f3 f4 f5
      obtain ⟨y0, y1, y2, y3, y4, y5, _, _⟩ := Q7
      simp only at y0 y1 y2 y3 y4 y5
      exact bodyPost_ret (v := .tuple #[cv ⟨k, o, r, b, g, t⟩, .int .i64 0]) (by simp [results, Try.results41, go_sem, y0, y1, y2, y3, y4, y5]) rfl ⟨rfl, gbNew (gbTrans (gbAny GG _) g7) (Nat.le_add_right _ 2)⟩
    · have hz := HZ3
      obtain ⟨q0, q1, q2, q3, q4, q5, _, qf⟩ := HQ.out
      have f0 := qf 0
      have f1 := qf 1
      have f2 := qf 2
      have f3 := qf 3
      have f4 := qf 4
      have f5 := qf 5
      clear qf
      go_wp2
      obtain ⟨W7, hW7, Q7, g7⟩ := HQ.out.put C.zero
      simp only at hW7
      rw [hW7]
      clear hW7 q0 q1 q2 q3 q4 q5 f0 f1 f2 f3 f4 f5
      obtain ⟨y0, y1, y2, y3, y4, y5, _, _⟩ := Q7
      exact bodyPost_ret (v := .tuple #[cv C.zero, .int .i64 E2]) (by simp [results, Try.results41, go_sem, y0, y1, y2, y3, y4, y5]) rfl ⟨rfl, gbNew (gbTrans (gbAny GG _) g7) (Nat.le_add_right _ 2)⟩
  · have HQ := HQ1
    have GG := GA.out
    · have hz := HZ
      obtain ⟨q0, q1, q2, q3, q4, q5, _, qf⟩ := HQ.out
      have f0 := qf 0
      have f1 := qf 1
      have f2 := qf 2
      have f3 := qf 3
      have f4 := qf 4
      have f5 := qf 5
      clear qf
      go_wp2
      obtain ⟨W7, hW7, Q7, g7⟩ := HQ.out.put C.zero
      simp only at hW7
      rw [hW7]
      clear hW7 q0 q1 q2 q3 q4 q5 f0 f1 f2 f3 f4 f5
      obtain ⟨y0, y1, y2, y3, y4, y5, _, _⟩ := Q7
      exact bodyPost_ret (v := .tuple #[cv C.zero, .int .i64 E1]) (by simp [results, Try.results41, go_sem, y0, y1, y2, y3, y4, y5]) rfl ⟨rfl, gbNew (gbTrans (gbAny GG _) g7) (Nat.le_add_right _ 2)⟩

/-- What is in a source, if there is a place for it. -/
theorem Cs.ends {w0 w : World} {O : Nat → Prop} {p s t m : Nat} {S : St} {f : T9.Fo} (h : Cs w0 w O p s t m S f) (A B : Int × Int) (hA : I64 A.1) (hB : I64 B.1) (c : C) (e : Int) (hc : M.endC S A B = c) (he : M.endE S A B = e) :
    Calls Try.prog 41 #[.pointer (some ⟨p, 0, none⟩), sv A.1 A.2, sv B.1 B.2] w fun x w' => x = .returned (.tuple #[cv c, .int .i64 e]) ∧ w.grownBy w' none := by
  subst hc he
  obtain ⟨c1, hc⟩ : ∃ c, M.srcC S A = c := ⟨_, rfl⟩
  obtain ⟨e1, h1⟩ : ∃ e, M.srcE S A = e := ⟨_, rfl⟩
  obtain ⟨e2, h2⟩ : ∃ e, M.plcE S B = e := ⟨_, rfl⟩
  obtain ⟨k, o, r, b, g, u⟩ := c1
  refine (ends_core w p A B k o r b g u e1 e2 _ _ (fun W g => (h.kept g).src A hA _ _ hc h1) (fun W g => (h.kept g).plc B hB _ h2) rfl rfl).mono ?_
  rintro _ w' ⟨rfl, g'⟩
  refine ⟨?_, g'⟩
  unfold M.endC M.endE
  rw [h1, h2]
  by_cases k1 : e1 = 0
  · subst k1
    rw [M.srcC_ok h1] at hc
    rw [if_pos rfl, hc]
    by_cases k2 : e2 = 0
    · subst k2; rfl
    · have : (e2 != 0) = true := by simpa using k2
      rw [if_neg k2, this]; rfl
  · have : (e1 != 0) = true := by simpa using k1
    rw [if_neg k1, if_neg k1, this]; rfl
end Go.Proofs.Ytpfjcfgbecoccaa
