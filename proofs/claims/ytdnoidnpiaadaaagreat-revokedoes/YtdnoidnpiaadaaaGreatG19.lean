/-
  THE CONTRACTS of the document's side: donjonref10's source and place.
-/
import Derived.Test.YtdnoidnpiaadaaaGreatG17
import Derived.Test.YtdnoidnpiaadaaaGreatG18
import Derived.Deep.RegionHeld3
namespace Go.Proofs.YtdnoidnpiaadaaaGreat
set_option maxRecDepth 10000
open Go.RowKit
set_option linter.unusedVariables false

theorem two_kept {w w' : World} {x : Nat} {n i : Int} (h : Two w x n i) (g : w.grownBy w' none) : Two w' x n i := ⟨g.cell h.1 (by simp), g.cell h.2 (by simp)⟩
theorem two_keep {w w' : World} {x y : Nat} {n i : Int} (h : Two w x n i) (g : w.grownBy w' (some y)) (hx : x ≠ y) : Two w' x n i := ⟨g.cell h.1 (by simpa using hx), g.cell h.2 (by simpa using hx)⟩
abbrev dGet (w : World) (s : Nat) (n i : Int) (c : C) (e : Int) : Prop := ∀ W, w.grownBy W none → Calls Tryz.prog 52 #[.pointer (some ⟨s, 0, none⟩), sv n i] W fun x w' => x = .returned (.tuple #[cv c, .int .i64 e]) ∧ W.grownBy w' none

set_option maxHeartbeats 2000000 in
theorem rsource_core (w : World) (p : Nat) (n i k o r b g t e : Int) (v1 v2 : Bool) (HG : dGet w p n i ⟨k, o, r, b, g, t⟩ e) (hv1 : (e == 0) = v1) (hv2 : (k == 0) = v2) :
    Calls Tryz.prog 82 #[.pointer (some ⟨p, 0, none⟩), sv n i] w fun x w' => x = .returned (.tuple #[cv ⟨k, o, r, b, g, t⟩, .int .i64 (if v1 && v2 then 3 else e)]) ∧ w.grownBy w' none := by
  go_enter Tryz.func82, Tryz.ntmps82
  go_upto_region 1 with fail
  obtain ⟨W, hW, X, Y, g0⟩ := slotCap w n i
  rw [hW]
  clear hW
  have HY := hideIt Y
  have HX := hideIt X
  clear X Y
  go_cut [6, 7] (fun s6 s7 wc => ∃ Z : Nat, s6 = .pointer (some ⟨Z, 0, none⟩) ∧ s7 = .int .i64 e ∧ Hid (Box wc Z ⟨k, o, r, b, g, t⟩) ∧ Hid (Box wc (w.heap.size + 1) C.zero) ∧ Hid (w.grownBy wc none))
  case first =>
    have T0b : Two W w.heap.size n i := ⟨HX.out.at0, HX.out.at1⟩
    have T0 : Two W.drew w.heap.size n i := two_kept T0b (gbDrew (gbRefl W none))
    go_region_held3 (fun w' => Two w' w.heap.size n i)
      (first | with_reducible exact T0 | (refine two_kept T0b ?_; repeat (first | with_reducible exact G2 | with_reducible exact gbRefl W none | with_reducible refine gbDrew ?_ | with_reducible refine gbAllocN ?_ _ | with_reducible refine gbSetNew ?_ _ _ _ (by with_reducible first | exact Nat.le_refl _ | exact G2.size))) | fail)
      ((first | (go_at_call 52; refine (HG _ (by repeat (first | with_reducible exact g0 | with_reducible refine gbDrew ?_ | with_reducible refine gbAllocN ?_ _))).mono ?_; rintro _ u1 ⟨rfl, g5⟩; have hc3 := gcell g5; have hf3 := gfroz g5; have G2 : W.grownBy u1 none := (by first | exact gbTrans (gbDrewN W 1 none) g5 | exact gbTrans (gbDrew (gbAllocN (gbRefl W none) _)) g5)) | fail))
    · rename_i hold
      clear hold T0
      obtain ⟨W6, hW6, Z6, g6⟩ := boxNew u1 ⟨k, o, r, b, g, t⟩
      simp only at hW6
      rw [hW6]
      go_wp2
      go_meet
      exact ⟨_, rfl, rfl, Z6, HY.out.kept (gbTrans G2 g6), gbTrans g0 (gbTrans G2 g6)⟩
    · rename_i hold
      clear hold T0
      have Z0 : Box u1 W.heap.size C.zero := ((Box.made W C.zero).kept (gbDrew (gbRefl _ none))).kept g5
      obtain ⟨W6, hW6, Z6, g6⟩ := Z0.put ⟨k, o, r, b, g, t⟩
      simp only at hW6
      rw [hW6]
      have G7 := gbNew (gbTrans (gbAny G2 _) g6) (Nat.le_refl _)
      go_wp2
      go_meet
      exact ⟨_, rfl, rfl, Z6, HY.out.kept G7, gbTrans g0 G7⟩
  case rest =>
    obtain ⟨Z, rfl, rfl, HZ, HQ, GG⟩ := hcut
    obtain ⟨z0, z1, z2, z3, z4, z5, _, _⟩ := HZ.out
    simp only at z0 z1 z2 z3 z4 z5
    obtain ⟨q0, q1, q2, q3, q4, q5, _, qf⟩ := HQ.out
    have f0 := qf 0
    have f1 := qf 1
    have f2 := qf 2
    have f3 := qf 3
    have f4 := qf 4
    have f5 := qf 5
    clear qf
    cases v1 <;> cases v2
    · go_wp2
      obtain ⟨W7, hW7, Q7, g7⟩ := HQ.out.put ⟨k, o, r, b, g, t⟩
      simp only at hW7
      rw [hW7]
      clear hW7 q0 q1 q2 q3 q4 q5 f0 f1 f2 f3 f4 f5
      obtain ⟨y0, y1, y2, y3, y4, y5, _, _⟩ := Q7
      simp only at y0 y1 y2 y3 y4 y5
      exact bodyPost_ret (v := .tuple #[cv ⟨k, o, r, b, g, t⟩, .int .i64 e]) (by simp [results, Tryz.results82, go_sem, y0, y1, y2, y3, y4, y5]) rfl ⟨rfl, gbNew (gbTrans (gbAny GG.out _) g7) (Nat.le_succ _)⟩
    · go_wp2
      obtain ⟨W7, hW7, Q7, g7⟩ := HQ.out.put ⟨k, o, r, b, g, t⟩
      simp only at hW7
      rw [hW7]
      clear hW7 q0 q1 q2 q3 q4 q5 f0 f1 f2 f3 f4 f5
      obtain ⟨y0, y1, y2, y3, y4, y5, _, _⟩ := Q7
      simp only at y0 y1 y2 y3 y4 y5
      exact bodyPost_ret (v := .tuple #[cv ⟨k, o, r, b, g, t⟩, .int .i64 e]) (by simp [results, Tryz.results82, go_sem, y0, y1, y2, y3, y4, y5]) rfl ⟨rfl, gbNew (gbTrans (gbAny GG.out _) g7) (Nat.le_succ _)⟩
    · go_wp2
      obtain ⟨W7, hW7, Q7, g7⟩ := HQ.out.put ⟨k, o, r, b, g, t⟩
      simp only at hW7
      rw [hW7]
      clear hW7 q0 q1 q2 q3 q4 q5 f0 f1 f2 f3 f4 f5
      obtain ⟨y0, y1, y2, y3, y4, y5, _, _⟩ := Q7
      simp only at y0 y1 y2 y3 y4 y5
      exact bodyPost_ret (v := .tuple #[cv ⟨k, o, r, b, g, t⟩, .int .i64 e]) (by simp [results, Tryz.results82, go_sem, y0, y1, y2, y3, y4, y5]) rfl ⟨rfl, gbNew (gbTrans (gbAny GG.out _) g7) (Nat.le_succ _)⟩
    · go_wp2
      obtain ⟨W7, hW7, Q7, g7⟩ := HQ.out.put ⟨k, o, r, b, g, t⟩
      simp only at hW7
      rw [hW7]
      clear hW7 q0 q1 q2 q3 q4 q5 f0 f1 f2 f3 f4 f5
      obtain ⟨y0, y1, y2, y3, y4, y5, _, _⟩ := Q7
      simp only at y0 y1 y2 y3 y4 y5
      exact bodyPost_ret (v := .tuple #[cv ⟨k, o, r, b, g, t⟩, .int .i64 3]) (by simp [results, Tryz.results82, go_sem, y0, y1, y2, y3, y4, y5]) rfl ⟨rfl, gbNew (gbTrans (gbAny GG.out _) g7) (Nat.le_succ _)⟩

set_option maxHeartbeats 2000000 in
theorem rplace_core (w : World) (p : Nat) (n i k o r b g t e : Int) (v1 v2 : Bool) (HG : dGet w p n i ⟨k, o, r, b, g, t⟩ e) (hv1 : (e == 0) = v1) (hv2 : (k != 0) = v2) :
    Calls Tryz.prog 83 #[.pointer (some ⟨p, 0, none⟩), sv n i] w fun x w' => x = .returned (.int .i64 (if v1 && v2 then 4 else e)) ∧ w.grownBy w' none := by
  go_enter Tryz.func83, Tryz.ntmps83
  go_upto_region 1 with fail
  obtain ⟨W, hW, X, g0⟩ := sboxNew w n i
  rw [hW]
  clear hW
  have HX := hideIt X
  clear X
  go_cut [5, 6] (fun s6 s7 wc => ∃ Z : Nat, s6 = .pointer (some ⟨Z, 0, none⟩) ∧ s7 = .int .i64 e ∧ Hid (Box wc Z ⟨k, o, r, b, g, t⟩) ∧ Hid (w.grownBy wc none))
  case first =>
    have T0b : Two W w.heap.size n i := ⟨HX.out.at0, HX.out.at1⟩
    have T0 : Two W.drew w.heap.size n i := two_kept T0b (gbDrew (gbRefl W none))
    go_region_held3 (fun w' => Two w' w.heap.size n i)
      (first | with_reducible exact T0 | (refine two_kept T0b ?_; repeat (first | with_reducible exact G2 | with_reducible exact gbRefl W none | with_reducible refine gbDrew ?_ | with_reducible refine gbAllocN ?_ _ | with_reducible refine gbSetNew ?_ _ _ _ (by with_reducible first | exact Nat.le_refl _ | exact G2.size))) | fail)
      ((first | (go_at_call 52; refine (HG _ (by repeat (first | with_reducible exact g0 | with_reducible refine gbDrew ?_ | with_reducible refine gbAllocN ?_ _))).mono ?_; rintro _ u1 ⟨rfl, g5⟩; have hc3 := gcell g5; have hf3 := gfroz g5; have G2 : W.grownBy u1 none := (by first | exact gbTrans (gbDrewN W 1 none) g5 | exact gbTrans (gbDrew (gbAllocN (gbRefl W none) _)) g5)) | fail))
    · rename_i hold
      clear hold T0
      obtain ⟨W6, hW6, Z6, g6⟩ := boxNew u1 ⟨k, o, r, b, g, t⟩
      simp only at hW6
      rw [hW6]
      go_wp2
      go_meet
      exact ⟨_, rfl, rfl, Z6, gbTrans g0 (gbTrans G2 g6)⟩
    · rename_i hold
      clear hold T0
      have Z0 : Box u1 W.heap.size C.zero := ((Box.made W C.zero).kept (gbDrew (gbRefl _ none))).kept g5
      obtain ⟨W6, hW6, Z6, g6⟩ := Z0.put ⟨k, o, r, b, g, t⟩
      simp only at hW6
      rw [hW6]
      have G7 := gbNew (gbTrans (gbAny G2 _) g6) (Nat.le_refl _)
      go_wp2
      go_meet
      exact ⟨_, rfl, rfl, Z6, gbTrans g0 G7⟩
  case rest =>
    obtain ⟨Z, rfl, rfl, HZ, GG⟩ := hcut
    obtain ⟨z0, _, _, _, _, _, _, _⟩ := HZ.out
    simp only at z0
    cases v1 <;> cases v2
    · go_wp2
      go_ret
      exact ⟨rfl, GG.out⟩
    · go_wp2
      go_ret
      exact ⟨rfl, GG.out⟩
    · go_wp2
      go_ret
      exact ⟨rfl, GG.out⟩
    · go_wp2
      go_ret
      exact ⟨rfl, GG.out⟩

/-- A source: what is there, or why it is none. -/
theorem Rc.src {w0 w : World} {O : Nat → Prop} {q : Nat} {S : St} {f : T9.Fo} (h : Rc w0 w O q S f) (n i : Int) (c : C) (e : Int) (hc : M.srcC S (n, i) = c) (he : M.srcE S (n, i) = e) :
    Calls Tryz.prog 82 #[.pointer (some ⟨q, 0, none⟩), sv n i] w fun x w' => x = .returned (.tuple #[cv c, .int .i64 e]) ∧ w.grownBy w' none := by
  subst hc he
  obtain ⟨c1, hc⟩ : ∃ c, M.gc S (n, i) = c := ⟨_, rfl⟩
  obtain ⟨e0, he⟩ : ∃ e, M.getE S n i = e := ⟨_, rfl⟩
  obtain ⟨k, o, r, b, g, u⟩ := c1
  have HG : dGet w q n i ⟨k, o, r, b, g, u⟩ e0 := fun W g => (h.kept g).get n i _ _ _ _ _ _ _ hc he
  refine (rsource_core w q n i k o r b g u e0 _ _ HG rfl rfl).mono ?_
  rintro _ w' ⟨rfl, g'⟩
  refine ⟨?_, g'⟩
  by_cases ht : M.there S n i = true
  · have h0 : e0 = 0 := by rw [← he]; unfold M.getE; rw [if_pos ht]
    subst h0
    by_cases hk : k = 0
    · subst hk
      have hz : M.gc S (n, i) = C.zero := M.gc_nul h.gs (by rw [hc])
      rw [hc] at hz
      cases hz
      have e1 : M.srcE S (n, i) = 3 := by
        unfold M.srcE M.takeE
        rw [if_pos ht, if_pos (show (M.getC S n i).k = 0 by rw [show M.getC S n i = _ from hc])]
      rw [M.srcC_no (by rw [e1]; decide), e1]; rfl
    · have hk' : (M.gc S (n, i)).k ≠ 0 := by rw [hc]; exact hk
      have : (k == 0) = false := by simpa using hk
      rw [M.srcC_ok (M.srcE_yes hk'), M.srcE_yes hk', hc, this]; rfl
  · have h0 : e0 = 6 := by rw [← he]; unfold M.getE; rw [if_neg ht]
    subst h0
    have e1 : M.srcE S (n, i) = 6 := by unfold M.srcE M.takeE; rw [if_neg ht]
    have e2 : M.gc S (n, i) = C.zero := M.gc_no (by simpa [M.th] using ht)
    rw [hc] at e2
    cases e2
    rw [M.srcC_no (by rw [e1]; decide), e1]; rfl
/-- A place, or why it is none. -/
theorem Rc.plc {w0 w : World} {O : Nat → Prop} {q : Nat} {S : St} {f : T9.Fo} (h : Rc w0 w O q S f) (n i : Int) (e : Int) (he : M.plcE S (n, i) = e) :
    Calls Tryz.prog 83 #[.pointer (some ⟨q, 0, none⟩), sv n i] w fun x w' => x = .returned (.int .i64 e) ∧ w.grownBy w' none := by
  subst he
  obtain ⟨c1, hc⟩ : ∃ c, M.gc S (n, i) = c := ⟨_, rfl⟩
  obtain ⟨e0, he⟩ : ∃ e, M.getE S n i = e := ⟨_, rfl⟩
  obtain ⟨k, o, r, b, g, u⟩ := c1
  have HG : dGet w q n i ⟨k, o, r, b, g, u⟩ e0 := fun W g => (h.kept g).get n i _ _ _ _ _ _ _ hc he
  refine (rplace_core w q n i k o r b g u e0 _ _ HG rfl rfl).mono ?_
  rintro _ w' ⟨rfl, g'⟩
  refine ⟨?_, g'⟩
  unfold M.plcE
  rw [hc]
  by_cases ht : M.there S n i = true
  · have h0 : e0 = 0 := by rw [← he]; unfold M.getE; rw [if_pos ht]
    subst h0
    rw [if_pos (show M.th S (n, i) = true from ht)]
    by_cases hk : k = 0
    · subst hk; rfl
    · have : (k != 0) = true := by simpa using hk
      rw [if_neg hk, this]; rfl
  · have h0 : e0 = 6 := by rw [← he]; unfold M.getE; rw [if_neg ht]
    subst h0
    rw [if_neg (show ¬ M.th S (n, i) = true from ht)]; rfl
end Go.Proofs.YtdnoidnpiaadaaaGreat

/-
  THE CONTRACTS of the document's side: donjonref10's Plant and Child.
-/
namespace Go.Proofs.YtdnoidnpiaadaaaGreat
set_option maxRecDepth 10000
open Go.RowKit
set_option linter.unusedVariables false

namespace M
theorem endE1 {S : St} {a b : Int × Int} (h : srcE S a ≠ 0) : endE S a b = srcE S a := if_neg h
theorem endE2 {S : St} {a b : Int × Int} (h : srcE S a = 0) : endE S a b = plcE S b := if_pos h
theorem chiE1 {S : St} {a b : Int × Int} {c : C} (h : endE S a b ≠ 0) : chiE S a b c = endE S a b := if_neg h
theorem chiE2 {S : St} {a b : Int × Int} {c : C} (h : endE S a b = 0) : chiE S a b c = putE S b.1 b.2 c := if_pos h
theorem minE1 {S : St} {a b : Int × Int} {rt bd gd bt : Int} (h : endE S a b ≠ 0) : minE S a b rt bd gd bt = endE S a b := if_neg h
theorem minE2 {S : St} {a b : Int × Int} {rt bd gd bt : Int} (h : endE S a b = 0) : minE S a b rt bd gd bt = (drv (gc S a) rt bd gd bt).2 := if_pos h
theorem mutE1 {S : St} {a b : Int × Int} {gd bt : Int} (h : endE S a b ≠ 0) : mutE S a b gd bt = endE S a b := if_neg h
theorem plaN {S : St} {f : T9.Fo} {a : Int × Int} {c : C} (h : plaE S a c ≠ 0) : plaF S f a c = f := if_neg h
theorem plaY {S : St} {f : T9.Fo} {a : Int × Int} {c : C} (h : plaE S a c = 0) : plaF S f a c = f.rootF a := if_pos h
theorem chiN {S : St} {f : T9.Fo} {o a : Int × Int} {c : C} (h : chiE S o a c ≠ 0) : chiS S o a c = S ∧ chiF S f o a c = f := ⟨if_neg h, if_neg h⟩
theorem chiY {S : St} {f : T9.Fo} {o a : Int × Int} {c : C} (h : chiE S o a c = 0) : chiS S o a c = up S a c ∧ chiF S f o a c = f.childF o a := ⟨if_pos h, if_pos h⟩
theorem minN {S : St} {f : T9.Fo} {a b : Int × Int} {rt bd gd bt : Int} (h : minE S a b rt bd gd bt ≠ 0) : minS S a b rt bd gd bt = S ∧ minF S f a b rt bd gd bt = f := ⟨if_neg h, if_neg h⟩
theorem minY {S : St} {f : T9.Fo} {a b : Int × Int} {rt bd gd bt : Int} (h : minE S a b rt bd gd bt = 0) : minS S a b rt bd gd bt = up S b (drv (gc S a) rt bd gd bt).1 ∧ minF S f a b rt bd gd bt = f.childF a b := ⟨if_pos h, if_pos h⟩
theorem movN {S : St} {f : T9.Fo} {a b : Int × Int} (h : endE S a b ≠ 0) : movS S a b = S ∧ movF S f a b = f := ⟨if_neg h, if_neg h⟩
theorem movY {S : St} {f : T9.Fo} {a b : Int × Int} (h : endE S a b = 0) : movS S a b = carS S a b (gc S a) ∧ movF S f a b = f.moveF a b := ⟨if_pos h, if_pos h⟩
theorem mutN {S : St} {f : T9.Fo} {a b : Int × Int} {gd bt : Int} (h : mutE S a b gd bt ≠ 0) : mutS S a b gd bt = S ∧ mutF S f a b gd bt = f := ⟨if_neg h, if_neg h⟩
theorem mutY {S : St} {f : T9.Fo} {a b : Int × Int} {gd bt : Int} (h : mutE S a b gd bt = 0) : mutS S a b gd bt = carS S a b (mutC (gc S a) gd bt) ∧ mutF S f a b gd bt = f.moveF a b := ⟨if_pos h, if_pos h⟩
theorem rotN {S : St} {f : T9.Fo} {d p a : Int × Int} (h : rotE S d p a ≠ 0) : rotS S d p a = S ∧ rotF S f d p a = f := ⟨if_neg h, if_neg h⟩
theorem rotY {S : St} {f : T9.Fo} {d p a : Int × Int} (h : rotE S d p a = 0) : rotS S d p a = up (up (up (up S p C.zero) a C.zero) d (gc S p)) p (gc S a) ∧ rotF S f d p a = ((f.moveF p aside).moveF a p).moveF aside d := ⟨if_pos h, if_pos h⟩
theorem putNo {S : St} {n i : Int} {c : C} (h : putE S n i c ≠ 0) : putS S n i c = S := if_neg h
end M

set_option maxHeartbeats 2000000 in
theorem Rc.plant {w0 w : World} {O : Nat → Prop} {q : Nat} {S : St} {f : T9.Fo} (h : Rc w0 w O q S f) (I : M.Inv S f) (a c k o r b g u e : Int) (ha : I64 a) (hc : I64 c) (hm : f.len ≤ 60) (he : M.plaE S (a, c) ⟨k, o, r, b, g, u⟩ = e) :
    Calls Tryz.prog 34 #[.pointer (some ⟨q, 0, none⟩), sv a c, cv ⟨k, o, r, b, g, u⟩] w fun x w' => x = .returned (.int .i64 e) ∧ Rc w0 w' (wide O w w') q (M.plaS S (a, c) ⟨k, o, r, b, g, u⟩) (M.plaF S f (a, c) ⟨k, o, r, b, g, u⟩) ∧ Fr O w w' := by
  obtain ⟨v, hv⟩ : ∃ v, (e == 0) = v := ⟨_, rfl⟩
  have hw0 := h.gr.size
  have hlo := h.lo
  have HH := hideIt h
  clear h
  go_enter Tryz.func34, Tryz.ntmps34
  go_upto_region 1 with fail
  obtain ⟨W, hW, X0, X1, g0⟩ := slotBox w a c ⟨k, o, r, b, g, u⟩
  try simp only at hW
  rw [hW]
  clear hW
  have HW0 := hideIt ((Wr.start HH.out).kept g0)
  have X_0 : Hid (SB W O w.heap.size a c) := ⟨X0, (Wr.start HH.out).out (by omega)⟩
  have Y_0 : Hid (BB W O (w.heap.size + 1) ⟨k, o, r, b, g, u⟩) := ⟨X1, (Wr.start HH.out).out (by omega)⟩
  clear X0 X1 g0
  have T0 : Two W.drew w.heap.size a c ∧ Six W.drew (w.heap.size + 1) ⟨k, o, r, b, g, u⟩ := ⟨(X_0.out.kept (gbDrewN W 1 none)).sb.tup, (Y_0.out.kept (gbDrewN W 1 none)).bx.tup⟩
  go_region_held3 (fun w' => Two w' w.heap.size a c ∧ Six w' (w.heap.size + 1) ⟨k, o, r, b, g, u⟩)
    (first | with_reducible exact T0 | with_reducible exact T1 | fail)
    ((first | (go_at_call 78; refine ((HW0.out.kept (gbDrewN W 1 none)).rc.put a c k o r b g u e he).mono ?_; rintro _ wu1 ⟨rfl, A1, F1⟩; have HW1 := hideIt ((HW0.out.kept (gbDrewN W 1 none)).call A1 F1); have X_1 := hideIt ((X_0.out.kept (gbDrewN W 1 none)).call F1); have Y_1 := hideIt ((Y_0.out.kept (gbDrewN W 1 none)).call F1); have T1 : Two wu1 w.heap.size a c ∧ Six wu1 (w.heap.size + 1) ⟨k, o, r, b, g, u⟩ := ⟨X_1.out.sb.tup, Y_1.out.bx.tup⟩; clear A1 F1) | fail))
  clear T0 T1
  cases v
  · have n1 : e ≠ 0 := by simpa using hv
    go_wp2
    go_ret
    have E := HW1.out.fin hw0 hlo
    have hF : M.plaF S f (a, c) ⟨k, o, r, b, g, u⟩ = f := M.plaN (by rw [he]; exact n1)
    rw [hF]
    exact ⟨rfl, E.1, E.2⟩
  · obtain rfl : e = 0 := by simpa using hv
    clear hv
    go_upto_region 3 with fail
    have T0 : Two wu1.drew w.heap.size a c := (X_1.out.kept (gbDrewN wu1 1 none)).sb.tup
    go_region_held3 (fun w' => Two w' w.heap.size a c)
      (first | with_reducible exact T0 | with_reducible exact T1 | fail)
      ((first | (go_at_call 79; refine ((HW1.out.kept (gbDrewN wu1 1 none)).rc.root a c 0 ha hc hm (M.pla_root I he)).mono ?_; rintro _ wu2 ⟨rfl, A2, F2⟩; have HW2 := hideIt ((HW1.out.kept (gbDrewN wu1 1 none)).call A2 F2); have X_2 := hideIt ((X_1.out.kept (gbDrewN wu1 1 none)).call F2); have Y_2 := hideIt ((Y_1.out.kept (gbDrewN wu1 1 none)).call F2); have T1 : Two wu2 w.heap.size a c := X_2.out.sb.tup; clear A2 F2) | fail))
    clear T0 T1
    go_wp2
    go_ret
    have E := HW2.out.fin hw0 hlo
    have hF : M.plaF S f (a, c) ⟨k, o, r, b, g, u⟩ = f.rootF (a, c) := M.plaY he
    rw [hF]
    exact ⟨rfl, E.1, E.2⟩

set_option maxHeartbeats 2000000 in
theorem Rc.childA {w0 w : World} {O : Nat → Prop} {q : Nat} {S : St} {f : T9.Fo} (h : Rc w0 w O q S f) (I : M.Inv S f) (a c a2 c2 k o r b g u e : Int) (ha2 : I64 a2) (hc2 : I64 c2) (hm : f.len ≤ 60) (he : M.chiE S (a, c) (a2, c2) ⟨k, o, r, b, g, u⟩ = e) :
    Calls Tryz.prog 36 #[.pointer (some ⟨q, 0, none⟩), sv a c, sv a2 c2, cv ⟨k, o, r, b, g, u⟩] w fun x w' => x = .returned (.int .i64 e) ∧ Rc w0 w' (wide O w w') q (M.chiS S (a, c) (a2, c2) ⟨k, o, r, b, g, u⟩) (M.chiF S f (a, c) (a2, c2) ⟨k, o, r, b, g, u⟩) ∧ Fr O w w' := by
  obtain ⟨⟨k1, o1, r1, b1, g1, u1⟩, hC⟩ : ∃ d, M.srcC S (a, c) = d := ⟨_, rfl⟩
  obtain ⟨E1, h1⟩ : ∃ x, M.srcE S (a, c) = x := ⟨_, rfl⟩
  obtain ⟨E2, h2⟩ : ∃ x, M.plcE S (a2, c2) = x := ⟨_, rfl⟩
  obtain ⟨E3, h3⟩ : ∃ x, M.putE S a2 c2 ⟨k, o, r, b, g, u⟩ = x := ⟨_, rfl⟩
  obtain ⟨v1, hv1⟩ : ∃ v, (E1 == 0) = v := ⟨_, rfl⟩
  obtain ⟨v2, hv2⟩ : ∃ v, (E2 == 0) = v := ⟨_, rfl⟩
  obtain ⟨v3, hv3⟩ : ∃ v, (E3 == 0) = v := ⟨_, rfl⟩
  have hw0 := h.gr.size
  have hlo := h.lo
  have HH := hideIt h
  clear h
  go_enter Tryz.func36, Tryz.ntmps36
  go_upto_region 1 with fail
  obtain ⟨W, hW, X0, X1, X2, g0⟩ := slots2Box w a c a2 c2 ⟨k, o, r, b, g, u⟩
  try simp only at hW
  rw [hW]
  clear hW
  have HW0 := hideIt ((Wr.start HH.out).kept g0)
  have X_0 : Hid (SB W O w.heap.size a c) := ⟨X0, (Wr.start HH.out).out (by omega)⟩
  have Y_0 : Hid (SB W O (w.heap.size + 1) a2 c2) := ⟨X1, (Wr.start HH.out).out (by omega)⟩
  have Q_0 : Hid (BB W O (w.heap.size + 2) ⟨k, o, r, b, g, u⟩) := ⟨X2, (Wr.start HH.out).out (by omega)⟩
  clear X0 X1 X2 g0
  obtain ⟨x0, x1⟩ := X_0.out.sb.tup
  go_wp2_with fail
  refine (HW0.out.rc.src a c _ E1 hC h1).mono ?_
  rintro _ wu1 ⟨rfl, g1⟩
  clear x0 x1
  have HW1 := hideIt (HW0.out.kept g1)
  have X_1 := hideIt (X_0.out.kept g1)
  have Y_1 := hideIt (Y_0.out.kept g1)
  have Q_1 := hideIt (Q_0.out.kept g1)
  clear g1
  go_upto_region 2 with fail
  obtain ⟨V2, hV2, Z2, g2⟩ := boxNew wu1 ⟨k1, o1, r1, b1, g1, u1⟩
  simp only at hV2
  rw [hV2]
  clear hV2
  have HW2 := hideIt (HW1.out.kept g2)
  have X_2 := hideIt (X_1.out.kept g2)
  have Y_2 := hideIt (Y_1.out.kept g2)
  have Q_2 := hideIt (Q_1.out.kept g2)
  have Z_2 := hideIt (BB.mk Z2 (HW1.out.out (Nat.le_refl _)))
  clear g2 Z2
  cases v1
  · have n1 : E1 ≠ 0 := by simpa using hv1
    go_wp2
    go_ret
    have E := HW2.out.fin hw0 hlo
    have e1 : M.endE S (a, c) (a2, c2) = E1 := (M.endE1 (by rw [h1]; exact n1)).trans h1
    have e2 : M.chiE S (a, c) (a2, c2) ⟨k, o, r, b, g, u⟩ = E1 := (M.chiE1 (by rw [e1]; exact n1)).trans e1
    obtain rfl : E1 = e := e2.symm.trans he
    have hN := M.chiN (f := f) (by rw [e2]; exact n1)
    rw [hN.1, hN.2]
    exact ⟨rfl, E.1, E.2⟩
  · obtain rfl : E1 = 0 := by simpa using hv1
    clear hv1
    obtain ⟨y0, y1⟩ := Y_2.out.sb.tup
    go_wp2_with fail
    refine (HW2.out.rc.plc a2 c2 E2 h2).mono ?_
    rintro _ wu3 ⟨rfl, g3⟩
    clear y0 y1
    have HW3 := hideIt (HW2.out.kept g3)
    have X_3 := hideIt (X_2.out.kept g3)
    have Y_3 := hideIt (Y_2.out.kept g3)
    have Q_3 := hideIt (Q_2.out.kept g3)
    have Z_3 := hideIt (Z_2.out.kept g3)
    clear g3
    cases v2
    · have n2 : E2 ≠ 0 := by simpa using hv2
      go_wp2
      go_ret
      have E := HW3.out.fin hw0 hlo
      have e1 : M.endE S (a, c) (a2, c2) = E2 := (M.endE2 h1).trans h2
      have e2 : M.chiE S (a, c) (a2, c2) ⟨k, o, r, b, g, u⟩ = E2 := (M.chiE1 (by rw [e1]; exact n2)).trans e1
      obtain rfl : E2 = e := e2.symm.trans he
      have hN := M.chiN (f := f) (by rw [e2]; exact n2)
      rw [hN.1, hN.2]
      exact ⟨rfl, E.1, E.2⟩
    · obtain rfl : E2 = 0 := by simpa using hv2
      clear hv2
      go_upto_region 5 with fail
      have T0 : Two wu3.drew (w.heap.size + 1) a2 c2 ∧ Six wu3.drew (w.heap.size + 2) ⟨k, o, r, b, g, u⟩ := ⟨(Y_3.out.kept (gbDrewN wu3 1 none)).sb.tup, (Q_3.out.kept (gbDrewN wu3 1 none)).bx.tup⟩
      go_region_held3 (fun w' => Two w' (w.heap.size + 1) a2 c2 ∧ Six w' (w.heap.size + 2) ⟨k, o, r, b, g, u⟩)
        (first | with_reducible exact T0 | with_reducible exact T1 | fail)
        ((first | (go_at_call 78; refine ((HW3.out.kept (gbDrewN wu3 1 none)).rc.put a2 c2 k o r b g u E3 h3).mono ?_; rintro _ wu4 ⟨rfl, A4, F4⟩; have HW4 := hideIt ((HW3.out.kept (gbDrewN wu3 1 none)).call A4 F4); have X_4 := hideIt ((X_3.out.kept (gbDrewN wu3 1 none)).call F4); have Y_4 := hideIt ((Y_3.out.kept (gbDrewN wu3 1 none)).call F4); have Q_4 := hideIt ((Q_3.out.kept (gbDrewN wu3 1 none)).call F4); have Z_4 := hideIt ((Z_3.out.kept (gbDrewN wu3 1 none)).call F4); have T1 : Two wu4 (w.heap.size + 1) a2 c2 ∧ Six wu4 (w.heap.size + 2) ⟨k, o, r, b, g, u⟩ := ⟨Y_4.out.sb.tup, Q_4.out.bx.tup⟩; clear A4 F4) | fail))
      clear T0 T1
      cases v3
      · have n3 : E3 ≠ 0 := by simpa using hv3
        go_wp2
        go_ret
        have E := HW4.out.fin hw0 hlo
        have e1 : M.endE S (a, c) (a2, c2) = 0 := (M.endE2 h1).trans h2
        have e2 : M.chiE S (a, c) (a2, c2) ⟨k, o, r, b, g, u⟩ = E3 := (M.chiE2 e1).trans h3
        obtain rfl : E3 = e := e2.symm.trans he
        have hN := M.chiN (f := f) (by rw [e2]; exact n3)
        rw [M.putNo (by rw [h3]; exact n3)] at E
        rw [hN.1, hN.2]
        exact ⟨rfl, E.1, E.2⟩
      · obtain rfl : E3 = 0 := by simpa using hv3
        clear hv3
        go_upto_region 7 with fail
        have T0 : Two wu4.drew w.heap.size a c ∧ Two wu4.drew (w.heap.size + 1) a2 c2 := ⟨(X_4.out.kept (gbDrewN wu4 1 none)).sb.tup, (Y_4.out.kept (gbDrewN wu4 1 none)).sb.tup⟩
        go_region_held3 (fun w' => Two w' w.heap.size a c ∧ Two w' (w.heap.size + 1) a2 c2)
          (first | with_reducible exact T0 | with_reducible exact T1 | fail)
          ((first | (go_at_call 84; refine ((HW4.out.kept (gbDrewN wu4 1 none)).rc.child a c a2 c2 0 ha2 hc2 hm (M.chi_child I ((M.endE2 h1).trans h2))).mono ?_; rintro _ wu5 ⟨rfl, A5, F5⟩; have HW5 := hideIt ((HW4.out.kept (gbDrewN wu4 1 none)).call A5 F5); have X_5 := hideIt ((X_4.out.kept (gbDrewN wu4 1 none)).call F5); have Y_5 := hideIt ((Y_4.out.kept (gbDrewN wu4 1 none)).call F5); have Q_5 := hideIt ((Q_4.out.kept (gbDrewN wu4 1 none)).call F5); have Z_5 := hideIt ((Z_4.out.kept (gbDrewN wu4 1 none)).call F5); have T1 : Two wu5 w.heap.size a c ∧ Two wu5 (w.heap.size + 1) a2 c2 := ⟨X_5.out.sb.tup, Y_5.out.sb.tup⟩; clear A5 F5) | fail))
        clear T0 T1
        go_wp2
        go_ret
        have E := HW5.out.fin hw0 hlo
        have e1 : M.endE S (a, c) (a2, c2) = 0 := (M.endE2 h1).trans h2
        have e2 : M.chiE S (a, c) (a2, c2) ⟨k, o, r, b, g, u⟩ = 0 := (M.chiE2 e1).trans h3
        obtain rfl : 0 = e := e2.symm.trans he
        have hN := M.chiY (f := f) e2
        rw [M.putS_up (x := (a2, c2)) h3] at E
        rw [hN.1, hN.2]
        exact ⟨rfl, E.1, E.2⟩

end Go.Proofs.YtdnoidnpiaadaaaGreat

/-
  THE CONTRACTS of package guard: isAddress, and the bits that are left (a closure).
-/
namespace Go.Proofs.YtdnoidnpiaadaaaGreat
set_option maxRecDepth 10000
open Go.RowKit
set_option linter.unusedVariables false

/-- What the closure has: how many bits are left, and the address. -/
structure Left (w : World) (L P l p : Nat) : Prop where
  cl : w.cell? ⟨L, 0, none⟩ = some (.int .i64 l)
  cp : w.cell? ⟨P, 0, none⟩ = some (.int .u64 p)
  fr : w.frozen? ⟨L, 0, none⟩ = false
  ne : P ≠ L
theorem Left.kept {w w' : World} {L P l p : Nat} (h : Left w L P l p) (g : w.grownBy w' none) : Left w' L P l p :=
  ⟨g.cell h.cl (by simp), g.cell h.cp (by simp), (gbFrozen g (World.block_lt_of_cell? w _ h.cl) (by simp)).trans h.fr, h.ne⟩
theorem Left.keep {w w' : World} {L P l p x : Nat} (h : Left w L P l p) (g : w.grownBy w' (some x)) (hL : L ≠ x) (hP : P ≠ x) : Left w' L P l p :=
  ⟨g.cell h.cl (by simpa using hL), g.cell h.cp (by simpa using hP), (gbFrozen g (World.block_lt_of_cell? w _ h.cl) (by simpa using hL)).trans h.fr, h.ne⟩

end Go.Proofs.YtdnoidnpiaadaaaGreat
