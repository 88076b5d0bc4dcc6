/-
  THE CONTRACTS of the document's side: donjonref11's Final, check, full and among.
-/
import Derived.Test.YtdnoidnpiaadaaaGreatH4
import Derived.Test.YtdnoidnpiaadaaaGreatG19
import Derived.Deep.DeepCutAuto
import Derived.Deep.LoopGhost
import Derived.Test.YtdnoidnpiaadaaaGreatG21
namespace Go.Proofs.YtdnoidnpiaadaaaGreat
set_option maxRecDepth 10000
open Go.RowKit
set_option linter.unusedVariables false

theorem M.cnt_null {S : St} (G : Good S) (o : Int) : M.cnt S 0 o = 0 := by
  unfold M.cnt M.cntL
  rw [List.length_eq_zero_iff, List.filter_eq_nil_iff]
  intro s hs h
  exact (M.mem_full G s).1 hs (M.hit_iff.1 h).1
set_option maxHeartbeats 2000000 in
theorem rfinal_core (w : World) (p : Nat) (n i k o r b g t e cc : Int) (v1 v2 v3 : Bool) (HG : dGet w p n i ⟨k, o, r, b, g, t⟩ e) (HQ : ∀ W, w.grownBy W none → Calls Tryz.prog 12 #[.pointer (some ⟨p, 0, none⟩), .int .i64 k, .int .i64 o] W fun x w' => x = .returned (.int .i64 cc) ∧ W.grownBy w' none) (hv1 : (e == 0) = v1) (hv2 : (k != 0) = v2) (hv3 : (cc == 1) = v3) :
    Calls Tryz.prog 26 #[.pointer (some ⟨p, 0, none⟩), sv n i] w fun x w' => x = .returned (.bool (v1 && v2 && v3)) ∧ w.grownBy w' none := by
  go_enter Tryz.func26, Tryz.ntmps26
  go_upto_region 1 with fail
  obtain ⟨W, hW, X, g0⟩ := sboxNew w n i
  rw [hW]
  clear hW
  have HX := hideIt X
  clear X
  go_cut [5, 6] (fun s6 s7 wc => ∃ Z : Nat, s6 = .pointer (some ⟨Z, 0, none⟩) ∧ s7 = .int .i64 e ∧ Hid (Box wc Z ⟨k, o, r, b, g, t⟩) ∧ Hid (w.grownBy wc none))
  case first =>
    have T0b : Two W w.heap.size n i := ⟨HX.out.at0, HX.out.at1⟩
    have T0 : Two W.drew w.heap.size n i := two_kept T0b (gbDrew (gbRefl W none))
    go_region_held3 (fun w' => Two w' w.heap.size n i)
      (first | with_reducible exact T0 | (refine two_kept T0b ?_; repeat (first | with_reducible exact G2 | with_reducible exact gbRefl W none | with_reducible refine gbDrew ?_ | with_reducible refine gbAllocN ?_ _ | with_reducible refine gbSetNew ?_ _ _ _ (by with_reducible first | exact Nat.le_refl _ | exact G2.size))) | fail)
      ((first | (go_at_call 52; refine (HG _ (by repeat (first | with_reducible exact g0 | with_reducible refine gbDrew ?_ | with_reducible refine gbAllocN ?_ _))).mono ?_; rintro _ u1 ⟨rfl, g5⟩; have hc3 := gcell g5; have hf3 := gfroz g5; have G2 : W.grownBy u1 none := (by first | exact gbTrans (gbDrewN W 1 none) g5 | exact gbTrans (gbDrew (gbAllocN (gbRefl W none) _)) g5)) | fail))
    · rename_i hold
      clear hold T0
      obtain ⟨W6, hW6, Z6, g6⟩ := boxNew u1 ⟨k, o, r, b, g, t⟩
      simp only at hW6
      rw [hW6]
      go_wp2
      go_meet
      exact ⟨_, rfl, rfl, Z6, gbTrans g0 (gbTrans G2 g6)⟩
    · rename_i hold
      clear hold T0
      have Z0 : Box u1 W.heap.size C.zero := ((Box.made W C.zero).kept (gbDrew (gbRefl _ none))).kept g5
      obtain ⟨W6, hW6, Z6, g6⟩ := Z0.put ⟨k, o, r, b, g, t⟩
      simp only at hW6
      rw [hW6]
      have G7 := gbNew (gbTrans (gbAny G2 _) g6) (Nat.le_refl _)
      go_wp2
      go_meet
      exact ⟨_, rfl, rfl, Z6, gbTrans g0 G7⟩
  case rest =>
  obtain ⟨Z, rfl, rfl, HZ, GG⟩ := hcut
  obtain ⟨wd, rfl⟩ : ∃ wd, wd = wc := ⟨_, rfl⟩
  have z0 : ∀ y : Gr wd, y.w.cell? ⟨Z, 0, none⟩ = some (.int .i64 k) := fun y => (HZ.out.kept y.g).at0
  have z1 : ∀ y : Gr wd, y.w.cell? ⟨Z, 1, none⟩ = some (.int .i64 o) := fun y => (HZ.out.kept y.g).at1
  have HR : ∀ y : Gr wd, Calls Tryz.prog 12 #[.pointer (some ⟨p, 0, none⟩), .int .i64 k, .int .i64 o] y.w fun x w' => x = .returned (.int .i64 cc) ∧ y.w.grownBy w' none := fun y => HQ y.w (gbTrans GG.out y.g)
  go_upto_region 2 with fail
  cases v1 <;> cases v2
  all_goals (
    refine wp_region_grown (by kernel_rfl) (by kernel_rfl) fun _ => ?_
    repeat (go_big_quiet_step ((go_at_call 12; with_reducible exact callsGr (HR _))))
    refine wpQuiet_nil ?_
    rintro w4 ⟨⟨_, g4⟩, rfl⟩
    go_wp2
    go_ret
    exact ⟨ret_bool (by simp), gbTrans GG.out g4⟩)

theorem Rc.final {w0 w : World} {O : Nat → Prop} {q : Nat} {S : St} {f : T9.Fo} (h : Rc w0 w O q S f) (n i : Int) (v : Bool) (hv : M.fin S (n, i) = v) :
    Calls Tryz.prog 26 #[.pointer (some ⟨q, 0, none⟩), sv n i] w fun x w' => x = .returned (.bool v) ∧ w.grownBy w' none := by
  subst hv
  obtain ⟨c1, hc⟩ : ∃ c, M.gc S (n, i) = c := ⟨_, rfl⟩
  obtain ⟨e0, he⟩ : ∃ e, M.getE S n i = e := ⟨_, rfl⟩
  obtain ⟨k, o, r, b, g, u⟩ := c1
  refine (rfinal_core w q n i k o r b g u e0 _ _ _ _ (fun W g => (h.kept g).get n i _ _ _ _ _ _ _ hc he) (fun W g => (h.kept g).count k o _ rfl) rfl rfl rfl).mono ?_
  rintro _ w' ⟨rfl, g'⟩
  refine ⟨ret_bool ?_, g'⟩
  unfold M.fin
  rw [hc]
  show _ = (((M.cnt S k o : Nat) : Int) == 1)
  by_cases hk : k = 0
  · subst hk
    rw [M.cnt_null h.gs]; simp
  · have ht : M.there S n i = true := M.gc_th (S := S) (x := (n, i)) (by rw [hc]; exact hk)
    have h0 : e0 = 0 := by rw [← he]; unfold M.getE; rw [if_pos ht]
    subst h0
    have : (k != 0) = true := by simpa using hk
    rw [this]; simp
set_option maxHeartbeats 2000000 in
theorem rfulla_core (w : World) (p : Nat) (n i k o r b g t e : Int) (v1 v2 : Bool) (HG : dGet w p n i ⟨k, o, r, b, g, t⟩ e) (hv1 : (e == 0) = v1) (hv2 : (k != 0) = v2) :
    Calls Tryz.prog 73 #[.pointer (some ⟨p, 0, none⟩), sv n i] w fun x w' => x = .returned (.bool (v1 && v2)) ∧ w.grownBy w' none := by
  go_enter Tryz.func73, Tryz.ntmps73
  go_upto_region 1 with fail
  obtain ⟨W, hW, X, g0⟩ := sboxNew w n i
  rw [hW]
  clear hW
  have HX := hideIt X
  clear X
  go_cut [5, 6] (fun s6 s7 wc => ∃ Z : Nat, s6 = .pointer (some ⟨Z, 0, none⟩) ∧ s7 = .int .i64 e ∧ Hid (Box wc Z ⟨k, o, r, b, g, t⟩) ∧ Hid (w.grownBy wc none))
  case first =>
    have T0b : Two W w.heap.size n i := ⟨HX.out.at0, HX.out.at1⟩
    have T0 : Two W.drew w.heap.size n i := two_kept T0b (gbDrew (gbRefl W none))
    go_region_held3 (fun w' => Two w' w.heap.size n i)
      (first | with_reducible exact T0 | (refine two_kept T0b ?_; repeat (first | with_reducible exact G2 | with_reducible exact gbRefl W none | with_reducible refine gbDrew ?_ | with_reducible refine gbAllocN ?_ _ | with_reducible refine gbSetNew ?_ _ _ _ (by with_reducible first | exact Nat.le_refl _ | exact G2.size))) | fail)
      ((first | (go_at_call 52; refine (HG _ (by repeat (first | with_reducible exact g0 | with_reducible refine gbDrew ?_ | with_reducible refine gbAllocN ?_ _))).mono ?_; rintro _ u1 ⟨rfl, g5⟩; have hc3 := gcell g5; have hf3 := gfroz g5; have G2 : W.grownBy u1 none := (by first | exact gbTrans (gbDrewN W 1 none) g5 | exact gbTrans (gbDrew (gbAllocN (gbRefl W none) _)) g5)) | fail))
    · rename_i hold
      clear hold T0
      obtain ⟨W6, hW6, Z6, g6⟩ := boxNew u1 ⟨k, o, r, b, g, t⟩
      simp only at hW6
      rw [hW6]
      go_wp2
      go_meet
      exact ⟨_, rfl, rfl, Z6, gbTrans g0 (gbTrans G2 g6)⟩
    · rename_i hold
      clear hold T0
      have Z0 : Box u1 W.heap.size C.zero := ((Box.made W C.zero).kept (gbDrew (gbRefl _ none))).kept g5
      obtain ⟨W6, hW6, Z6, g6⟩ := Z0.put ⟨k, o, r, b, g, t⟩
      simp only at hW6
      rw [hW6]
      have G7 := gbNew (gbTrans (gbAny G2 _) g6) (Nat.le_refl _)
      go_wp2
      go_meet
      exact ⟨_, rfl, rfl, Z6, gbTrans g0 G7⟩
  case rest =>
  obtain ⟨Z, rfl, rfl, HZ, GG⟩ := hcut
  obtain ⟨z0, _, _, _, _, _, _, _⟩ := HZ.out
  simp only at z0
  cases v1 <;> cases v2
  all_goals (
    go_wp2
    go_ret
    exact ⟨rfl, GG.out⟩)

theorem Rc.fulla {w0 w : World} {O : Nat → Prop} {q : Nat} {S : St} {f : T9.Fo} (h : Rc w0 w O q S f) (n i : Int) (v : Bool) (hv : ((M.gc S (n, i)).k != 0) = v) :
    Calls Tryz.prog 73 #[.pointer (some ⟨q, 0, none⟩), sv n i] w fun x w' => x = .returned (.bool v) ∧ w.grownBy w' none := by
  subst hv
  obtain ⟨c1, hc⟩ : ∃ c, M.gc S (n, i) = c := ⟨_, rfl⟩
  obtain ⟨e0, he⟩ : ∃ e, M.getE S n i = e := ⟨_, rfl⟩
  obtain ⟨k, o, r, b, g, u⟩ := c1
  refine (rfulla_core w q n i k o r b g u e0 _ _ (fun W g => (h.kept g).get n i _ _ _ _ _ _ _ hc he) rfl rfl).mono ?_
  rintro _ w' ⟨rfl, g'⟩
  refine ⟨ret_bool ?_, g'⟩
  rw [hc]
  show _ = (k != 0)
  by_cases hk : k = 0
  · subst hk; simp
  · have ht : M.there S n i = true := M.gc_th (S := S) (x := (n, i)) (by rw [hc]; exact hk)
    have h0 : e0 = 0 := by rw [← he]; unfold M.getE; rw [if_pos ht]
    subst h0
    simp
set_option maxHeartbeats 2000000 in
theorem rcheck_core (w : World) (p : Nat) (n i l k o r b g t e : Int) (v1 v2 : Bool) (hl1 : ¬ l < 1) (hl2 : ¬ 1000 < l) (HG : dGet w p n i ⟨k, o, r, b, g, t⟩ e) (hv1 : (e == 0) = v1) (hv2 : (k == 0) = v2) :
    Calls Tryz.prog 68 #[.pointer (some ⟨p, 0, none⟩), sv n i, .int .i64 l] w fun x w' => x = .returned (.int .i64 (if v1 && v2 then 3 else e)) ∧ w.grownBy w' none := by
  go_enter Tryz.func68, Tryz.ntmps68
  go_upto_region 1 with fail
  obtain ⟨W, hW, X, g0⟩ := sboxNew w n i
  rw [hW]
  clear hW
  have HX := hideIt X
  clear X
  go_upto_region 3 with fail
  go_cut [7, 8] (fun s6 s7 wc => ∃ Z : Nat, s6 = .pointer (some ⟨Z, 0, none⟩) ∧ s7 = .int .i64 e ∧ Hid (Box wc Z ⟨k, o, r, b, g, t⟩) ∧ Hid (w.grownBy wc none))
  case first =>
    have T0b : Two W w.heap.size n i := ⟨HX.out.at0, HX.out.at1⟩
    have T0 : Two W.drew w.heap.size n i := two_kept T0b (gbDrew (gbRefl W none))
    go_region_held3 (fun w' => Two w' w.heap.size n i)
      (first | with_reducible exact T0 | (refine two_kept T0b ?_; repeat (first | with_reducible exact G2 | with_reducible exact gbRefl W none | with_reducible refine gbDrew ?_ | with_reducible refine gbAllocN ?_ _ | with_reducible refine gbSetNew ?_ _ _ _ (by with_reducible first | exact Nat.le_refl _ | exact G2.size))) | fail)
      ((first | (go_at_call 52; refine (HG _ (by repeat (first | with_reducible exact g0 | with_reducible refine gbDrew ?_ | with_reducible refine gbAllocN ?_ _))).mono ?_; rintro _ u1 ⟨rfl, g5⟩; have hc3 := gcell g5; have hf3 := gfroz g5; have G2 : W.grownBy u1 none := (by first | exact gbTrans (gbDrewN W 1 none) g5 | exact gbTrans (gbDrew (gbAllocN (gbRefl W none) _)) g5)) | fail))
    · rename_i hold
      clear hold T0
      obtain ⟨W6, hW6, Z6, g6⟩ := boxNew u1 ⟨k, o, r, b, g, t⟩
      simp only at hW6
      rw [hW6]
      go_wp2
      go_meet
      exact ⟨_, rfl, rfl, Z6, gbTrans g0 (gbTrans G2 g6)⟩
    · rename_i hold
      clear hold T0
      have Z0 : Box u1 W.heap.size C.zero := ((Box.made W C.zero).kept (gbDrew (gbRefl _ none))).kept g5
      obtain ⟨W6, hW6, Z6, g6⟩ := Z0.put ⟨k, o, r, b, g, t⟩
      simp only at hW6
      rw [hW6]
      have G7 := gbNew (gbTrans (gbAny G2 _) g6) (Nat.le_refl _)
      go_wp2
      go_meet
      exact ⟨_, rfl, rfl, Z6, gbTrans g0 G7⟩
  case rest =>
  obtain ⟨Z, rfl, rfl, HZ, GG⟩ := hcut
  obtain ⟨z0, _, _, _, _, _, _, _⟩ := HZ.out
  simp only at z0
  cases v1 <;> cases v2
  all_goals (
    go_wp2
    go_ret
    exact ⟨rfl, GG.out⟩)

set_option maxHeartbeats 2000000 in
theorem rcheck_rng (w : World) (p : Nat) (n i l : Int) (hl : l < 1 ∨ (¬ l < 1 ∧ 1000 < l)) :
    Calls Tryz.prog 68 #[.pointer (some ⟨p, 0, none⟩), sv n i, .int .i64 l] w fun x w' => x = .returned (.int .i64 1) ∧ w.grownBy w' none := by
  have g := gbAlloc w (.cells #[.int .i64 n, .int .i64 i] 31) none
  rcases hl with hl | ⟨hl, hl'⟩
  all_goals (
    go_enter Tryz.func68, Tryz.ntmps68
    go_wp2
    go_ret
    exact ⟨rfl, g⟩)

theorem Rc.check {w0 w : World} {O : Nat → Prop} {q : Nat} {S : St} {f : T9.Fo} (h : Rc w0 w O q S f) (n i l e : Int) (he : M.faceE S (n, i) l = e) :
    Calls Tryz.prog 68 #[.pointer (some ⟨q, 0, none⟩), sv n i, .int .i64 l] w fun x w' => x = .returned (.int .i64 e) ∧ w.grownBy w' none := by
  subst he
  unfold M.faceE
  by_cases hl : 1 ≤ l ∧ l ≤ 1000
  · rw [if_pos hl]
    obtain ⟨c1, hc⟩ : ∃ c, M.gc S (n, i) = c := ⟨_, rfl⟩
    obtain ⟨e0, he⟩ : ∃ e, M.getE S n i = e := ⟨_, rfl⟩
    obtain ⟨k, o, r, b, g, u⟩ := c1
    refine (rcheck_core w q n i l k o r b g u e0 _ _ (by omega) (by omega) (fun W g => (h.kept g).get n i _ _ _ _ _ _ _ hc he) rfl rfl).mono ?_
    rintro _ w' ⟨rfl, g'⟩
    refine ⟨ret_int ?_, g'⟩
    by_cases ht : M.there S n i = true
    · have h0 : e0 = 0 := by rw [← he]; unfold M.getE; rw [if_pos ht]
      subst h0
      by_cases hk : k = 0
      · subst hk
        unfold M.srcE M.takeE
        rw [if_pos ht, if_pos (show (M.getC S n i).k = 0 by rw [show M.getC S n i = _ from hc])]
        rfl
      · have hk' : (M.gc S (n, i)).k ≠ 0 := by rw [hc]; exact hk
        have : (k == 0) = false := by simpa using hk
        rw [M.srcE_yes hk', this]; rfl
    · have h0 : e0 = 6 := by rw [← he]; unfold M.getE; rw [if_neg ht]
      subst h0
      unfold M.srcE M.takeE
      rw [if_neg ht]; rfl
  · rw [if_neg hl]
    exact rcheck_rng w q n i l (by omega)
abbrev Ry3 (w : World) (g o o' : Nat) (a b : Int) : Prop := w.cell? ⟨g, o, none⟩ = some (.int .i64 a) ∧ w.cell? ⟨g, o', none⟩ = some (.int .i64 b)
theorem rowAt {w w' : World} {g0 : Nat} {L : List (Int × Int)} (h : Row w ⟨g0, 0, none⟩ L) (k : w.grownBy w' none) (c : Nat) (A B : Int) (hc : L[c]? = some (A, B)) : Ry3 w' g0 (c * 2) (c * 2 + 1) A B := by
  have e := (h.kept k) c (A, B) hc
  have e0 := e.at0
  have e1 := e.at1
  simp only [Addr.add_lit, Nat.zero_add] at e0 e1
  exact ⟨e0, e1⟩
set_option maxHeartbeats 2000000 in
theorem among_nil (w : World) (xo : Option Addr) (cap : Nat) (n i : Int) : Calls Tryz.prog 108 #[.slice xo 0 cap, sv n i] w fun x w' => x = .returned (.bool false) ∧ w.grownBy w' none := by
  have g := gbAlloc w (.cells #[.int .i64 n, .int .i64 i] 31) none
  go_enter Tryz.func108, Tryz.ntmps108
  go_wp2
  go_loopg [5] 1 (fun y j wr => j = .int .i64 0 ∧ Hid (w.grownBy wr none))
  case atStart => exact ⟨rfl, g⟩
  case round =>
    obtain ⟨rfl, gw⟩ := hrel
    go_wp2
    go_ret
    exact ⟨rfl, gw.out⟩

set_option maxHeartbeats 2000000 in
theorem among_some (w : World) (g0 N cap : Nat) (L : List (Int × Int)) (hn : Hid (L.length = N)) (hl : N ≤ 2000) (HR : Hid (Row w ⟨g0, 0, none⟩ L)) (n i : Int) (v : Bool) (hv : Hid (decide ((n, i) ∈ L) = v)) : Calls Tryz.prog 108 #[.slice (some ⟨g0, 0, none⟩) N cap, sv n i] w fun x w' => x = .returned (.bool v) ∧ w.grownBy w' none := by
  have qe := T9.run_eql_slots
  have qg := T9.eqGuardSlots
  go_enter Tryz.func108, Tryz.ntmps108
  go_upto_region 1 with fail
  obtain ⟨W, hW, X, gW⟩ := sboxNew w n i
  rw [hW]
  clear hW
  have HX := hideIt X
  have GW := hideIt gW
  clear X gW
  go_wp2
  go_loopg [5] N (fun y j wr => ∃ c : Nat, c + y = N ∧ j = .int .i64 c ∧ Hid (W.grownBy wr none) ∧ Hid ((n, i) ∉ L.take c))
  case atStart => exact ⟨0, by omega, rfl, gbRefl _ _, by show (n, i) ∉ L.take 0; simp⟩
  case round =>
    obtain ⟨c, hc, rfl, gw, ho⟩ := hrel
    by_cases hlc : c < N
    · have hlc' : (c : Int) < (N : Int) := by omega
      have hcl : c < L.length := by rw [hn.out]; exact hlc
      obtain ⟨⟨A, B⟩, hAB⟩ : ∃ x, L[c]? = some x := ⟨L[c], List.getElem?_eq_getElem hcl⟩
      have HE := hideIt (rowAt HR.out (gbTrans GW.out gw.out) c A B hAB)
      have HY := hideIt (HX.out.kept gw.out)
      obtain ⟨u, hu⟩ : ∃ u, T9.M.seq A B n i = u := ⟨_, rfl⟩
      have HA := hideIt hAB
      clear hAB
      go_upto_region 4 with fail
      have T0 : Ry3 wr.drew g0 (c * 2) (c * 2 + 1) A B ∧ Two wr.drew w.heap.size n i := ⟨⟨(gbDrewN wr 1 none).cell HE.out.1 (by simp), (gbDrewN wr 1 none).cell HE.out.2 (by simp)⟩, (HY.out.kept (gbDrewN wr 1 none)).tup⟩
      go_region_held3 (fun w' => Ry3 w' g0 (c * 2) (c * 2 + 1) A B ∧ Two w' w.heap.size n i)
        (first | with_reducible exact T0 | fail)
        (fail)
      rename_i hold
      clear hold T0
      have gd := gbDrewN wr 1 none
      cases u
      · go_wp2
        go_roundg (gk - 1)
        case rel => exact ⟨c + 1, by omega, by go_num, gbTrans gw.out gd, by
          show (n, i) ∉ L.take (c + 1)
          rw [List.take_add_one, HA.out]
          simp only [Option.toList_some, List.mem_append, List.mem_singleton, not_or]
          exact ⟨ho.out, fun e => seq_no.1 hu e.symm⟩⟩
        case measure => omega
      · go_wp2
        go_ret
        refine ⟨ret_bool ?_, gbTrans (gbTrans GW.out gw.out) gd⟩
        rw [← hv.out]
        exact (decide_eq_true (by rw [← seq_iff.1 hu]; exact List.mem_of_getElem? HA.out)).symm
    · have hlc' : ¬ (c : Int) < (N : Int) := by omega
      go_wp2
      go_ret
      refine ⟨ret_bool ?_, gbTrans GW.out gw.out⟩
      rw [← hv.out]
      have ho' := ho.out
      rw [List.take_of_length_le (by rw [hn.out]; omega)] at ho'
      exact (decide_eq_false ho').symm

theorem among_is {w : World} {B : Nat} {v : Value} {L : List (Int × Int)} (h : Lst w B v L) (hl : L.length ≤ 2000) (n i : Int) (u : Bool) (hu : decide ((n, i) ∈ L) = u) :
    Calls Tryz.prog 108 #[v, sv n i] w fun x w' => x = .returned (.bool u) ∧ w.grownBy w' none := by
  rcases h.form with ⟨rfl, rfl⟩ | ⟨g, cap, rfl, _, _, _, _, hr⟩
  · obtain rfl : false = u := by rw [← hu]; simp
    exact among_nil w _ _ n i
  · exact among_some w g _ cap L rfl hl hr n i u hu
end Go.Proofs.YtdnoidnpiaadaaaGreat

/-
  THE CONTRACT of donjonlaw11's SameCaps (of lists that are the same).
-/
namespace Go.Proofs.YtdnoidnpiaadaaaGreat
set_option maxRecDepth 10000
open Go.RowKit
set_option linter.unusedVariables false

abbrev Six' (w : World) (x j : Nat) (c : C) : Prop := w.cell? ⟨x, j, none⟩ = some (.int .i64 c.k) ∧ w.cell? ⟨x, j + 1, none⟩ = some (.int .i64 c.o) ∧ w.cell? ⟨x, j + 2, none⟩ = some (.int .i64 c.r) ∧ w.cell? ⟨x, j + 3, none⟩ = some (.int .u64 c.b) ∧ w.cell? ⟨x, j + 4, none⟩ = some (.int .u64 c.g) ∧ w.cell? ⟨x, j + 5, none⟩ = some (.int .i64 c.n)
theorem TL.el {w : World} {B g n cap : Nat} {T : List C} (h : TL w B (.slice (some ⟨g, 0, none⟩) n cap) T) (j : Nat) (c : C) (hj : T[j]? = some c) : Six' w g (j * 6) c := by
  rcases h.form with ⟨e, _⟩ | ⟨g', cap', e, _, _, _, _, hc⟩
  · cases e
  · simp only [Value.slice.injEq, Option.some.injEq, Addr.mk.injEq, and_true] at e
    obtain ⟨rfl, _, _⟩ := e
    obtain ⟨h0, h1, h2, h3, h4, h5⟩ := cellsC_get T j c hj
    have k := fun i u (hi : (cellsC T)[i]? = some u) => hc i u hi
    simp only [Addr.add_lit, Nat.zero_add] at k
    exact ⟨k _ _ h0, k _ _ h1, k _ _ h2, k _ _ h3, k _ _ h4, k _ _ h5⟩
set_option maxHeartbeats 400000 in
theorem samec_none (w : World) (x y : Option Addr) (c d : Nat) : Calls Tryz.prog 22 #[.slice x 0 c, .slice y 0 d] w fun e w' => e = .returned (.bool true) ∧ w.grownBy w' none := by
  go_enter Tryz.func22, Tryz.ntmps22
  go_wp2
  refine wp_loop_rounds 1 ?_
  rw [rounds_succ]
  go_wp2
  go_ret
  exact ⟨rfl, gbRefl _ _⟩
set_option maxHeartbeats 1000000 in
theorem samec_some {w : World} {B B' g g' n cap cap' : Nat} {T : List C} (hn : Hid (T.length = n)) (hl : n ≤ 2000) (h : Hid (TL w B (.slice (some ⟨g, 0, none⟩) n cap) T)) (h' : Hid (TL w B' (.slice (some ⟨g', 0, none⟩) n cap') T)) :
    Calls Tryz.prog 22 #[.slice (some ⟨g, 0, none⟩) n cap, .slice (some ⟨g', 0, none⟩) n cap'] w fun e w' => e = .returned (.bool true) ∧ w.grownBy w' none := by
  have qn := run_neq_cap
  have qg := eqGuardCap
  go_enter Tryz.func22, Tryz.ntmps22
  go_wp2
  go_loopg [5] (n + 1) (fun y i wr => ∃ c : Nat, c + y = n + 1 ∧ c ≤ n ∧ i = .int .i64 c ∧ w.grownBy wr none)
  case atStart => exact ⟨0, by omega, by omega, rfl, gbRefl _ _⟩
  case round =>
    obtain ⟨c, hc, hcj, rfl, gw⟩ := hrel
    by_cases ej : c = n
    · have hlt' : ¬ (c : Int) < (n : Int) := by omega
      go_wp2
      go_ret
      exact ⟨rfl, gw⟩
    · have hlt' : (c : Int) < (n : Int) := by omega
      have hlt2 : c < n := by omega
      obtain ⟨d, hd⟩ : ∃ d, T[c]? = some d := ⟨_, List.getElem?_eq_getElem (by rw [hn.out]; omega)⟩
      obtain ⟨k, o, r, b, q, t⟩ := d
      have E := fun y : Gr wr => (h.out.kept (gbTrans gw y.g)).el c _ hd
      have E' := fun y : Gr wr => (h'.out.kept (gbTrans gw y.g)).el c _ hd
      have e0 : ∀ y : Gr wr, y.w.cell? ⟨g, c * 6, none⟩ = some (.int .i64 k) := fun y => (E y).1
      have e1 : ∀ y : Gr wr, y.w.cell? ⟨g, c * 6 + 1, none⟩ = some (.int .i64 o) := fun y => (E y).2.1
      have e2 : ∀ y : Gr wr, y.w.cell? ⟨g, c * 6 + 2, none⟩ = some (.int .i64 r) := fun y => (E y).2.2.1
      have e3 : ∀ y : Gr wr, y.w.cell? ⟨g, c * 6 + 3, none⟩ = some (.int .u64 b) := fun y => (E y).2.2.2.1
      have e4 : ∀ y : Gr wr, y.w.cell? ⟨g, c * 6 + 4, none⟩ = some (.int .u64 q) := fun y => (E y).2.2.2.2.1
      have e5 : ∀ y : Gr wr, y.w.cell? ⟨g, c * 6 + 5, none⟩ = some (.int .i64 t) := fun y => (E y).2.2.2.2.2
      have f0 : ∀ y : Gr wr, y.w.cell? ⟨g', c * 6, none⟩ = some (.int .i64 k) := fun y => (E' y).1
      have f1 : ∀ y : Gr wr, y.w.cell? ⟨g', c * 6 + 1, none⟩ = some (.int .i64 o) := fun y => (E' y).2.1
      have f2 : ∀ y : Gr wr, y.w.cell? ⟨g', c * 6 + 2, none⟩ = some (.int .i64 r) := fun y => (E' y).2.2.1
      have f3 : ∀ y : Gr wr, y.w.cell? ⟨g', c * 6 + 3, none⟩ = some (.int .u64 b) := fun y => (E' y).2.2.2.1
      have f4 : ∀ y : Gr wr, y.w.cell? ⟨g', c * 6 + 4, none⟩ = some (.int .u64 q) := fun y => (E' y).2.2.2.2.1
      have f5 : ∀ y : Gr wr, y.w.cell? ⟨g', c * 6 + 5, none⟩ = some (.int .i64 t) := fun y => (E' y).2.2.2.2.2
      have hs : M.eq ⟨k, o, r, b, q, t⟩ ⟨k, o, r, b, q, t⟩ = true := M.eq_iff.2 rfl
      clear hd E E'
      go_wp2
      refine wp_region_grown (by kernel_rfl) (by kernel_rfl) fun _ => ?_
      repeat (go_big_quiet_step (fail))
      refine wpQuiet_nil ?_
      rintro w2 ⟨⟨_, g2⟩, rfl⟩
      go_wp2
      go_roundg (gk - 1)
      case rel => exact ⟨c + 1, by omega, by omega, by go_num, gbTrans gw g2⟩
      case measure => omega
theorem samec_is {w : World} {B B' : Nat} {v v' : Value} {T : List C} (h : TL w B v T) (h' : TL w B' v' T) (hl : T.length ≤ 2000) :
    Calls Tryz.prog 22 #[v, v'] w fun e w' => e = .returned (.bool true) ∧ w.grownBy w' none := by
  rcases h.form with ⟨rfl, rfl⟩ | ⟨g, cap, rfl, _⟩
  · rcases h'.form with ⟨rfl, _⟩ | ⟨g', cap', rfl, _⟩
    · exact samec_none w _ _ _ _
    · exact samec_none w _ _ _ _
  · rcases h'.form with ⟨rfl, rfl⟩ | ⟨g', cap', rfl, _⟩
    · exact samec_none w _ _ _ _
    · exact samec_some (hideIt rfl) hl (hideIt h) (hideIt h')
end Go.Proofs.YtdnoidnpiaadaaaGreat
