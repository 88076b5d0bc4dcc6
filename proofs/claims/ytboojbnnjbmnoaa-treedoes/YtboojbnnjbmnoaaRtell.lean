/-
  THE DOCUMENT'S SIDE (donjonref09): Parent, Kin, Children.
-/
import Derived.Test.YtboojbnnjbmnoaaRdrop
namespace Go.Proofs.Ytboojbnnjbmnoaa
open Go.RowKit
set_option linter.unusedVariables false

theorem Pos.parent {f : Fo} {s : Int × Int} {d : Fo} {A C : List Kn} {i e j n : Nat} (P : Pos f s d A C i e j n) (h : f.has s = true) : f.parent s = Fo.up ((f.flat 0).take i) j := by
  have h1 := P.at'.par none _ _ (Fo.has_view h)
  rw [h1, P.at'.eq, List.take_left' P.ai, Option.or_none]
theorem Fo.kin_sub9 {f d : Fo} {t : Int × Int} (h : f.sub t = some d) : f.kin t = d.pre := by unfold Fo.kin; rw [h]
theorem up_take {L : List Kn} {c j : Nat} {x : Kn} (h : L[c]? = some x) : Fo.up (L.take (c + 1)) j = if x.2 < j then some x.1 else Fo.up (L.take c) j := by
  rw [List.take_add_one, h, Fo.up_app]
  simp only [Option.toList_some, Fo.up]
  split <;> simp

set_option maxHeartbeats 400000 in
theorem rparent_no {w : World} {p : Nat} {v : Value} {f : Fo} {a b : Int} (H : Hid (RA w p v (f.flat 0))) (hh : Hid (f.has (a, b) = false)) (hm : Hid (f.len ≤ 60)) :
    Calls Try.prog 26 #[.pointer (some ⟨p, 0, none⟩), sv a b] w fun e w' => e = .returned (.tuple #[sv 0 0, .bool false]) ∧ w.grownBy w' none := by
  go_enter Try.func26, Try.ntmps26
  go_upto_region 1 with fail
  obtain ⟨W, hW, X, Y, hf, g0⟩ := twoNew w a b 0 0
  rw [hW]
  clear hW
  have x0 := X.at0
  have x1 := X.at1
  go_wp2_with fail
  refine (at_no (H.out.kept g0) hh.out hm.out).mono ?_
  rintro _ w1 ⟨rfl, g1⟩
  have y0 := (Y.kept g1).at0
  have y1 := (Y.kept g1).at1
  have hf1 := fun j => (gbFrozen (i := j) g1 Y.lt (by simp)).trans (hf j)
  have G1 := gbTrans g0 g1
  go_wp2
  exact bodyPost_ret (v := .tuple #[sv 0 0, .bool false]) (by simp [results, Try.results26, go_sem, y0, y1]) rfl ⟨rfl, gbSetNew (gbSetNew G1 _ _ _ (by omega)) _ _ _ (by omega)⟩

set_option maxHeartbeats 1000000 in
theorem rparent_yes {w : World} {p g cap : Nat} {f : Fo} {a b : Int} {D : Fo} {A C : List Kn} {i e j n : Nat} (H : Hid (RA w p (.slice (some ⟨g, 0, none⟩) n cap) (f.flat 0))) (P : Hid (Pos f (a, b) D A C i e j n)) (hm : Hid (f.len ≤ 60)) (hn60 : n ≤ 60) (hin : i < n) (o : Option (Int × Int)) (ho : Hid (Fo.up ((f.flat 0).take i) j = o)) :
    Calls Try.prog 26 #[.pointer (some ⟨p, 0, none⟩), sv a b] w fun e w' => e = .returned (.tuple #[sv (oN o) (oA o), .bool (oB o)]) ∧ w.grownBy w' none := by
  have hl : Hid ((f.flat 0).length = n) := hideIt (by rw [Fo.flat_len]; exact P.out.len)
  have hjn := P.out.dp
  go_enter Try.func26, Try.ntmps26
  go_upto_region 1 with fail
  obtain ⟨W, hW, X, Y, hf, g0⟩ := twoNew w a b 0 0
  rw [hW]
  clear hW
  have x0 := X.at0
  have x1 := X.at1
  go_wp2_with fail
  refine (at_yes (H.out.kept g0) P.out hm.out).mono ?_
  rintro _ w1 ⟨rfl, g1⟩
  have hi0 : ¬ (i : Int) < 0 := by omega
  have hii : (i : Int) - 1 = ((i : Int) - 1) := rfl
  have hwi : IntKind.i64.wrap ((i : Int) - 1) = (i : Int) - 1 := by rw [IntKind.wrap_i64]; omega
  have G1 := gbTrans g0 g1
  have Y1 := Y.kept g1
  have hf1 : Hid (∀ j, w1.frozen? ⟨w.heap.size + 1, j, none⟩ = false) := hideIt (fun j => (gbFrozen (i := j) g1 Y.lt (by simp)).trans (hf j))
  clear x0 x1 hii
  go_wp2
  go_loopg [7] i (fun y k wr => ∃ c : Nat, c = y ∧ c ≤ i ∧ k = .int .i64 ((c : Int) - 1) ∧ Hid (Fo.up ((f.flat 0).take c) j = o) ∧ w1.grownBy wr none)
  case atStart => exact ⟨i, rfl, Nat.le_refl _, by go_num, ho, gbRefl _ _⟩
  case round =>
    obtain ⟨c, hc, hci, rfl, HU, gw⟩ := hrel
    have Gw := gbTrans G1 gw
    cases c with
    | zero =>
      have hneg : ((0 : Nat) : Int) - 1 = -1 := by omega
      rw [hneg]
      clear hneg hc hci
      have hno : o = none := by have := HU.out; rw [List.take_zero] at this; exact this.symm
      subst hno
      have y0 := (Y1.kept gw).at0
      have y1 := (Y1.kept gw).at1
      have hf2 := fun j => (gbFrozen (i := j) gw Y1.lt (by simp)).trans (hf1.out j)
      go_wp2
      exact bodyPost_ret (v := .tuple #[sv 0 0, .bool false]) (by simp [results, Try.results26, go_sem, y0, y1]) rfl ⟨rfl, gbSetNew (gbSetNew Gw _ _ _ (by omega)) _ _ _ (by omega)⟩
    | succ c =>
      have hcc : ((c + 1 : Nat) : Int) - 1 = (c : Int) := by omega
      rw [hcc]
      have hge : (0 : Int) ≤ (c : Int) := by omega
      have hcn : (c : Int) < (n : Int) := by omega
      have hil : (i : Int) < (n : Int) := by omega
      obtain ⟨⟨⟨p1, p2⟩, q⟩, hq⟩ : ∃ q, (f.flat 0)[c]? = some q := ⟨_, List.getElem?_eq_getElem (by rw [hl.out]; omega)⟩
      have k0 : ∀ y : Gr wr, y.w.cell? ⟨p, 0, none⟩ = some (.slice (some ⟨g, 0, none⟩) n cap) := fun y => (H.out.kept (gbTrans Gw y.g)).cell
      have e2 := fun y : Gr wr => ((H.out.kept (gbTrans Gw y.g)).row.el hl.out c _ hq).2.2
      have i2 := fun y : Gr wr => ((H.out.kept (gbTrans Gw y.g)).row.el hl.out i _ P.out.hi).2.2
      simp only at e2 i2
      have hu := HU.out
      rw [up_take hq] at hu
      simp only at hu
      have HQ := hideIt hq
      clear hq
      by_cases hqj : q < j
      · have d1 : decide ((q : Int) < (j : Int)) = true := decide_eq_true (by omega)
        have d1' : (q : Int) < (j : Int) := by omega
        rw [if_pos hqj] at hu
        subst hu
        go_wp2
        refine wp_region_grown (by kernel_rfl) (by kernel_rfl) fun _ => ?_
        repeat (go_big_quiet_step (fail))
        refine wpQuiet_nil ?_
        rintro w2 ⟨⟨_, g2⟩, rfl⟩
        clear k0 e2 i2
        have G2 := gbTrans Gw g2
        have c0 := (H.out.kept G2).cell
        obtain ⟨v0, v1, _⟩ := (H.out.kept G2).row.el hl.out c _ HQ.out
        simp only at v0 v1
        have y0 := (Y1.kept (gbTrans gw g2)).at0
        have y1 := (Y1.kept (gbTrans gw g2)).at1
        have hf2 := fun j => (gbFrozen (i := j) (gbTrans gw g2) Y1.lt (by simp)).trans (hf1.out j)
        go_wp2
        exact bodyPost_ret (v := .tuple #[sv p1 p2, .bool true]) (by simp [results, Try.results26, go_sem, y0, y1]) rfl ⟨rfl, gbSetNew (gbSetNew G2 _ _ _ (by omega)) _ _ _ (by omega)⟩
      · have d1 : decide ((q : Int) < (j : Int)) = false := decide_eq_false (by omega)
        have d1' : ¬ (q : Int) < (j : Int) := by omega
        rw [if_neg hqj] at hu
        have HU2 := hideIt hu
        clear hu
        go_wp2
        refine wp_region_grown (by kernel_rfl) (by kernel_rfl) fun _ => ?_
        repeat (go_big_quiet_step (fail))
        refine wpQuiet_nil ?_
        rintro w2 ⟨⟨_, g2⟩, rfl⟩
        clear k0 e2 i2
        go_wp2
        go_roundg c
        case rel => exact ⟨c, rfl, by omega, by go_num, HU2, gbTrans gw g2⟩
        case measure => omega

theorem rparent_is {w : World} {p : Nat} {O : Nat → Prop} {f : Fo} (h : RAt w p O f) (G : Good f) (hm : f.len ≤ 60) (a b : Int) (on oa : Int) (ob : Bool) (e1 : oN (f.parent (a, b)) = on) (e2 : oA (f.parent (a, b)) = oa) (e3 : oB (f.parent (a, b)) = ob) :
    Calls Try.prog 26 #[.pointer (some ⟨p, 0, none⟩), sv a b] w fun e w' => e = .returned (.tuple #[sv on oa, .bool ob]) ∧ w.grownBy w' none := by
  subst e1 e2 e3
  obtain ⟨v, H, _⟩ := h
  cases hs : f.has (a, b) with
  | false =>
    rw [(Fo.hasnt hs).2.2.1]
    exact rparent_no (hideIt H) (hideIt hs) (hideIt hm)
  | true =>
    obtain ⟨D, A, C, i, e', j, n, P, hD⟩ := pos_of G hs
    have hl : (f.flat 0).length = n := by rw [Fo.flat_len]; exact P.len
    rcases H.row.form hl with ⟨_, h0⟩ | ⟨g, cap, rfl, _⟩
    · have := P.lt; omega
    · exact rparent_yes (hideIt H) (hideIt P) (hideIt hm) (by have := P.len; omega) P.lt _ (hideIt (P.parent hs).symm)

/-! ### Kin, Children -/
/-- Those of the first c knots of the kin that are as deep as asked. -/
def M.some9 (D : List Kn) (c : Nat) (t : Kn → Bool) : List (Int × Int) := ((D.take c).filter t).map Prod.fst
theorem M.some9_succ {D : List Kn} {c : Nat} {t : Kn → Bool} {x : Kn} (h : D[c]? = some x) : M.some9 D (c + 1) t = M.some9 D c t ++ (if t x then [x.1] else []) := by
  unfold M.some9
  rw [List.take_add_one, h, List.filter_append, List.map_append]
  congr 1
  simp only [Option.toList_some, List.filter_cons, List.filter_nil]
  split <;> rfl
theorem M.some9_len (D : List Kn) (c : Nat) (t : Kn → Bool) : (M.some9 D c t).length ≤ c := by
  unfold M.some9
  rw [List.length_map]
  exact Nat.le_trans (List.length_filter_le _ _) (List.length_take_le _ _)

set_option maxHeartbeats 400000 in
theorem rkin_no {w : World} {p : Nat} {v : Value} {f : Fo} {a b : Int} (H : Hid (RA w p v (f.flat 0))) (hh : Hid (f.has (a, b) = false)) (hm : Hid (f.len ≤ 60)) :
    Calls Try.prog 29 #[.pointer (some ⟨p, 0, none⟩), sv a b] w fun e w' => e = .returned (.slice none 0 0) ∧ w.grownBy w' none := by
  go_enter Try.func29, Try.ntmps29
  go_upto_region 1 with fail
  obtain ⟨W, hW, X, g0⟩ := sboxNew w a b
  rw [hW]
  clear hW
  have x0 := X.at0
  have x1 := X.at1
  go_wp2_with fail
  refine (at_no (H.out.kept g0) hh.out hm.out).mono ?_
  rintro _ w1 ⟨rfl, g1⟩
  go_wp2
  go_ret
  exact ⟨rfl, gbTrans g0 g1⟩
set_option maxHeartbeats 400000 in
theorem rchildren_no {w : World} {p : Nat} {v : Value} {f : Fo} {a b : Int} (H : Hid (RA w p v (f.flat 0))) (hh : Hid (f.has (a, b) = false)) (hm : Hid (f.len ≤ 60)) :
    Calls Try.prog 28 #[.pointer (some ⟨p, 0, none⟩), sv a b] w fun e w' => e = .returned (.slice none 0 0) ∧ w.grownBy w' none := by
  go_enter Try.func28, Try.ntmps28
  go_upto_region 1 with fail
  obtain ⟨W, hW, X, g0⟩ := sboxNew w a b
  rw [hW]
  clear hW
  have x0 := X.at0
  have x1 := X.at1
  go_wp2_with fail
  refine (at_no (H.out.kept g0) hh.out hm.out).mono ?_
  rintro _ w1 ⟨rfl, g1⟩
  go_wp2
  go_ret
  exact ⟨rfl, gbTrans g0 g1⟩
set_option maxRecDepth 10000 in
set_option maxHeartbeats 1000000 in
theorem rkin_yes {w : World} {p g cap : Nat} {f : Fo} {a b : Int} {D : Fo} {A C : List Kn} {i e j n : Nat} (H : Hid (RA w p (.slice (some ⟨g, 0, none⟩) n cap) (f.flat 0))) (P : Hid (Pos f (a, b) D A C i e j n)) (hm : Hid (f.len ≤ 60)) (hn60 : n ≤ 60) (hin : i < n) (hie : i < e) (hen : e ≤ n) :
    Calls Try.prog 29 #[.pointer (some ⟨p, 0, none⟩), sv a b] w fun x w' => ∃ v, x = .returned v ∧ Lst w' w.heap.size v (M.some9 (D.flat (j + 1)) (e - (i + 1)) (fun _ => true)) ∧ w.grownBy w' none := by
  have hl : Hid ((f.flat 0).length = n) := hideIt (by rw [Fo.flat_len]; exact P.out.len)
  go_enter Try.func29, Try.ntmps29
  go_upto_region 1 with fail
  obtain ⟨W, hW, X, g0⟩ := sboxNew w a b
  rw [hW]
  clear hW
  have x0 := X.at0
  have x1 := X.at1
  go_wp2_with fail
  refine (at_yes (H.out.kept g0) P.out hm.out).mono ?_
  rintro _ w1 ⟨rfl, g1⟩
  have hi0 : ¬ (i : Int) < 0 := by omega
  have G1 := gbTrans g0 g1
  clear x0 x1
  go_wp2
  go_loopg [5, 7] (e - (i + 1)) (fun y v k wr => ∃ c : Nat, c + y = e - (i + 1) ∧ k = .int .i64 ((i + 1 + c : Nat) : Int) ∧ Hid (Lst wr w.heap.size v (M.some9 (D.flat (j + 1)) c (fun _ => true))) ∧ w.grownBy wr none)
  case atStart => exact ⟨0, by omega, by go_num, hideIt (Lst.nil _ _), G1⟩
  case round =>
    obtain ⟨c, hc, rfl, HL, gw⟩ := hrel
    obtain ⟨k, hk⟩ : ∃ k, i + 1 + c = k := ⟨_, rfl⟩
    rw [hk]
    go_wp2_with fail
    refine (end_is (H.out.kept gw) P.out hm.out).mono ?_
    rintro _ w2 ⟨rfl, g2⟩
    have G2 := gbTrans gw g2
    by_cases hke : k < e
    · have hke' : (k : Int) < (e : Int) := by omega
      have hkn' : (k : Int) < (n : Int) := by omega
      obtain ⟨⟨⟨p1, p2⟩, q⟩, hq⟩ : ∃ q, (f.flat 0)[k]? = some q := ⟨_, List.getElem?_eq_getElem (by rw [hl.out]; omega)⟩
      have hkin : (D.flat (j + 1))[c]? = some ((p1, p2), q) := by rw [← P.out.kin c (by omega), hk]; exact hq
      have c0 := (H.out.kept G2).cell
      obtain ⟨e0, e1, _⟩ := (H.out.kept G2).row.el hl.out k _ hq
      simp only at e0 e1
      have Hs := hideIt (M.some9_succ (t := fun _ => true) hkin)
      have hown := HL.out.lt
      have ga := gbAlloc w2 (.cells #[.int .i64 p1, .int .i64 p2] 31) none
      have HKL := hideIt (HL.out.kept (gbTrans g2 ga))
      have HR1 := hideIt (rowOne w2 p1 p2)
      have hB : Hid (w.heap.size ≤ (w2.alloc (.cells #[.int .i64 p1, .int .i64 p2] 31)).heap.size) := hideIt (gbTrans G2 ga).size
      have hdl : Hid ((M.some9 (D.flat (j + 1)) c (fun _ => true)).length + 1 ≤ 1000000) := hideIt (by have := M.some9_len (D.flat (j + 1)) c (fun _ => true); omega)
      have hk1 : (k : Int) + 1 = ((i + 1 + (c + 1) : Nat) : Int) := by omega
      clear hq hkin
      go_wp2_with (at_builtin; refine wpList_append_slot_at rfl (.tmp 22) (.tmp 31) rfl w.heap.size u5 _ rfl HKL.out ⟨w2.heap.size, 0, none⟩ 1 1 [(p1, p2)] rfl rfl HR1.out hdl.out hB.out ?_; intro v4 w4 l4 g4 o4; have HL4 : Hid (Lst w4 w.heap.size v4 (M.some9 (D.flat (j + 1)) c (fun _ => true) ++ [(p1, p2)])) := hideIt l4; clear l4)
      have G4 : w.grownBy w4 none := gbNews (gbTrans (gbAny (gbTrans G2 ga) _) g4) (fun z ez => (hown z ez).1)
      go_roundg (gk - 1)
      case rel => exact ⟨c + 1, by omega, by go_num, hideIt (by rw [Hs.out]; exact HL4.out), G4⟩
      case measure => omega
    · have hke' : ¬ (k : Int) < (e : Int) := by omega
      obtain rfl : c = e - (i + 1) := by omega
      go_wp2
      go_ret
      exact ⟨_, rfl, HL.out.kept g2, G2⟩

set_option maxRecDepth 10000 in
set_option maxHeartbeats 1000000 in
theorem rchildren_yes {w : World} {p g cap : Nat} {f : Fo} {a b : Int} {D : Fo} {A C : List Kn} {i e j n : Nat} (H : Hid (RA w p (.slice (some ⟨g, 0, none⟩) n cap) (f.flat 0))) (P : Hid (Pos f (a, b) D A C i e j n)) (hm : Hid (f.len ≤ 60)) (hn60 : n ≤ 60) (hin : i < n) (hie : i < e) (hen : e ≤ n) :
    Calls Try.prog 28 #[.pointer (some ⟨p, 0, none⟩), sv a b] w fun x w' => ∃ v, x = .returned v ∧ Lst w' w.heap.size v (M.some9 (D.flat (j + 1)) (e - (i + 1)) (fun x => x.2 == j + 1)) ∧ w.grownBy w' none := by
  have hl : Hid ((f.flat 0).length = n) := hideIt (by rw [Fo.flat_len]; exact P.out.len)
  have hjn := P.out.dp
  obtain ⟨j1, hj1⟩ : ∃ j1, j + 1 = j1 := ⟨_, rfl⟩
  have Hj1 := hideIt hj1
  have hj1' : (j : Int) + 1 = (j1 : Int) := by omega
  have hwj : IntKind.i64.wrap (j1 : Int) = (j1 : Int) := by rw [IntKind.wrap_i64]; omega
  go_enter Try.func28, Try.ntmps28
  go_upto_region 1 with fail
  obtain ⟨W, hW, X, g0⟩ := sboxNew w a b
  rw [hW]
  clear hW
  have x0 := X.at0
  have x1 := X.at1
  go_wp2_with fail
  refine (at_yes (H.out.kept g0) P.out hm.out).mono ?_
  rintro _ w1 ⟨rfl, g1⟩
  have hi0 : ¬ (i : Int) < 0 := by omega
  have G1 := gbTrans g0 g1
  have Hhj := hideIt hj1'
  clear x0 x1 hj1 hj1'
  go_wp2
  go_loopg [5, 7] (e - (i + 1)) (fun y v k wr => ∃ c : Nat, c + y = e - (i + 1) ∧ k = .int .i64 ((i + 1 + c : Nat) : Int) ∧ Hid (Lst wr w.heap.size v (M.some9 (D.flat (j + 1)) c (fun x => x.2 == j + 1))) ∧ w.grownBy wr none)
  case atStart => exact ⟨0, by omega, by go_num, hideIt (Lst.nil _ _), G1⟩
  case round =>
    obtain ⟨c, hc, rfl, HL, gw⟩ := hrel
    obtain ⟨k, hk⟩ : ∃ k, i + 1 + c = k := ⟨_, rfl⟩
    rw [hk]
    go_wp2_with fail
    refine (end_is (H.out.kept gw) P.out hm.out).mono ?_
    rintro _ w2 ⟨rfl, g2⟩
    have G2 := gbTrans gw g2
    by_cases hke : k < e
    · have hke' : (k : Int) < (e : Int) := by omega
      have hkn' : (k : Int) < (n : Int) := by omega
      have hil : (i : Int) < (n : Int) := by omega
      obtain ⟨⟨⟨p1, p2⟩, q⟩, hq⟩ : ∃ q, (f.flat 0)[k]? = some q := ⟨_, List.getElem?_eq_getElem (by rw [hl.out]; omega)⟩
      have hkin : (D.flat (j + 1))[c]? = some ((p1, p2), q) := by rw [← P.out.kin c (by omega), hk]; exact hq
      have k0 : ∀ y : Gr w2, y.w.cell? ⟨p, 0, none⟩ = some (.slice (some ⟨g, 0, none⟩) n cap) := fun y => (H.out.kept (gbTrans G2 y.g)).cell
      have e2 := fun y : Gr w2 => ((H.out.kept (gbTrans G2 y.g)).row.el hl.out k _ hq).2.2
      have i2 := fun y : Gr w2 => ((H.out.kept (gbTrans G2 y.g)).row.el hl.out i _ P.out.hi).2.2
      simp only at e2 i2
      have hs := M.some9_succ (t := fun x => x.2 == j + 1) hkin
      have HQ := hideIt hq
      have hj1' := Hhj.out
      clear hq hkin
      by_cases hqj : q = j1
      · have hqb : ((q : Int) == (j1 : Int)) = true := by simp [hqj]
        have hs' : M.some9 (D.flat (j + 1)) (c + 1) (fun x => x.2 == j + 1) = M.some9 (D.flat (j + 1)) c (fun x => x.2 == j + 1) ++ [(p1, p2)] := by rw [hs]; have := Hj1.out; simp [this, hqj]
        have Hs := hideIt hs'
        clear hs hs' hqj
        go_wp2
        refine wp_region_grown (by kernel_rfl) (by kernel_rfl) fun _ => ?_
        repeat (go_big_quiet_step (fail))
        refine wpQuiet_nil ?_
        rintro w3 ⟨⟨_, g3⟩, rfl⟩
        clear k0 e2 i2
        have G3 := gbTrans G2 g3
        have c0 := (H.out.kept G3).cell
        obtain ⟨e0, e1, _⟩ := (H.out.kept G3).row.el hl.out k _ HQ.out
        simp only at e0 e1
        have hown := HL.out.lt
        have ga := gbAlloc w3 (.cells #[.int .i64 p1, .int .i64 p2] 31) none
        have HKL := hideIt (HL.out.kept (gbTrans (gbTrans g2 g3) ga))
        have HR1 := hideIt (rowOne w3 p1 p2)
        have hB : Hid (w.heap.size ≤ (w3.alloc (.cells #[.int .i64 p1, .int .i64 p2] 31)).heap.size) := hideIt (gbTrans G3 ga).size
        have hdl : Hid ((M.some9 (D.flat (j + 1)) c (fun x => x.2 == j + 1)).length + 1 ≤ 1000000) := hideIt (by have := M.some9_len (D.flat (j + 1)) c (fun x => x.2 == j + 1); omega)
        go_wp2_with (at_builtin; refine wpList_append_slot_at rfl (.tmp 40) (.tmp 49) rfl w.heap.size u5 _ rfl HKL.out ⟨w3.heap.size, 0, none⟩ 1 1 [(p1, p2)] rfl rfl HR1.out hdl.out hB.out ?_; intro v4 w4 l4 g4 o4; have HL4 : Hid (Lst w4 w.heap.size v4 (M.some9 (D.flat (j + 1)) c (fun x => x.2 == j + 1) ++ [(p1, p2)])) := hideIt l4; clear l4)
        have G4 : w.grownBy w4 none := gbNews (gbTrans (gbAny (gbTrans G3 ga) _) g4) (fun z ez => (hown z ez).1)
        go_roundg (gk - 1)
        case rel => exact ⟨c + 1, by omega, by go_num, hideIt (by rw [Hs.out]; exact HL4.out), G4⟩
        case measure => omega
      · have hqb : ((q : Int) == (j1 : Int)) = false := by simp; omega
        have hs' : M.some9 (D.flat (j + 1)) (c + 1) (fun x => x.2 == j + 1) = M.some9 (D.flat (j + 1)) c (fun x => x.2 == j + 1) := by rw [hs]; have := Hj1.out; simp [this, hqj]
        have Hs := hideIt hs'
        clear hs hs' hqj
        go_wp2
        refine wp_region_grown (by kernel_rfl) (by kernel_rfl) fun _ => ?_
        repeat (go_big_quiet_step (fail))
        refine wpQuiet_nil ?_
        rintro w3 ⟨⟨_, g3⟩, rfl⟩
        clear k0 e2 i2
        go_wp2
        go_roundg (gk - 1)
        case rel => exact ⟨c + 1, by omega, by go_num, hideIt (by rw [Hs.out]; exact HL.out.kept (gbTrans g2 g3)), gbTrans G2 g3⟩
        case measure => omega
    · have hke' : ¬ (k : Int) < (e : Int) := by omega
      obtain rfl : c = e - (i + 1) := by omega
      go_wp2
      go_ret
      exact ⟨_, rfl, HL.out.kept g2, G2⟩

theorem rkin_is {w : World} {p : Nat} {O : Nat → Prop} {f : Fo} (h : RAt w p O f) (G : Good f) (hm : f.len ≤ 60) (a b : Int) (L : List (Int × Int)) (hL : f.kin (a, b) = L) :
    Calls Try.prog 29 #[.pointer (some ⟨p, 0, none⟩), sv a b] w fun e w' => ∃ v', e = .returned v' ∧ Lst w' w.heap.size v' L ∧ w.grownBy w' none := by
  subst hL
  obtain ⟨v, H, _⟩ := h
  cases hs : f.has (a, b) with
  | false =>
    rw [(Fo.hasnt hs).2.2.2.2]
    refine (rkin_no (hideIt H) (hideIt hs) (hideIt hm)).mono ?_
    rintro _ w1 ⟨rfl, g1⟩
    exact ⟨_, rfl, Lst.nil _ _, g1⟩
  | true =>
    obtain ⟨D, A, C, i, e', j, n, P, hD⟩ := pos_of G hs
    have hl : (f.flat 0).length = n := by rw [Fo.flat_len]; exact P.len
    rcases H.row.form hl with ⟨_, h0⟩ | ⟨g, cap, rfl, _⟩
    · have := P.lt; omega
    · refine (rkin_yes (hideIt H) (hideIt P) (hideIt hm) (by have := P.len; omega) P.lt (by have := P.ei; omega) P.hen).mono ?_
      rintro _ w1 ⟨v', rfl, l1, g1⟩
      refine ⟨v', rfl, ?_, g1⟩
      have e1 : M.some9 (D.flat (j + 1)) (e' - (i + 1)) (fun _ => true) = f.kin (a, b) := by
        unfold M.some9
        rw [List.take_of_length_le (by rw [Fo.flat_len]; have := P.ei; omega)]
        rw [List.filter_eq_self.2 (fun _ _ => rfl), Fo.flat_fst, Fo.kin_sub9 hD]
      rw [e1] at l1
      exact l1
theorem rchildren_is {w : World} {p : Nat} {O : Nat → Prop} {f : Fo} (h : RAt w p O f) (G : Good f) (hm : f.len ≤ 60) (a b : Int) (L : List (Int × Int)) (hL : f.children (a, b) = L) :
    Calls Try.prog 28 #[.pointer (some ⟨p, 0, none⟩), sv a b] w fun e w' => ∃ v', e = .returned v' ∧ Lst w' w.heap.size v' L ∧ w.grownBy w' none := by
  subst hL
  obtain ⟨v, H, _⟩ := h
  cases hs : f.has (a, b) with
  | false =>
    rw [(Fo.hasnt hs).2.2.2.1]
    refine (rchildren_no (hideIt H) (hideIt hs) (hideIt hm)).mono ?_
    rintro _ w1 ⟨rfl, g1⟩
    exact ⟨_, rfl, Lst.nil _ _, g1⟩
  | true =>
    obtain ⟨D, A, C, i, e', j, n, P, hD⟩ := pos_of G hs
    have hl : (f.flat 0).length = n := by rw [Fo.flat_len]; exact P.len
    rcases H.row.form hl with ⟨_, h0⟩ | ⟨g, cap, rfl, _⟩
    · have := P.lt; omega
    · refine (rchildren_yes (hideIt H) (hideIt P) (hideIt hm) (by have := P.len; omega) P.lt (by have := P.ei; omega) P.hen).mono ?_
      rintro _ w1 ⟨v', rfl, l1, g1⟩
      refine ⟨v', rfl, ?_, g1⟩
      have e1 : M.some9 (D.flat (j + 1)) (e' - (i + 1)) (fun x => x.2 == j + 1) = f.children (a, b) := by
        unfold M.some9
        rw [List.take_of_length_le (by rw [Fo.flat_len]; have := P.ei; omega), Fo.flat_tops]
        simp [Fo.children, hD]
      rw [e1] at l1
      exact l1

end Go.Proofs.Ytboojbnnjbmnoaa
