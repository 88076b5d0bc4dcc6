/-
  THE DOCUMENT'S SIDE (donjonref09): Parent, Kin, Children.
-/
import Derived.Test.YtdnoidnpiaadaaaGreatG14
import Derived.Test.YtdnoidnpiaadaaaGreatG13
import Derived.Test.YtdnoidnpiaadaaaGreatG11
import Derived.Deep.RegionHeld3
namespace Go.Proofs.YtdnoidnpiaadaaaGreat
set_option maxRecDepth 10000
namespace T9
open Go.RowKit
set_option linter.unusedVariables false
variable {u : Value} {tc : TypeId}

theorem Pos.parent {f : Fo} {s : Int × Int} {d : Fo} {A C : List Kn} {i e j n : Nat} (P : Pos f s d A C i e j n) (h : f.has s = true) : f.parent s = Fo.up ((f.flat 0).take i) j := by
  have h1 := P.at'.par none _ _ (Fo.has_view h)
  rw [h1, P.at'.eq, List.take_left' P.ai, Option.or_none]
theorem Fo.kin_sub9 {f d : Fo} {t : Int × Int} (h : f.sub t = some d) : f.kin t = d.pre := by unfold Fo.kin; rw [h]
theorem up_take {L : List Kn} {c j : Nat} {x : Kn} (h : L[c]? = some x) : Fo.up (L.take (c + 1)) j = if x.2 < j then some x.1 else Fo.up (L.take c) j := by
  rw [List.take_add_one, h, Fo.up_app]
  simp only [Option.toList_some, Fo.up]
  split <;> simp

set_option maxHeartbeats 400000 in
theorem rparent_no {w : World} {p : Nat} {v : Value} {f : Fo} {a b : Int} (H : Hid (RA u tc w p v (f.flat 0))) (hh : Hid (f.has (a, b) = false)) (hm : Hid (f.len ≤ 60)) :
    Calls Tryz.prog 54 #[.pointer (some ⟨p, 1, none⟩), sv a b] w fun e w' => e = .returned (.tuple #[sv 0 0, .bool false]) ∧ w.grownBy w' none := by
  go_enter Tryz.func54, Tryz.ntmps54
  go_upto_region 1 with fail
  obtain ⟨W, hW, X, Y, hf, g0⟩ := twoNew w a b 0 0
  rw [hW]
  clear hW
  have x0 := X.at0
  have x1 := X.at1
  go_wp2_with fail
  refine (at_no (H.out.kept g0) hh.out hm.out).mono ?_
  rintro _ w1 ⟨rfl, g1⟩
  have y0 := (Y.kept g1).at0
  have y1 := (Y.kept g1).at1
  have hf1 := fun j => (gbFrozen (i := j) g1 Y.lt (by simp)).trans (hf j)
  have G1 := gbTrans g0 g1
  go_wp2
  exact bodyPost_ret (v := .tuple #[sv 0 0, .bool false]) (by simp [results, Tryz.results54, go_sem, y0, y1]) rfl ⟨rfl, gbSetNew (gbSetNew G1 _ _ _ (by omega)) _ _ _ (by omega)⟩

set_option maxHeartbeats 1000000 in
theorem rparent_yes {w : World} {p g cap : Nat} {f : Fo} {a b : Int} {D : Fo} {A C : List Kn} {i e j n : Nat} (H : Hid (RA u tc w p (.slice (some ⟨g, 0, none⟩) n cap) (f.flat 0))) (P : Hid (Pos f (a, b) D A C i e j n)) (hm : Hid (f.len ≤ 60)) (hn60 : n ≤ 60) (hin : i < n) (o : Option (Int × Int)) (ho : Hid (Fo.up ((f.flat 0).take i) j = o)) :
    Calls Tryz.prog 54 #[.pointer (some ⟨p, 1, none⟩), sv a b] w fun e w' => e = .returned (.tuple #[sv (oN o) (oA o), .bool (oB o)]) ∧ w.grownBy w' none := by
  have hl : Hid ((f.flat 0).length = n) := hideIt (by rw [Fo.flat_len]; exact P.out.len)
  have hjn := P.out.dp
  go_enter Tryz.func54, Tryz.ntmps54
  go_upto_region 1 with fail
  obtain ⟨W, hW, X, Y, hf, g0⟩ := twoNew w a b 0 0
  rw [hW]
  clear hW
  have x0 := X.at0
  have x1 := X.at1
  go_wp2_with fail
  refine (at_yes (H.out.kept g0) P.out hm.out).mono ?_
  rintro _ w1 ⟨rfl, g1⟩
  have hi0 : ¬ (i : Int) < 0 := by omega
  have hii : (i : Int) - 1 = ((i : Int) - 1) := rfl
  have hwi : IntKind.i64.wrap ((i : Int) - 1) = (i : Int) - 1 := by rw [IntKind.wrap_i64]; omega
  have G1 := gbTrans g0 g1
  have Y1 := Y.kept g1
  have hf1 : Hid (∀ j, w1.frozen? ⟨w.heap.size + 1, j, none⟩ = false) := hideIt (fun j => (gbFrozen (i := j) g1 Y.lt (by simp)).trans (hf j))
  clear x0 x1 hii
  go_wp2
  go_loopg [7] i (fun y k wr => ∃ c : Nat, c = y ∧ c ≤ i ∧ k = .int .i64 ((c : Int) - 1) ∧ Hid (Fo.up ((f.flat 0).take c) j = o) ∧ w1.grownBy wr none)
  case atStart => exact ⟨i, rfl, Nat.le_refl _, by go_num, ho, gbRefl _ _⟩
  case round =>
    obtain ⟨c, hc, hci, rfl, HU, gw⟩ := hrel
    have Gw := gbTrans G1 gw
    cases c with
    | zero =>
      have hneg : ((0 : Nat) : Int) - 1 = -1 := by omega
      rw [hneg]
      clear hneg hc hci
      have hno : o = none := by have := HU.out; rw [List.take_zero] at this; exact this.symm
      subst hno
      have y0 := (Y1.kept gw).at0
      have y1 := (Y1.kept gw).at1
      have hf2 := fun j => (gbFrozen (i := j) gw Y1.lt (by simp)).trans (hf1.out j)
      go_wp2
      exact bodyPost_ret (v := .tuple #[sv 0 0, .bool false]) (by simp [results, Tryz.results54, go_sem, y0, y1]) rfl ⟨rfl, gbSetNew (gbSetNew Gw _ _ _ (by omega)) _ _ _ (by omega)⟩
    | succ c =>
      have hcc : ((c + 1 : Nat) : Int) - 1 = (c : Int) := by omega
      rw [hcc]
      have hge : (0 : Int) ≤ (c : Int) := by omega
      have hcn : (c : Int) < (n : Int) := by omega
      have hil : (i : Int) < (n : Int) := by omega
      obtain ⟨⟨⟨p1, p2⟩, q⟩, hq⟩ : ∃ q, (f.flat 0)[c]? = some q := ⟨_, List.getElem?_eq_getElem (by rw [hl.out]; omega)⟩
      have k0 : ∀ y : Gr wr, y.w.cell? ⟨p, 1, none⟩ = some (.slice (some ⟨g, 0, none⟩) n cap) := fun y => (H.out.kept (gbTrans Gw y.g)).cell
      have e2 := fun y : Gr wr => ((H.out.kept (gbTrans Gw y.g)).row.el hl.out c _ hq).2.2
      have i2 := fun y : Gr wr => ((H.out.kept (gbTrans Gw y.g)).row.el hl.out i _ P.out.hi).2.2
      simp only at e2 i2
      have hu := HU.out
      rw [up_take hq] at hu
      simp only at hu
      have HQ := hideIt hq
      clear hq
      by_cases hqj : q < j
      · have d1 : decide ((q : Int) < (j : Int)) = true := decide_eq_true (by omega)
        have d1' : (q : Int) < (j : Int) := by omega
        rw [if_pos hqj] at hu
        subst hu
        go_wp2
        refine wp_region_grown (by kernel_rfl) (by kernel_rfl) fun _ => ?_
        repeat (go_big_quiet_step (fail))
        refine wpQuiet_nil ?_
        rintro w2 ⟨⟨_, g2⟩, rfl⟩
        clear k0 e2 i2
        have G2 := gbTrans Gw g2
        have c0 := (H.out.kept G2).cell
        obtain ⟨v0, v1, _⟩ := (H.out.kept G2).row.el hl.out c _ HQ.out
        simp only at v0 v1
        have y0 := (Y1.kept (gbTrans gw g2)).at0
        have y1 := (Y1.kept (gbTrans gw g2)).at1
        have hf2 := fun j => (gbFrozen (i := j) (gbTrans gw g2) Y1.lt (by simp)).trans (hf1.out j)
        go_wp2
        exact bodyPost_ret (v := .tuple #[sv p1 p2, .bool true]) (by simp [results, Tryz.results54, go_sem, y0, y1]) rfl ⟨rfl, gbSetNew (gbSetNew G2 _ _ _ (by omega)) _ _ _ (by omega)⟩
      · have d1 : decide ((q : Int) < (j : Int)) = false := decide_eq_false (by omega)
        have d1' : ¬ (q : Int) < (j : Int) := by omega
        rw [if_neg hqj] at hu
        have HU2 := hideIt hu
        clear hu
        go_wp2
        refine wp_region_grown (by kernel_rfl) (by kernel_rfl) fun _ => ?_
        repeat (go_big_quiet_step (fail))
        refine wpQuiet_nil ?_
        rintro w2 ⟨⟨_, g2⟩, rfl⟩
        clear k0 e2 i2
        go_wp2
        go_roundg c
        case rel => exact ⟨c, rfl, by omega, by go_num, HU2, gbTrans gw g2⟩
        case measure => omega

theorem rparent_is {w : World} {p : Nat} {O : Nat → Prop} {f : Fo} (h : RAt u tc w p O f) (G : Good f) (hm : f.len ≤ 60) (a b : Int) (on oa : Int) (ob : Bool) (e1 : oN (f.parent (a, b)) = on) (e2 : oA (f.parent (a, b)) = oa) (e3 : oB (f.parent (a, b)) = ob) :
    Calls Tryz.prog 54 #[.pointer (some ⟨p, 1, none⟩), sv a b] w fun e w' => e = .returned (.tuple #[sv on oa, .bool ob]) ∧ w.grownBy w' none := by
  subst e1 e2 e3
  obtain ⟨v, H, _⟩ := h
  cases hs : f.has (a, b) with
  | false =>
    rw [(Fo.hasnt hs).2.2.1]
    exact rparent_no (hideIt H) (hideIt hs) (hideIt hm)
  | true =>
    obtain ⟨D, A, C, i, e', j, n, P, hD⟩ := pos_of G hs
    have hl : (f.flat 0).length = n := by rw [Fo.flat_len]; exact P.len
    rcases H.row.form hl with ⟨_, h0⟩ | ⟨g, cap, rfl, _⟩
    · have := P.lt; omega
    · exact rparent_yes (hideIt H) (hideIt P) (hideIt hm) (by have := P.len; omega) P.lt _ (hideIt (P.parent hs).symm)

/-! ### Kin, Children -/
/-- Those of the first c knots of the kin that are as deep as asked. -/
def M.some9 (D : List Kn) (c : Nat) (t : Kn → Bool) : List (Int × Int) := ((D.take c).filter t).map Prod.fst
theorem M.some9_succ {D : List Kn} {c : Nat} {t : Kn → Bool} {x : Kn} (h : D[c]? = some x) : M.some9 D (c + 1) t = M.some9 D c t ++ (if t x then [x.1] else []) := by
  unfold M.some9
  rw [List.take_add_one, h, List.filter_append, List.map_append]
  congr 1
  simp only [Option.toList_some, List.filter_cons, List.filter_nil]
  split <;> rfl
theorem M.some9_len (D : List Kn) (c : Nat) (t : Kn → Bool) : (M.some9 D c t).length ≤ c := by
  unfold M.some9
  rw [List.length_map]
  exact Nat.le_trans (List.length_filter_le _ _) (List.length_take_le _ _)

set_option maxHeartbeats 400000 in
theorem rkin_no {w : World} {p : Nat} {v : Value} {f : Fo} {a b : Int} (H : Hid (RA u tc w p v (f.flat 0))) (hh : Hid (f.has (a, b) = false)) (hm : Hid (f.len ≤ 60)) :
    Calls Tryz.prog 15 #[.pointer (some ⟨p, 1, none⟩), sv a b] w fun e w' => e = .returned (.slice none 0 0) ∧ w.grownBy w' none := by
  go_enter Tryz.func15, Tryz.ntmps15
  go_upto_region 1 with fail
  obtain ⟨W, hW, X, g0⟩ := sboxNew w a b
  rw [hW]
  clear hW
  have x0 := X.at0
  have x1 := X.at1
  go_wp2_with fail
  refine (at_no (H.out.kept g0) hh.out hm.out).mono ?_
  rintro _ w1 ⟨rfl, g1⟩
  go_wp2
  go_ret
  exact ⟨rfl, gbTrans g0 g1⟩
set_option maxHeartbeats 400000 in
theorem rchildren_no {w : World} {p : Nat} {v : Value} {f : Fo} {a b : Int} (H : Hid (RA u tc w p v (f.flat 0))) (hh : Hid (f.has (a, b) = false)) (hm : Hid (f.len ≤ 60)) :
    Calls Tryz.prog 56 #[.pointer (some ⟨p, 1, none⟩), sv a b] w fun e w' => e = .returned (.slice none 0 0) ∧ w.grownBy w' none := by
  go_enter Tryz.func56, Tryz.ntmps56
  go_upto_region 1 with fail
  obtain ⟨W, hW, X, g0⟩ := sboxNew w a b
  rw [hW]
  clear hW
  have x0 := X.at0
  have x1 := X.at1
  go_wp2_with fail
  refine (at_no (H.out.kept g0) hh.out hm.out).mono ?_
  rintro _ w1 ⟨rfl, g1⟩
  go_wp2
  go_ret
  exact ⟨rfl, gbTrans g0 g1⟩
set_option maxRecDepth 10000 in
set_option maxHeartbeats 1000000 in
theorem rkin_yes {w : World} {p g cap : Nat} {f : Fo} {a b : Int} {D : Fo} {A C : List Kn} {i e j n : Nat} (H : Hid (RA u tc w p (.slice (some ⟨g, 0, none⟩) n cap) (f.flat 0))) (P : Hid (Pos f (a, b) D A C i e j n)) (hm : Hid (f.len ≤ 60)) (hn60 : n ≤ 60) (hin : i < n) (hie : i < e) (hen : e ≤ n) :
    Calls Tryz.prog 15 #[.pointer (some ⟨p, 1, none⟩), sv a b] w fun x w' => ∃ v, x = .returned v ∧ Lst w' w.heap.size v (M.some9 (D.flat (j + 1)) (e - (i + 1)) (fun _ => true)) ∧ w.grownBy w' none := by
  have hl : Hid ((f.flat 0).length = n) := hideIt (by rw [Fo.flat_len]; exact P.out.len)
  go_enter Tryz.func15, Tryz.ntmps15
  go_upto_region 1 with fail
  obtain ⟨W, hW, X, g0⟩ := sboxNew w a b
  rw [hW]
  clear hW
  have x0 := X.at0
  have x1 := X.at1
  go_wp2_with fail
  refine (at_yes (H.out.kept g0) P.out hm.out).mono ?_
  rintro _ w1 ⟨rfl, g1⟩
  have hi0 : ¬ (i : Int) < 0 := by omega
  have G1 := gbTrans g0 g1
  clear x0 x1
  go_wp2
  go_loopg [5, 7] (e - (i + 1)) (fun y v k wr => ∃ c : Nat, c + y = e - (i + 1) ∧ k = .int .i64 ((i + 1 + c : Nat) : Int) ∧ Hid (Lst wr w.heap.size v (M.some9 (D.flat (j + 1)) c (fun _ => true))) ∧ w.grownBy wr none)
  case atStart => exact ⟨0, by omega, by go_num, hideIt (Lst.nil _ _), G1⟩
  case round =>
    obtain ⟨c, hc, rfl, HL, gw⟩ := hrel
    obtain ⟨k, hk⟩ : ∃ k, i + 1 + c = k := ⟨_, rfl⟩
    rw [hk]
    go_wp2_with fail
    refine (end_is (H.out.kept gw) P.out hm.out).mono ?_
    rintro _ w2 ⟨rfl, g2⟩
    have G2 := gbTrans gw g2
    by_cases hke : k < e
    · have hke' : (k : Int) < (e : Int) := by omega
      have hkn' : (k : Int) < (n : Int) := by omega
      obtain ⟨⟨⟨p1, p2⟩, q⟩, hq⟩ : ∃ q, (f.flat 0)[k]? = some q := ⟨_, List.getElem?_eq_getElem (by rw [hl.out]; omega)⟩
      have hkin : (D.flat (j + 1))[c]? = some ((p1, p2), q) := by rw [← P.out.kin c (by omega), hk]; exact hq
      have c0 := (H.out.kept G2).cell
      obtain ⟨e0, e1, _⟩ := (H.out.kept G2).row.el hl.out k _ hq
      simp only at e0 e1
      have Hs := hideIt (M.some9_succ (t := fun _ => true) hkin)
      have hown := HL.out.lt
      have ga := gbAlloc w2 (.cells #[.int .i64 p1, .int .i64 p2] 31) none
      have HKL := hideIt (HL.out.kept (gbTrans g2 ga))
      have HR1 := hideIt (rowOne w2 p1 p2)
      have hB : Hid (w.heap.size ≤ (w2.alloc (.cells #[.int .i64 p1, .int .i64 p2] 31)).heap.size) := hideIt (gbTrans G2 ga).size
      have hdl : Hid ((M.some9 (D.flat (j + 1)) c (fun _ => true)).length + 1 ≤ 1000000) := hideIt (by have := M.some9_len (D.flat (j + 1)) c (fun _ => true); omega)
      have hk1 : (k : Int) + 1 = ((i + 1 + (c + 1) : Nat) : Int) := by omega
      clear hq hkin
      go_wp2_with (at_builtin; refine wpList_append_slot_at rfl (.tmp 22) (.tmp 31) rfl w.heap.size u5 _ rfl HKL.out ⟨w2.heap.size, 0, none⟩ 1 1 [(p1, p2)] rfl rfl HR1.out hdl.out hB.out ?_; intro v4 w4 l4 g4 o4; have HL4 : Hid (Lst w4 w.heap.size v4 (M.some9 (D.flat (j + 1)) c (fun _ => true) ++ [(p1, p2)])) := hideIt l4; clear l4)
      have G4 : w.grownBy w4 none := gbNews (gbTrans (gbAny (gbTrans G2 ga) _) g4) (fun z ez => (hown z ez).1)
      go_roundg (gk - 1)
      case rel => exact ⟨c + 1, by omega, by go_num, hideIt (by rw [Hs.out]; exact HL4.out), G4⟩
      case measure => omega
    · have hke' : ¬ (k : Int) < (e : Int) := by omega
      obtain rfl : c = e - (i + 1) := by omega
      go_wp2
      go_ret
      exact ⟨_, rfl, HL.out.kept g2, G2⟩

set_option maxRecDepth 10000 in
set_option maxHeartbeats 1000000 in
theorem rchildren_yes {w : World} {p g cap : Nat} {f : Fo} {a b : Int} {D : Fo} {A C : List Kn} {i e j n : Nat} (H : Hid (RA u tc w p (.slice (some ⟨g, 0, none⟩) n cap) (f.flat 0))) (P : Hid (Pos f (a, b) D A C i e j n)) (hm : Hid (f.len ≤ 60)) (hn60 : n ≤ 60) (hin : i < n) (hie : i < e) (hen : e ≤ n) :
    Calls Tryz.prog 56 #[.pointer (some ⟨p, 1, none⟩), sv a b] w fun x w' => ∃ v, x = .returned v ∧ Lst w' w.heap.size v (M.some9 (D.flat (j + 1)) (e - (i + 1)) (fun x => x.2 == j + 1)) ∧ w.grownBy w' none := by
  have hl : Hid ((f.flat 0).length = n) := hideIt (by rw [Fo.flat_len]; exact P.out.len)
  have hjn := P.out.dp
  obtain ⟨j1, hj1⟩ : ∃ j1, j + 1 = j1 := ⟨_, rfl⟩
  have Hj1 := hideIt hj1
  have hj1' : (j : Int) + 1 = (j1 : Int) := by omega
  have hwj : IntKind.i64.wrap (j1 : Int) = (j1 : Int) := by rw [IntKind.wrap_i64]; omega
  go_enter Tryz.func56, Tryz.ntmps56
  go_upto_region 1 with fail
  obtain ⟨W, hW, X, g0⟩ := sboxNew w a b
  rw [hW]
  clear hW
  have x0 := X.at0
  have x1 := X.at1
  go_wp2_with fail
  refine (at_yes (H.out.kept g0) P.out hm.out).mono ?_
  rintro _ w1 ⟨rfl, g1⟩
  have hi0 : ¬ (i : Int) < 0 := by omega
  have G1 := gbTrans g0 g1
  have Hhj := hideIt hj1'
  clear x0 x1 hj1 hj1'
  go_wp2
  go_loopg [5, 7] (e - (i + 1)) (fun y v k wr => ∃ c : Nat, c + y = e - (i + 1) ∧ k = .int .i64 ((i + 1 + c : Nat) : Int) ∧ Hid (Lst wr w.heap.size v (M.some9 (D.flat (j + 1)) c (fun x => x.2 == j + 1))) ∧ w.grownBy wr none)
  case atStart => exact ⟨0, by omega, by go_num, hideIt (Lst.nil _ _), G1⟩
  case round =>
    obtain ⟨c, hc, rfl, HL, gw⟩ := hrel
    obtain ⟨k, hk⟩ : ∃ k, i + 1 + c = k := ⟨_, rfl⟩
    rw [hk]
    go_wp2_with fail
    refine (end_is (H.out.kept gw) P.out hm.out).mono ?_
    rintro _ w2 ⟨rfl, g2⟩
    have G2 := gbTrans gw g2
    by_cases hke : k < e
    · have hke' : (k : Int) < (e : Int) := by omega
      have hkn' : (k : Int) < (n : Int) := by omega
      have hil : (i : Int) < (n : Int) := by omega
      obtain ⟨⟨⟨p1, p2⟩, q⟩, hq⟩ : ∃ q, (f.flat 0)[k]? = some q := ⟨_, List.getElem?_eq_getElem (by rw [hl.out]; omega)⟩
      have hkin : (D.flat (j + 1))[c]? = some ((p1, p2), q) := by rw [← P.out.kin c (by omega), hk]; exact hq
      have k0 : ∀ y : Gr w2, y.w.cell? ⟨p, 1, none⟩ = some (.slice (some ⟨g, 0, none⟩) n cap) := fun y => (H.out.kept (gbTrans G2 y.g)).cell
      have e2 := fun y : Gr w2 => ((H.out.kept (gbTrans G2 y.g)).row.el hl.out k _ hq).2.2
      have i2 := fun y : Gr w2 => ((H.out.kept (gbTrans G2 y.g)).row.el hl.out i _ P.out.hi).2.2
      simp only at e2 i2
      have hs := M.some9_succ (t := fun x => x.2 == j + 1) hkin
      have HQ := hideIt hq
      have hj1' := Hhj.out
      clear hq hkin
      by_cases hqj : q = j1
      · have hqb : ((q : Int) == (j1 : Int)) = true := by simp [hqj]
        have hs' : M.some9 (D.flat (j + 1)) (c + 1) (fun x => x.2 == j + 1) = M.some9 (D.flat (j + 1)) c (fun x => x.2 == j + 1) ++ [(p1, p2)] := by rw [hs]; have := Hj1.out; simp [this, hqj]
        have Hs := hideIt hs'
        clear hs hs' hqj
        go_wp2
        refine wp_region_grown (by kernel_rfl) (by kernel_rfl) fun _ => ?_
        repeat (go_big_quiet_step (fail))
        refine wpQuiet_nil ?_
        rintro w3 ⟨⟨_, g3⟩, rfl⟩
        clear k0 e2 i2
        have G3 := gbTrans G2 g3
        have c0 := (H.out.kept G3).cell
        obtain ⟨e0, e1, _⟩ := (H.out.kept G3).row.el hl.out k _ HQ.out
        simp only at e0 e1
        have hown := HL.out.lt
        have ga := gbAlloc w3 (.cells #[.int .i64 p1, .int .i64 p2] 31) none
        have HKL := hideIt (HL.out.kept (gbTrans (gbTrans g2 g3) ga))
        have HR1 := hideIt (rowOne w3 p1 p2)
        have hB : Hid (w.heap.size ≤ (w3.alloc (.cells #[.int .i64 p1, .int .i64 p2] 31)).heap.size) := hideIt (gbTrans G3 ga).size
        have hdl : Hid ((M.some9 (D.flat (j + 1)) c (fun x => x.2 == j + 1)).length + 1 ≤ 1000000) := hideIt (by have := M.some9_len (D.flat (j + 1)) c (fun x => x.2 == j + 1); omega)
        go_wp2_with (at_builtin; refine wpList_append_slot_at rfl (.tmp 40) (.tmp 49) rfl w.heap.size u5 _ rfl HKL.out ⟨w3.heap.size, 0, none⟩ 1 1 [(p1, p2)] rfl rfl HR1.out hdl.out hB.out ?_; intro v4 w4 l4 g4 o4; have HL4 : Hid (Lst w4 w.heap.size v4 (M.some9 (D.flat (j + 1)) c (fun x => x.2 == j + 1) ++ [(p1, p2)])) := hideIt l4; clear l4)
        have G4 : w.grownBy w4 none := gbNews (gbTrans (gbAny (gbTrans G3 ga) _) g4) (fun z ez => (hown z ez).1)
        go_roundg (gk - 1)
        case rel => exact ⟨c + 1, by omega, by go_num, hideIt (by rw [Hs.out]; exact HL4.out), G4⟩
        case measure => omega
      · have hqb : ((q : Int) == (j1 : Int)) = false := by simp; omega
        have hs' : M.some9 (D.flat (j + 1)) (c + 1) (fun x => x.2 == j + 1) = M.some9 (D.flat (j + 1)) c (fun x => x.2 == j + 1) := by rw [hs]; have := Hj1.out; simp [this, hqj]
        have Hs := hideIt hs'
        clear hs hs' hqj
        go_wp2
        refine wp_region_grown (by kernel_rfl) (by kernel_rfl) fun _ => ?_
        repeat (go_big_quiet_step (fail))
        refine wpQuiet_nil ?_
        rintro w3 ⟨⟨_, g3⟩, rfl⟩
        clear k0 e2 i2
        go_wp2
        go_roundg (gk - 1)
        case rel => exact ⟨c + 1, by omega, by go_num, hideIt (by rw [Hs.out]; exact HL.out.kept (gbTrans g2 g3)), gbTrans G2 g3⟩
        case measure => omega
    · have hke' : ¬ (k : Int) < (e : Int) := by omega
      obtain rfl : c = e - (i + 1) := by omega
      go_wp2
      go_ret
      exact ⟨_, rfl, HL.out.kept g2, G2⟩

theorem rkin_is {w : World} {p : Nat} {O : Nat → Prop} {f : Fo} (h : RAt u tc w p O f) (G : Good f) (hm : f.len ≤ 60) (a b : Int) (L : List (Int × Int)) (hL : f.kin (a, b) = L) :
    Calls Tryz.prog 15 #[.pointer (some ⟨p, 1, none⟩), sv a b] w fun e w' => ∃ v', e = .returned v' ∧ Lst w' w.heap.size v' L ∧ w.grownBy w' none := by
  subst hL
  obtain ⟨v, H, _⟩ := h
  cases hs : f.has (a, b) with
  | false =>
    rw [(Fo.hasnt hs).2.2.2.2]
    refine (rkin_no (hideIt H) (hideIt hs) (hideIt hm)).mono ?_
    rintro _ w1 ⟨rfl, g1⟩
    exact ⟨_, rfl, Lst.nil _ _, g1⟩
  | true =>
    obtain ⟨D, A, C, i, e', j, n, P, hD⟩ := pos_of G hs
    have hl : (f.flat 0).length = n := by rw [Fo.flat_len]; exact P.len
    rcases H.row.form hl with ⟨_, h0⟩ | ⟨g, cap, rfl, _⟩
    · have := P.lt; omega
    · refine (rkin_yes (hideIt H) (hideIt P) (hideIt hm) (by have := P.len; omega) P.lt (by have := P.ei; omega) P.hen).mono ?_
      rintro _ w1 ⟨v', rfl, l1, g1⟩
      refine ⟨v', rfl, ?_, g1⟩
      have e1 : M.some9 (D.flat (j + 1)) (e' - (i + 1)) (fun _ => true) = f.kin (a, b) := by
        unfold M.some9
        rw [List.take_of_length_le (by rw [Fo.flat_len]; have := P.ei; omega)]
        rw [List.filter_eq_self.2 (fun _ _ => rfl), Fo.flat_fst, Fo.kin_sub9 hD]
      rw [e1] at l1
      exact l1
theorem rchildren_is {w : World} {p : Nat} {O : Nat → Prop} {f : Fo} (h : RAt u tc w p O f) (G : Good f) (hm : f.len ≤ 60) (a b : Int) (L : List (Int × Int)) (hL : f.children (a, b) = L) :
    Calls Tryz.prog 56 #[.pointer (some ⟨p, 1, none⟩), sv a b] w fun e w' => ∃ v', e = .returned v' ∧ Lst w' w.heap.size v' L ∧ w.grownBy w' none := by
  subst hL
  obtain ⟨v, H, _⟩ := h
  cases hs : f.has (a, b) with
  | false =>
    rw [(Fo.hasnt hs).2.2.2.1]
    refine (rchildren_no (hideIt H) (hideIt hs) (hideIt hm)).mono ?_
    rintro _ w1 ⟨rfl, g1⟩
    exact ⟨_, rfl, Lst.nil _ _, g1⟩
  | true =>
    obtain ⟨D, A, C, i, e', j, n, P, hD⟩ := pos_of G hs
    have hl : (f.flat 0).length = n := by rw [Fo.flat_len]; exact P.len
    rcases H.row.form hl with ⟨_, h0⟩ | ⟨g, cap, rfl, _⟩
    · have := P.lt; omega
    · refine (rchildren_yes (hideIt H) (hideIt P) (hideIt hm) (by have := P.len; omega) P.lt (by have := P.ei; omega) P.hen).mono ?_
      rintro _ w1 ⟨v', rfl, l1, g1⟩
      refine ⟨v', rfl, ?_, g1⟩
      have e1 : M.some9 (D.flat (j + 1)) (e' - (i + 1)) (fun x => x.2 == j + 1) = f.children (a, b) := by
        unfold M.some9
        rw [List.take_of_length_le (by rw [Fo.flat_len]; have := P.ei; omega), Fo.flat_tops]
        simp [Fo.children, hD]
      rw [e1] at l1
      exact l1

end T9
end Go.Proofs.YtdnoidnpiaadaaaGreat

/-
  THE CONTRACTS of package tree: youngestFirst, Kin.
-/
namespace Go.Proofs.YtdnoidnpiaadaaaGreat
set_option maxRecDepth 10000
namespace T9
open Go.RowKit
set_option linter.unusedVariables false

set_option maxHeartbeats 400000 in
theorem young_is {w : World} {p : Nat} {O : Nat → Prop} {f : Fo} (h : Hid (TAt w p O f)) (n i : Int) (hn : I64 n) (hi : I64 i) (L : List (Int × Int)) (hL : Hid (f.children (n, i) = L)) (hl : Hid (L.length ≤ 1000)) :
    Calls Tryz.prog 59 #[.pointer (some ⟨p, 0, none⟩), sv n i] w fun e w' => ∃ v', e = .returned v' ∧ Lst w' w.heap.size v' L.reverse ∧ w.grownBy w' none := by
  go_enter Tryz.func59, Tryz.ntmps59
  go_upto_region 1 with fail
  obtain ⟨W, hW, X, g0⟩ := sboxNew w n i
  rw [hW]
  clear hW
  have x0 := X.at0
  have x1 := X.at1
  go_wp2_with fail
  refine (children_is (h.out.kept g0) n i hn hi L hL.out hl.out).mono ?_
  rintro _ w1 ⟨v1, rfl, l1, g1⟩
  have gg := gbTrans g0 g1
  go_wp2_with fail
  refine (reverse_is l1 hl.out).mono ?_
  rintro _ w2 ⟨rfl, l2, g2⟩
  have HL2 := hideIt (l2.from g0.size)
  have G2 : w.grownBy w2 none := gbNews (gbTrans (gbAny gg _) g2) (fun k e => Nat.le_trans g0.size (l1.lt k e).1)
  go_wp2
  go_ret
  exact ⟨_, rfl, HL2.out, G2⟩

theorem _root_.Go.Proofs.YtdnoidnpiaadaaaGreat.Lst.src {w : World} {B n : Nat} {v : Value} {K : List (Int × Int)} (h : Lst w B v K) (hn : K.length = n) : ∃ ox c, v = .slice ox n c ∧ (ox = none → n = 0) ∧ ∀ ad, ox = some ad → Row w ad K := by
  subst hn
  rcases h.form with ⟨rfl, rfl⟩ | ⟨b, c, rfl, _, _, _, _, hr⟩
  · exact ⟨none, 0, rfl, fun _ => rfl, fun ad e => (nomatch e)⟩
  · exact ⟨some ⟨b, 0, none⟩, c, rfl, fun e => (nomatch e), fun ad e => by cases e; exact hr⟩

/-- What is told already, and what is still to be told. -/
structure Going (w wr : World) (f G : Fo) (kin todo : Value) (d all : List (Int × Int)) : Prop where
  kl : Lst wr w.heap.size kin d
  tl : Lst wr w.heap.size todo G.tops.reverse
  ap : ∀ g, kin.ownBlock = some g → todo.ownBlock ≠ some g
  eq : d ++ G.pre = all
  sub : ∀ x ∈ G.pre, f.sub x = G.sub x
  nd : G.pre.Nodup
  gr : w.grownBy wr none

set_option maxRecDepth 10000 in
set_option maxHeartbeats 1000000 in
theorem kin_core {w : World} {p : Nat} {O : Nat → Prop} {f : Fo} (h : Hid (TAt w p O f)) (GG : Hid (Good f)) (n i : Int) (hn : I64 n) (hi : I64 i) (hm : Hid (f.len ≤ 1000)) (D : Fo) (hD : Hid (f.children (n, i) = D.tops ∧ (∀ x ∈ D.pre, f.sub x = D.sub x) ∧ D.pre.Nodup)) (N : Nat) (hN : Hid (D.pre.length = N)) (hN2 : N ≤ 1000) :
    Calls Tryz.prog 14 #[.pointer (some ⟨p, 0, none⟩), sv n i] w fun e w' => ∃ v', e = .returned v' ∧ Lst w' w.heap.size v' D.pre ∧ w.grownBy w' none := by
  go_enter Tryz.func14, Tryz.ntmps14
  go_upto_region 1 with fail
  obtain ⟨W, hW, X, g0⟩ := sboxNew w n i
  rw [hW]
  clear hW
  have x0 := X.at0
  have x1 := X.at1
  go_wp2_with fail
  refine (young_is (hideIt (h.out.kept g0)) n i hn hi D.tops (hideIt hD.out.1) (hideIt (by rw [← hD.out.1]; exact Nat.le_trans (len_children _) hm.out))).mono ?_
  rintro _ w1 ⟨v1, rfl, l1, g1⟩
  have HG1 : Hid (Going w w1 f D (.slice none 0 0) v1 [] D.pre) := hideIt ⟨Lst.nil _ _, l1.from g0.size, fun g e => (nomatch e), rfl, hD.out.2.1, hD.out.2.2, gbTrans g0 g1⟩
  go_wp2
  go_loopg [5, 6] (N + 1) (fun y kin todo wr => ∃ (G : Fo) (d : List (Int × Int)), Hid (G.pre.length + 1 = y) ∧ Hid (Going w wr f G kin todo d D.pre))
  case atStart => exact ⟨D, [], hideIt (by rw [hN.out]), HG1⟩
  case round =>
    obtain ⟨G, d, hy, HG⟩ := hrel
    cases G using Fo.cs with
    | nil =>
      have ht := HG.out.tl
      rcases ht.form with ⟨rfl, _⟩ | ⟨g6, cap6, e6, _⟩
      · have HE := HG.out.eq
        simp only [Fo.pre, List.append_nil] at HE
        have HK := hideIt HG.out.kl
        rw [HE] at HK
        have Hgr := hideIt HG.out.gr
        clear ht HE
        go_wp2
        go_ret
        exact ⟨_, rfl, HK.out, Hgr.out⟩
      · simp only [Fo.tops, List.reverse_nil, List.length_nil] at e6
        subst e6
        have HE := HG.out.eq
        simp only [Fo.pre, List.append_nil] at HE
        have HK := hideIt HG.out.kl
        rw [HE] at HK
        have Hgr := hideIt HG.out.gr
        clear ht HE
        go_wp2
        go_ret
        exact ⟨_, rfl, HK.out, Hgr.out⟩
    | node bb oo x e r =>
      obtain ⟨a, c⟩ := x
      obtain ⟨k, hk⟩ : ∃ k, r.tops.length = k := ⟨_, rfl⟩
      have hrev : (Fo.node bb oo (a, c) e r).tops.reverse = r.tops.reverse ++ [(a, c)] := by simp [Fo.tops]
      have ht := HG.out.tl
      rw [hrev] at ht
      obtain ⟨g6, cap6, rfl⟩ := ht.shape (k := k + 1) (by simp [hk]) (by omega)
      have hlen : (r.tops.reverse ++ [(a, c)]).length = k + 1 := by simp [hk]
      obtain ⟨e0, e1, _, _⟩ := ht.el hlen k (a, c) (by rw [List.getElem?_append_right (by simp [hk])]; simp [hk])
      simp only at e0 e1
      have hcut := ht.cutTo hlen k (by omega)
      rw [List.take_left' (by simp [hk])] at hcut
      have HCut := hideIt hcut
      have hcap : k + 1 ≤ cap6 := by
        rcases ht.form with ⟨e, _⟩ | ⟨_, _, e, h2, _⟩
        · cases e
        · simp at e; rw [hlen] at h2; omega
      have hin := HG.out.sub (a, c) (by simp [Fo.pre])
      have hsub : f.sub (a, c) = some e := by rw [hin]; simp [Fo.sub]
      have hac := GG.out.num (a, c) (Fo.sub_in hsub)
      have hch : f.children (a, c) = e.tops := by unfold Fo.children; rw [hsub]
      have Hch := hideIt hch
      have hetl : Hid (e.tops.length ≤ 1000) := hideIt (by rw [← hch]; exact Nat.le_trans (len_children _) hm.out)
      have hdl : Hid (d.length + 1 ≤ 1000) := hideIt (by
        have h1 := HG.out.eq
        have h2 := congrArg List.length h1
        simp only [List.length_append, Fo.pre, List.length_cons] at h2
        have := hN.out
        omega)
      have hkl : Hid (k + e.tops.length ≤ 1000000) := hideIt (by
        have h2 := congrArg List.length HG.out.eq
        have h3 : ∀ g : Fo, g.tops.length ≤ g.pre.length := fun g => by
          induction g using Fo.ind with
          | nil => simp [Fo.tops]
          | node bb oo a d r _ ih => simp only [Fo.tops, Fo.pre, List.length_cons, List.length_append]; omega
        have h4 := h3 r
        have h5 := h3 e
        simp only [List.length_append, Fo.pre, List.length_cons] at h2
        have := hN.out
        omega)
      have Hk := hideIt hk
      obtain ⟨ha, hc⟩ := hac
      simp only at ha hc
      have hk1 : ((k : Int) + 1) - 1 = (k : Int) := by omega
      have hkb : k ≤ 1000 := by
        have := hkl.out
        have h2 := congrArg List.length HG.out.eq
        have h3 : ∀ g : Fo, g.tops.length ≤ g.pre.length := fun g => by
          induction g using Fo.ind with
          | nil => simp [Fo.tops]
          | node bb oo a d r _ ih => simp only [Fo.tops, Fo.pre, List.length_cons, List.length_append]; omega
        have h4 := h3 r
        simp only [List.length_append, Fo.pre, List.length_cons] at h2
        have := hN.out
        omega
      have hgl := (ht.lt g6 rfl).2
      clear hk hlen hcut hin hsub hch ht hrev
      go_upto_region 6 with fail
      obtain ⟨W2, hW2, X2, g2, hs2⟩ : ∃ W2, wr.alloc (.cells #[.int .i64 a, .int .i64 c] 31) = W2 ∧ SBox W2 wr.heap.size a c ∧ wr.grownBy W2 none ∧ W2.heap.size = wr.heap.size + 1 := ⟨_, rfl, SBox.made wr a c, gbAlloc _ _ _, by simp⟩
      rw [hW2]
      have HS2 := hideIt hs2
      clear hW2 e0 e1 hs2
      have y0 := X2.at0
      have y1 := X2.at1
      have ga := gbAlloc W2 (.cells #[.int .i64 a, .int .i64 c] 31) none
      have HKL : Hid (Lst (W2.alloc (.cells #[.int .i64 a, .int .i64 c] 31)) w.heap.size u5 d) := hideIt (HG.out.kl.kept (gbTrans g2 ga))
      have HR1 : Hid (Row (W2.alloc (.cells #[.int .i64 a, .int .i64 c] 31)) ⟨W2.heap.size, 0, none⟩ [(a, c)]) := hideIt (rowOne W2 a c)
      have hB : Hid (w.heap.size ≤ (W2.alloc (.cells #[.int .i64 a, .int .i64 c] 31)).heap.size) := hideIt (by have := HG.out.gr.size; have := HS2.out; simp; omega)
      have hdl2 : Hid (d.length + 1 ≤ 1000000) := hideIt (by have := hdl.out; omega)
      go_upto_region 7 with (at_builtin; refine wpList_append_slot_at rfl (.tmp 22) (.tmp 24) rfl w.heap.size u5 d rfl HKL.out ⟨W2.heap.size, 0, none⟩ 1 1 [(a, c)] rfl rfl HR1.out hdl2.out hB.out ?_; intro v3 w3 l3 g3 o3)
      have hs2 := HS2.out
      have u5lt : ∀ g, u5.ownBlock = some g → w.heap.size ≤ g ∧ g < wr.heap.size := fun g hg => HG.out.kl.lt g hg
      have gw3 : w.grownBy w3 none := gbNews (gbTrans (gbAny (gbTrans HG.out.gr (gbTrans g2 ga)) _) g3) (fun g hg => (u5lt g hg).1)
      have h6 : u5.ownBlock ≠ some g6 := fun e => HG.out.ap g6 e rfl
      have X3 : SBox w3 wr.heap.size a c := ⟨g3.cell (ga.cell X2.at0 (by simp)) (fun e => absurd (u5lt _ e.symm).2 (Nat.lt_irrefl _)), g3.cell (ga.cell X2.at1 (by simp)) (fun e => absurd (u5lt _ e.symm).2 (Nat.lt_irrefl _)), Nat.lt_of_lt_of_le X2.lt (gbTrans (gbAny ga _) g3).size⟩
      have hc3 : Lst w3 w.heap.size (.slice (some ⟨g6, 0, none⟩) k cap6) r.tops.reverse := World.ownsRow.kept (HCut.out.kept (gbTrans g2 ga)) g3 (.inr (fun e => h6 e.symm))
      have h36 : v3.ownBlock ≠ some g6 := by
        rcases o3 with e | e
        · rw [e]; exact h6
        · rw [e]; intro e2; simp at e2; omega
      have gd3 := gbDrew (gbRefl w3 none)
      have HYo := young_is (hideIt (h.out.kept (gbDrew gw3))) a c ha hc e.tops Hch hetl
      have T3 : (w3.drew.cell? ⟨wr.heap.size, 0, none⟩ = some (.int .i64 a) ∧ w3.drew.cell? ⟨wr.heap.size, 1, none⟩ = some (.int .i64 c)) := ⟨(X3.kept gd3).at0, (X3.kept gd3).at1⟩
      have hz3 : w3.drew.heap.size = w3.heap.size := rfl
      have HL3 := hideIt l3
      have HC3 := hideIt hc3
      have hkc : (k : Int) ≤ (cap6 : Int) := by omega
      have hg63 : g6 < w3.heap.size := (hc3.lt g6 rfl).2
      have hwr3 : wr.heap.size < w3.heap.size := X3.lt
      have h6wr : ¬ wr.heap.size = g6 := by omega
      obtain ⟨et, het⟩ : ∃ et, e.tops.reverse.length = et := ⟨_, rfl⟩
      have Het := hideIt het
      clear l3 hc3 y0 y1 hs2 het
      go_region_held3 (fun w' => w'.cell? ⟨wr.heap.size, 0, none⟩ = some (.int .i64 a) ∧ w'.cell? ⟨wr.heap.size, 1, none⟩ = some (.int .i64 c))
        (first | with_reducible exact T3 | with_reducible exact T4 | with_reducible exact T5 | fail)
        ((first | (go_at_call 59; refine HYo.mono ?_; rintro _ w4 ⟨v4, rfl, l4, g4⟩; have T4 : (w4.cell? ⟨wr.heap.size, 0, none⟩ = some (.int .i64 a) ∧ w4.cell? ⟨wr.heap.size, 1, none⟩ = some (.int .i64 c)) := ⟨((X3.kept gd3).kept g4).at0, ((X3.kept gd3).kept g4).at1⟩; obtain ⟨ox, cx, rfl, hno, hrow⟩ := l4.src Het.out; obtain ⟨v5, w5, hr5, l5, g5, o5⟩ := run_append_slots w4 w.heap.size (.slice (some ⟨g6, 0, none⟩) k cap6) r.tops.reverse (HC3.out.kept (gbTrans gd3 g4)) 51 ox et cx e.tops.reverse Het.out hno hrow (by rw [← Het.out, List.length_reverse, List.length_reverse, Hk.out]; exact hkl.out) (gbTrans (gbDrew gw3) g4).size; have g5' : w4.grownBy w5 (some g6) := g5; have X5 : SBox w5 wr.heap.size a c := ⟨g5'.cell ((X3.kept gd3).kept g4).at0 (fun e => h6wr (by simpa using e)), g5'.cell ((X3.kept gd3).kept g4).at1 (fun e => h6wr (by simpa using e)), Nat.lt_of_lt_of_le ((X3.kept gd3).kept g4).lt g5'.size⟩; have T5 : (w5.cell? ⟨wr.heap.size, 0, none⟩ = some (.int .i64 a) ∧ w5.cell? ⟨wr.heap.size, 1, none⟩ = some (.int .i64 c)) := ⟨X5.at0, X5.at1⟩; have HL5 := hideIt l5; have HO5 := hideIt o5; have HG4 := hideIt g4; have HG5 := hideIt g5'; clear l5 o5 g4 g5 l4 g5' X5) | (refine step_append_run rfl (.tmp 28) (.tmp 31) rfl (.slice (some ⟨g6, 0, none⟩) k cap6) (.slice ox et cx) rfl rfl v5 w5 hr5 ?_) | fail))
      rename_i hold
      clear hold T3 T4 T5 hr5 HYo
      have g6lo : w.heap.size ≤ g6 := (HC3.out.lt g6 rfl).1
      have G4 : w.grownBy w4 none := gbTrans (gbDrew gw3) HG4.out
      have HG' : Hid (Going w w5 f (Fo.app e r) v3 v5 (d ++ [(a, c)]) D.pre) := hideIt (by
        have hsn := fun x => Fo.sub_node HG.out.nd (x := x)
        obtain ⟨n1, n2, n3, n4, n5⟩ := Fo.nodup_node.1 HG.out.nd
        refine ⟨World.ownsRow.kept (HL3.out.kept (gbTrans gd3 HG4.out)) HG5.out (.inr h36), ?_, ?_, ?_, ?_, ?_, gbNew (gbTrans (gbAny G4 _) HG5.out) g6lo⟩
        · rw [Fo.tops_app, List.reverse_append]; exact HL5.out
        · intro g hg hg'
          rcases HO5.out with e1 | e1
          · rw [e1] at hg'; cases hg'; exact h36 hg
          · rw [e1] at hg'
            cases hg'
            have h1 := (HL3.out.lt _ hg).2
            have h2 := HG4.out.size
            omega
        · have := HG.out.eq
          simp only [Fo.pre] at this
          rw [Fo.pre_app, ← this]
          simp
        · intro x hx
          rw [Fo.pre_app, List.mem_append] at hx
          rw [HG.out.sub x (by simp only [Fo.pre, List.mem_cons, List.mem_append]; exact .inr hx), Fo.sub_app]
          rcases hx with hx | hx
          · rw [(hsn x).1 hx]
            obtain ⟨z, hz⟩ := Fo.sub_some.2 hx
            rw [hz]; rfl
          · rw [(hsn x).2 hx, Fo.sub_none.2 (fun e' => n5 x e' hx)]; rfl
        · rw [Fo.pre_app]
          exact List.nodup_append.2 ⟨n3, n4, fun x hx y hy e' => n5 x hx (e' ▸ hy)⟩)
      have hy' : Hid ((Fo.app e r).pre.length + 1 = gk - 1) := hideIt (by
        have := hy.out
        simp only [Fo.pre, List.length_cons, List.length_append] at this
        rw [Fo.pre_app, List.length_append]
        omega)
      have hgk : 0 < gk := by have := hy.out; omega
      clear HG5 HG4 HO5 HL5 HL3 HC3 hy HG HCut
      go_wp2
      go_roundg (gk - 1)
      case rel => exact ⟨Fo.app e r, d ++ [(a, c)], hy', HG'⟩
      case measure => omega

theorem kin_is {w : World} {p : Nat} {O : Nat → Prop} {f : Fo} (h : TAt w p O f) (G : Good f) (n i : Int) (hn : I64 n) (hi : I64 i) (hm : f.len ≤ 1000) (L : List (Int × Int)) (hL : f.kin (n, i) = L) :
    Calls Tryz.prog 14 #[.pointer (some ⟨p, 0, none⟩), sv n i] w fun e w' => ∃ v', e = .returned v' ∧ Lst w' w.heap.size v' L ∧ w.grownBy w' none := by
  subst hL
  unfold Fo.kin
  cases hs : f.sub (n, i) with
  | none =>
    exact kin_core (hideIt h) (hideIt G) n i hn hi (hideIt hm) .nil (hideIt ⟨by unfold Fo.children; rw [hs]; rfl, fun x hx => (nomatch hx), by simp [Fo.pre]⟩) 0 (hideIt rfl) (by omega)
  | some d =>
    have h1 := (Fo.nodup_sub G.nd hs).1
    have h2 := Fo.sub_len hs
    exact kin_core (hideIt h) (hideIt G) n i hn hi (hideIt hm) d (hideIt ⟨by unfold Fo.children; rw [hs], fun x hx => Fo.sub_sub G.nd hs hx, h1⟩) _ (hideIt rfl) (by unfold Fo.len at hm; omega)

end T9
end Go.Proofs.YtdnoidnpiaadaaaGreat
