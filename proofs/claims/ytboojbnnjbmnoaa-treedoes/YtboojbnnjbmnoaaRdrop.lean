/-
  THE DOCUMENT'S SIDE (donjonref09): Drop.
-/
import Derived.Test.YtboojbnnjbmnoaaRact2
namespace Go.Proofs.Ytboojbnnjbmnoaa
open Go.RowKit
set_option linter.unusedVariables false

namespace M
/-- A row without the knot i, those between i and e one level up; the first one has the number k. -/
def dr (i e : Nat) : List Kn → Nat → List Kn
  | [], _ => []
  | x :: l, k => (if k = i then [] else [if i < k ∧ k < e then (x.1, x.2 - 1) else x]) ++ dr i e l (k + 1)
theorem dr_app (i e : Nat) (l m : List Kn) (k : Nat) : dr i e (l ++ m) k = dr i e l k ++ dr i e m (k + l.length) := by
  induction l generalizing k with
  | nil => simp [dr]
  | cons x l ih => simp only [List.cons_append, dr, ih, List.length_cons]; rw [List.append_assoc, show k + (l.length + 1) = k + 1 + l.length by omega]
theorem dr_lo (i e : Nat) (l : List Kn) (k : Nat) (h : k + l.length ≤ i) : dr i e l k = l := by
  induction l generalizing k with
  | nil => rfl
  | cons x l ih =>
    simp only [List.length_cons] at h
    simp only [dr]
    rw [if_neg (by omega), if_neg (by omega), ih (k + 1) (by omega)]
    rfl
theorem dr_mid (i e : Nat) (l : List Kn) (k : Nat) (h : i < k) (h2 : k + l.length ≤ e) : dr i e l k = l.map fun x => (x.1, x.2 - 1) := by
  induction l generalizing k with
  | nil => rfl
  | cons x l ih =>
    simp only [List.length_cons] at h2
    simp only [dr]
    rw [if_neg (by omega), if_pos (by omega), ih (k + 1) (by omega) (by omega)]
    rfl
theorem dr_hi (i e : Nat) (l : List Kn) (k : Nat) (h : i < k) (h2 : e ≤ k) : dr i e l k = l := by
  induction l generalizing k with
  | nil => rfl
  | cons x l ih =>
    simp only [dr]
    rw [if_neg (by omega), if_neg (by omega), ih (k + 1) (by omega) (by omega)]
    rfl
theorem dr_take (i e : Nat) (L : List Kn) (c : Nat) (x : Kn) (h : L[c]? = some x) : dr i e (L.take (c + 1)) 0 = dr i e (L.take c) 0 ++ (if c = i then [] else [if i < c ∧ c < e then (x.1, x.2 - 1) else x]) := by
  have hl : (L.take c).length = c := by rw [List.length_take]; have := (List.getElem?_eq_some_iff.1 h).1; omega
  rw [List.take_add_one, h, dr_app, hl]
  simp [dr]
theorem dr_len (i e : Nat) (l : List Kn) (k : Nat) : (dr i e l k).length ≤ l.length := by
  induction l generalizing k with
  | nil => simp [dr]
  | cons x l ih =>
    simp only [dr, List.length_append, List.length_cons]
    have := ih (k + 1)
    split <;> simp <;> omega
end M
theorem Pos.dr {f : Fo} {s : Int × Int} {d : Fo} {A C : List Kn} {i e j n : Nat} (P : Pos f s d A C i e j n) : M.dr i e (f.flat 0) 0 = (Fo.drop s f).flat 0 := by
  have h1 := P.ei
  rw [P.at'.drop, P.at'.eq, M.dr_app, M.dr_lo i e A 0 (by rw [P.ai]; omega), P.ai, Fo.flat_up d j]
  congr 1
  simp only [M.dr, Nat.zero_add, if_true, List.nil_append]
  rw [M.dr_app, M.dr_mid i e _ (i + 1) (by omega) (by rw [Fo.flat_len]; omega), M.dr_hi i e C _ (by omega) (by rw [Fo.flat_len]; omega)]

/-- A knot in a box. -/
structure KBox (w : World) (x : Nat) (a b : Int) (d : Nat) : Prop where
  at0 : w.cell? ⟨x, 0, none⟩ = some (.int .i64 a)
  at1 : w.cell? ⟨x, 1, none⟩ = some (.int .i64 b)
  at2 : w.cell? ⟨x, 2, none⟩ = some (.int .i64 d)
  lt : x < w.heap.size
  fr : ∀ i, w.frozen? ⟨x, i, none⟩ = false
theorem kboxNew (w : World) (a b : Int) (d : Nat) : ∃ W, w.alloc (.cells #[.int .i64 a, .int .i64 b, .int .i64 d] 36) = W ∧ KBox W w.heap.size a b d ∧ w.grownBy W none := ⟨_, rfl, ⟨by simp, by simp, by simp, by simp, fun i => by simp⟩, gbAlloc _ _ _⟩
theorem KBox.dec {w : World} {x : Nat} {a b : Int} {d : Nat} (h : KBox w x a b d) (d' : Nat) : ∃ W, w.setCell ⟨x, 2, none⟩ (.int .i64 d') = W ∧ KBox W x a b d' ∧ w.grownBy W (some x) :=
  ⟨_, rfl, ⟨(World.cell?_setCell_other _ _ _ _ (by simp)).trans h.at0, (World.cell?_setCell_other _ _ _ _ (by simp)).trans h.at1, World.cell?_setCell_same _ _ _ h.at2, by simpa [World.setCell] using h.lt, fun i => by simpa using h.fr i⟩, gbSetCell _ _ _ _⟩

set_option maxHeartbeats 400000 in
theorem rdrop_none {w : World} {p : Nat} {v : Value} {f : Fo} {a b : Int} (H : Hid (RA w p v (f.flat 0))) (hh : Hid (f.has (a, b) = false)) (hm : Hid (f.len ≤ 60)) :
    Calls Try.prog 24 #[.pointer (some ⟨p, 0, none⟩), sv a b] w fun e w' => e = .returned (.int .i64 3) ∧ w.grownBy w' none := by
  go_enter Try.func24, Try.ntmps24
  go_upto_region 1 with fail
  obtain ⟨W, hW, X, g0⟩ := sboxNew w a b
  rw [hW]
  clear hW
  have x0 := X.at0
  have x1 := X.at1
  go_wp2_with fail
  refine (at_no (H.out.kept g0) hh.out hm.out).mono ?_
  rintro _ w1 ⟨rfl, g1⟩
  go_wp2
  go_ret
  exact ⟨rfl, gbTrans g0 g1⟩

set_option maxRecDepth 10000 in
set_option maxHeartbeats 4000000 in
theorem rdrop_core {w : World} {p g cap : Nat} {f : Fo} {a b : Int} {D : Fo} {A C : List Kn} {i e j n : Nat} (H : Hid (RA w p (.slice (some ⟨g, 0, none⟩) n cap) (f.flat 0))) (P : Hid (Pos f (a, b) D A C i e j n)) (hm : Hid (f.len ≤ 60)) (hn60 : n ≤ 60) (hin : i < n) (hie : i < e) (hen : e ≤ n) :
    Calls Try.prog 24 #[.pointer (some ⟨p, 0, none⟩), sv a b] w fun x w' => x = .returned (.int .i64 0) ∧ ∃ v', RA w' p v' (M.dr i e (f.flat 0) 0) ∧ Fr (fun x => x = p) w w' ∧ ∀ g, v'.ownBlock = some g → w.heap.size ≤ g ∧ g < w'.heap.size := by
  have hl : Hid ((f.flat 0).length = n) := hideIt (by rw [Fo.flat_len]; exact P.out.len)
  go_enter Try.func24, Try.ntmps24
  go_upto_region 1 with fail
  obtain ⟨W, hW, X, g0⟩ := sboxNew w a b
  rw [hW]
  clear hW
  have x0 := X.at0
  have x1 := X.at1
  go_wp2_with fail
  refine (at_yes (H.out.kept g0) P.out hm.out).mono ?_
  rintro _ w1 ⟨rfl, g1⟩
  have hi0 : ¬ (i : Int) < 0 := by omega
  go_wp2_with fail
  refine (end_is (H.out.kept (gbTrans g0 g1)) P.out hm.out).mono ?_
  rintro _ w2 ⟨rfl, g2⟩
  have G2 := gbTrans (gbTrans g0 g1) g2
  clear x0 x1
  go_wp2
  go_loopg [7, 8] n (fun y v k wr => ∃ c : Nat, c + y = n ∧ k = .int .i64 c ∧ Hid (Lst3 wr w.heap.size v (M.dr i e ((f.flat 0).take c) 0)) ∧ w.grownBy wr none)
  case atStart => exact ⟨0, by omega, rfl, hideIt (by rw [List.take_zero]; exact Lst3.nil _ _), G2⟩
  case round =>
    obtain ⟨c, hc, rfl, HL, gw⟩ := hrel
    have Hr := hideIt (H.out.kept gw)
    have c0 := Hr.out.cell
    by_cases hcn : c < n
    · have hlt' : (c : Int) < (n : Int) := by omega
      obtain ⟨⟨⟨p1, p2⟩, q⟩, hq⟩ : ∃ q, (f.flat 0)[c]? = some q := ⟨_, List.getElem?_eq_getElem (by rw [hl.out]; exact hcn)⟩
      obtain ⟨e0, e1, e2⟩ := Hr.out.row.el hl.out c _ hq
      simp only at e0 e1 e2
      have HQ := hideIt hq
      have hdt := hideIt (M.dr_take i e _ c _ hq)
      have hown := HL.out.lt
      have hdl : Hid ((M.dr i e ((f.flat 0).take c) 0).length + 1 ≤ 100000) := hideIt (by have h1 := M.dr_len i e ((f.flat 0).take c) 0; have h2 := List.length_take_le c (f.flat 0); omega)
      go_upto_region 10 with fail
      obtain ⟨W3, hW3, K3, g3⟩ := kboxNew wr p1 p2 q
      rw [hW3]
      clear hW3 e0 e1 e2
      have G3 := gbTrans gw g3
      by_cases hci : c = i
      · have h1 : ¬ (i : Int) < (c : Int) := by omega
        have h1' : ((c : Int) != (i : Int)) = false := by simp [hci]
        have Hci := hideIt hci
        clear hq hci c0
        go_wp2
        go_roundg (gk - 1)
        case rel => exact ⟨c + 1, by omega, by go_num, hideIt (by rw [hdt.out, if_pos Hci.out, List.append_nil]; exact HL.out.kept g3), G3⟩
        case measure => omega
      · have h1' : ((c : Int) != (i : Int)) = true := by simp; omega
        by_cases hmid : i < c ∧ c < e
        · obtain ⟨m1, m2⟩ := hmid
          have m1' : (i : Int) < (c : Int) := by omega
          have m2' : (c : Int) < (e : Int) := by omega
          have hqj := P.out.hin c _ m1 m2 hq
          simp only at hqj
          obtain ⟨q1, hq1⟩ : ∃ q1, q = q1 + 1 := ⟨q - 1, by omega⟩
          subst hq1
          have hqq : ((q1 + 1 : Nat) : Int) - 1 = (q1 : Int) := by omega
          have hqs := P.out.dp
          have hqb : q1 ≤ 1000 := by have := Good.depth hm.out _ (List.mem_of_getElem? hq); simp only at this; omega
          have b2 := K3.at2
          have bf := K3.fr
          have hite : Hid ((if c = i then [] else [if i < c ∧ c < e then (((p1, p2), q1 + 1 - 1) : Kn) else ((p1, p2), q1 + 1)]) = [((p1, p2), q1)]) := hideIt (by rw [if_neg hci, if_pos ⟨m1, m2⟩]; rfl)
          clear hq hci hqj hqs c0
          go_upto_region 12 with fail
          obtain ⟨W4, hW4, K4, g4⟩ := K3.dec q1
          rw [hW4]
          clear hW4 b2 bf
          have G4 : w.grownBy W4 none := gbNew (gbTrans (gbAny G3 _) g4) gw.size
          have b0 := K4.at0
          have b1 := K4.at1
          have b2 := K4.at2
          have HL4 : Hid (Lst3 W4 w.heap.size u7 (M.dr i e ((f.flat 0).take c) 0)) := hideIt (World.ownsRow.kept (HL.out.kept g3) g4 (by
            cases ev : u7.ownBlock with
            | none => exact .inl rfl
            | some z => exact .inr (by have := (hown z ev).2; simp; omega)))
          have ga := gbAlloc W4 (.cells #[.int .i64 p1, .int .i64 p2, .int .i64 q1] 36) none
          have HL5 := hideIt (HL4.out.kept ga)
          have HR5 : Hid (∀ ad, some (⟨W4.heap.size, 0, none⟩ : Addr) = some ad → Row3 (W4.alloc (.cells #[.int .i64 p1, .int .i64 p2, .int .i64 q1] 36)) ad [((p1, p2), q1)]) := hideIt (by rintro ad ⟨⟩; exact row3One W4 p1 p2 q1)
          have Hno5 : Hid (some (⟨W4.heap.size, 0, none⟩ : Addr) = none → 1 = 0) := hideIt (by simp)
          have hB5 : Hid (w.heap.size ≤ (W4.alloc (.cells #[.int .i64 p1, .int .i64 p2, .int .i64 q1] 36)).heap.size) := hideIt (gbTrans G4 ga).size
          go_wp2_with (at_builtin; refine wpList_append3 rfl (.tmp 49) (.tmp 51) rfl w.heap.size u7 (M.dr i e ((f.flat 0).take c) 0) rfl HL5.out (some ⟨W4.heap.size, 0, none⟩) 1 1 [((p1, p2), q1)] rfl rfl Hno5.out HR5.out hdl.out hB5.out ?_; intro v6 w6 l6 g6 o6; have HL6 : Hid (Lst3 w6 w.heap.size v6 (M.dr i e ((f.flat 0).take c) 0 ++ [((p1, p2), q1)])) := hideIt l6; clear l6)
          have G6 : w.grownBy w6 none := gbNews (gbTrans (gbAny (gbTrans G4 ga) _) g6) (fun k ek => (hown k ek).1)
          go_roundg (gk - 1)
          case rel => exact ⟨c + 1, by omega, by go_num, hideIt (by rw [hdt.out, hite.out]; exact HL6.out), G6⟩
          case measure => omega
        · have hite : Hid ((if c = i then [] else [if i < c ∧ c < e then (((p1, p2), q - 1) : Kn) else ((p1, p2), q)]) = [((p1, p2), q)]) := hideIt (by rw [if_neg hci, if_neg hmid])
          have hqb : q ≤ 1000 := by have := Good.depth hm.out _ (List.mem_of_getElem? hq); exact this
          have b0 := K3.at0
          have b1 := K3.at1
          have b2 := K3.at2
          have HL4 := hideIt (HL.out.kept g3)
          have ga := gbAlloc W3 (.cells #[.int .i64 p1, .int .i64 p2, .int .i64 q] 36) none
          have HL5 := hideIt (HL4.out.kept ga)
          have HR5 : Hid (∀ ad, some (⟨W3.heap.size, 0, none⟩ : Addr) = some ad → Row3 (W3.alloc (.cells #[.int .i64 p1, .int .i64 p2, .int .i64 q] 36)) ad [((p1, p2), q)]) := hideIt (by rintro ad ⟨⟩; exact row3One W3 p1 p2 q)
          have Hno5 : Hid (some (⟨W3.heap.size, 0, none⟩ : Addr) = none → 1 = 0) := hideIt (by simp)
          have hB5 : Hid (w.heap.size ≤ (W3.alloc (.cells #[.int .i64 p1, .int .i64 p2, .int .i64 q] 36)).heap.size) := hideIt (gbTrans G3 ga).size
          by_cases hlo : i < c
          · have m1' : (i : Int) < (c : Int) := by omega
            have m2' : ¬ (c : Int) < (e : Int) := by omega
            clear hq hci hmid c0
            go_wp2_with (at_builtin; refine wpList_append3 rfl (.tmp 49) (.tmp 51) rfl w.heap.size u7 (M.dr i e ((f.flat 0).take c) 0) rfl HL5.out (some ⟨W3.heap.size, 0, none⟩) 1 1 [((p1, p2), q)] rfl rfl Hno5.out HR5.out hdl.out hB5.out ?_; intro v6 w6 l6 g6 o6; have HL6 : Hid (Lst3 w6 w.heap.size v6 (M.dr i e ((f.flat 0).take c) 0 ++ [((p1, p2), q)])) := hideIt l6; clear l6)
            have G6 : w.grownBy w6 none := gbNews (gbTrans (gbAny (gbTrans G3 ga) _) g6) (fun k ek => (hown k ek).1)
            go_roundg (gk - 1)
            case rel => exact ⟨c + 1, by omega, by go_num, hideIt (by rw [hdt.out, hite.out]; exact HL6.out), G6⟩
            case measure => omega
          · have m1' : ¬ (i : Int) < (c : Int) := by omega
            clear hq hci hmid c0
            go_wp2_with (at_builtin; refine wpList_append3 rfl (.tmp 49) (.tmp 51) rfl w.heap.size u7 (M.dr i e ((f.flat 0).take c) 0) rfl HL5.out (some ⟨W3.heap.size, 0, none⟩) 1 1 [((p1, p2), q)] rfl rfl Hno5.out HR5.out hdl.out hB5.out ?_; intro v6 w6 l6 g6 o6; have HL6 : Hid (Lst3 w6 w.heap.size v6 (M.dr i e ((f.flat 0).take c) 0 ++ [((p1, p2), q)])) := hideIt l6; clear l6)
            have G6 : w.grownBy w6 none := gbNews (gbTrans (gbAny (gbTrans G3 ga) _) g6) (fun k ek => (hown k ek).1)
            go_roundg (gk - 1)
            case rel => exact ⟨c + 1, by omega, by go_num, hideIt (by rw [hdt.out, hite.out]; exact HL6.out), G6⟩
            case measure => omega
    · have hlt' : ¬ (c : Int) < (n : Int) := by omega
      obtain ⟨kk, hkk⟩ : ∃ kk, (M.dr i e ((f.flat 0).take c) 0).length = kk := ⟨_, rfl⟩
      obtain ⟨x7, y7, hv7⟩ := HL.out.any hkk
      subst hv7
      have hT := H.out.store gw HL.out.zero (fun g' eg => (HL.out.lt g' eg).1)
      rw [List.take_of_length_le (by rw [hl.out]; omega)] at hT
      have HT := hideIt hT
      have HN : Hid (∀ g', (Value.slice x7 kk y7).ownBlock = some g' → w.heap.size ≤ g' ∧ g' < (wr.setCell ⟨p, 0, none⟩ (.slice x7 kk y7)).heap.size) := hideIt (fun g' eg => ⟨(HL.out.lt g' eg).1, by simpa [World.setCell] using (HL.out.lt g' eg).2⟩)
      have fz := Hr.out.frz
      clear hT hkk
      go_wp2
      go_ret
      exact ⟨rfl, _, HT.out.1, (Fr.grown gw).trans (Fr.at HT.out.2 rfl), HN.out⟩

theorem rdrop_is {w : World} {p : Nat} {O : Nat → Prop} {f : Fo} (h : RAt w p O f) (G : Good f) (hm : f.len ≤ 60) (a b e : Int) (he : f.dropE (a, b) = e) :
    Calls Try.prog 24 #[.pointer (some ⟨p, 0, none⟩), sv a b] w fun x w' => x = .returned (.int .i64 e) ∧ RAt w' p (wide O w w') (f.dropF (a, b)) ∧ Fr O w w' := by
  unfold Fo.dropE at he
  unfold Fo.dropF
  obtain ⟨v, H, hp, hg⟩ := h
  cases hs : f.has (a, b) with
  | false =>
    rw [hs] at he
    simp only [Bool.false_eq_true, if_false] at he ⊢
    subst he
    refine (rdrop_none (hideIt H) (hideIt hs) (hideIt hm)).mono ?_
    rintro _ w1 ⟨rfl, g1⟩
    exact ⟨rfl, ⟨v, H.kept g1, .inl hp, fun g e => .inl (hg g e)⟩, Fr.grown g1⟩
  | true =>
    rw [hs] at he
    simp only [if_true] at he ⊢
    subst he
    obtain ⟨D, A, C, i, e', j, n, P, hD⟩ := pos_of G hs
    have hl : (f.flat 0).length = n := by rw [Fo.flat_len]; exact P.len
    rcases H.row.form hl with ⟨_, h0⟩ | ⟨g, cap, rfl, _⟩
    · have := P.lt; omega
    · have hn60 : n ≤ 60 := by have := P.len; omega
      refine (rdrop_core (hideIt H) (hideIt P) (hideIt hm) hn60 P.lt (by have := P.ei; omega) P.hen).mono ?_
      rintro _ w1 ⟨rfl, v', T, F, N⟩
      refine ⟨rfl, ⟨v', ?_, .inl hp, fun g e => .inr (N g e)⟩, F.mono (fun i _ e => e ▸ hp)⟩
      rw [← P.dr]
      exact T

end Go.Proofs.Ytboojbnnjbmnoaa
