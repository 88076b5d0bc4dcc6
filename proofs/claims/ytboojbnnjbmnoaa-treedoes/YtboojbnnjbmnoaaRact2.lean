/-
  THE DOCUMENT'S SIDE (donjonref09): Child, Move, as contracts on the plain tree.
-/
import Derived.Test.YtboojbnnjbmnoaaRact
namespace Go.Proofs.Ytboojbnnjbmnoaa
open Go.RowKit
set_option linter.unusedVariables false

/-- What stands ahead of the place behind a slot's kin. -/
theorem Pos.cut {f : Fo} {s : Int × Int} {d : Fo} {A C : List Kn} {i e j n : Nat} (P : Pos f s d A C i e j n) (x : Kn) : (f.flat 0).take e ++ (x :: (f.flat 0).drop e) = A ++ ((s, j) :: (d.flat (j + 1) ++ (x :: C))) := by
  have h1 : (A ++ ((s, j) :: d.flat (j + 1))).length = e := by simp [Fo.flat_len, P.ai]; have := P.ei; omega
  have h2 : f.flat 0 = (A ++ ((s, j) :: d.flat (j + 1))) ++ C := by rw [P.at'.eq]; simp
  rw [h2, List.take_left' h1, List.drop_left' h1]
  simp
theorem Pos.lt {f : Fo} {s : Int × Int} {d : Fo} {A C : List Kn} {i e j n : Nat} (P : Pos f s d A C i e j n) : i < n := by have := P.ei; have := P.hen; omega
theorem Pos.dp {f : Fo} {s : Int × Int} {d : Fo} {A C : List Kn} {i e j n : Nat} (P : Pos f s d A C i e j n) : j < n := by
  have := Fo.flat_lt f 0 _ (List.mem_of_getElem? P.hi)
  have h2 := P.len
  unfold Fo.len at h2
  simp only at this
  omega

theorem rchild_is {w : World} {p : Nat} {O : Nat → Prop} {f : Fo} (h : RAt w p O f) (G : Good f) (hm : f.len ≤ 60) (a b c d e : Int) (he : f.childE (a, b) (c, d) = e) :
    Calls Try.prog 23 #[.pointer (some ⟨p, 0, none⟩), sv a b, sv c d] w fun x w' => x = .returned (.int .i64 e) ∧ RAt w' p (wide O w w') (f.childF (a, b) (c, d)) ∧ Fr O w w' := by
  unfold Fo.childE at he
  unfold Fo.childF
  obtain ⟨v, H, hp, hg⟩ := h
  cases hs : f.has (a, b) with
  | false =>
    rw [hs] at he
    simp only [Bool.false_eq_true, if_false] at he ⊢
    subst he
    refine (rchild_none (hideIt H) (hideIt hs) (hideIt hm)).mono ?_
    rintro _ w1 ⟨rfl, g1⟩
    exact ⟨rfl, ⟨v, H.kept g1, .inl hp, fun g e => .inl (hg g e)⟩, Fr.grown g1⟩
  | true =>
    rw [hs] at he
    simp only [if_true] at he ⊢
    obtain ⟨D, A, C, i, e', j, n, P, hD⟩ := pos_of G hs
    cases hs2 : f.has (c, d) with
    | true =>
      rw [hs2] at he
      simp only [if_true] at he ⊢
      subst he
      obtain ⟨D2, A2, C2, i2, e2, j2, n2, P2, _⟩ := pos_of G hs2
      refine (rchild_twice (hideIt H) (hideIt P) (hideIt P2) (hideIt hm)).mono ?_
      rintro _ w1 ⟨rfl, g1⟩
      exact ⟨rfl, ⟨v, H.kept g1, .inl hp, fun g e => .inl (hg g e)⟩, Fr.grown g1⟩
    | false =>
      rw [hs2] at he
      simp only [Bool.false_eq_true, if_false] at he ⊢
      subst he
      have hl : (f.flat 0).length = n := by rw [Fo.flat_len]; exact P.len
      rcases H.row.form hl with ⟨_, h0⟩ | ⟨g, cap, rfl, _⟩
      · have := P.lt; omega
      · have hn60 : n ≤ 60 := by have := P.len; omega
        refine (rchild_new (hideIt H) (hideIt P) (hideIt hs2) (hideIt hm) hn60 (by have := P.dp; omega) P.lt).mono ?_
        rintro _ w1 ⟨rfl, v', T, F, N⟩
        refine ⟨rfl, ⟨v', ?_, .inl hp, fun g e => .inr (N g e)⟩, F.mono (fun i _ e => e ▸ hp)⟩
        rw [P.at'.add (c, d), ← P.cut]
        exact T

/-! ### Move -/
set_option maxHeartbeats 400000 in
theorem rmove_none {w : World} {p : Nat} {v : Value} {f : Fo} {a b c d : Int} (H : Hid (RA w p v (f.flat 0))) (hh : Hid (f.has (a, b) = false)) (hm : Hid (f.len ≤ 60)) :
    Calls Try.prog 25 #[.pointer (some ⟨p, 0, none⟩), sv a b, sv c d] w fun e w' => e = .returned (.int .i64 3) ∧ w.grownBy w' none := by
  go_enter Try.func25, Try.ntmps25
  go_upto_region 1 with fail
  obtain ⟨W, hW, X, Y, g0⟩ := twoS w a b c d
  rw [hW]
  clear hW
  have x0 := X.at0
  have x1 := X.at1
  go_wp2_with fail
  refine (at_no (H.out.kept g0) hh.out hm.out).mono ?_
  rintro _ w1 ⟨rfl, g1⟩
  go_wp2
  go_ret
  exact ⟨rfl, gbTrans g0 g1⟩
set_option maxHeartbeats 400000 in
theorem rmove_twice {w : World} {p : Nat} {v : Value} {f : Fo} {a b c d : Int} {D D2 : Fo} {A C A2 C2 : List Kn} {i e j n i2 e2 j2 n2 : Nat} (H : Hid (RA w p v (f.flat 0))) (P : Hid (Pos f (a, b) D A C i e j n)) (P2 : Hid (Pos f (c, d) D2 A2 C2 i2 e2 j2 n2)) (hm : Hid (f.len ≤ 60)) :
    Calls Try.prog 25 #[.pointer (some ⟨p, 0, none⟩), sv a b, sv c d] w fun e w' => e = .returned (.int .i64 4) ∧ w.grownBy w' none := by
  go_enter Try.func25, Try.ntmps25
  go_upto_region 1 with fail
  obtain ⟨W, hW, X, Y, g0⟩ := twoS w a b c d
  rw [hW]
  clear hW
  have x0 := X.at0
  have x1 := X.at1
  go_wp2_with fail
  refine (at_yes (H.out.kept g0) P.out hm.out).mono ?_
  rintro _ w1 ⟨rfl, g1⟩
  clear x0 x1
  have y0 := (Y.kept g1).at0
  have y1 := (Y.kept g1).at1
  have hi0 : ¬ (i : Int) < 0 := by omega
  go_wp2_with fail
  refine (at_yes (H.out.kept (gbTrans g0 g1)) P2.out hm.out).mono ?_
  rintro _ w2 ⟨rfl, g2⟩
  go_wp2
  go_ret
  exact ⟨rfl, gbTrans (gbTrans g0 g1) g2⟩
set_option maxHeartbeats 1000000 in
theorem rmove_new {w : World} {p g cap : Nat} {f : Fo} {a b c d : Int} {D : Fo} {A C : List Kn} {i e j n : Nat} (H : Hid (RA w p (.slice (some ⟨g, 0, none⟩) n cap) (f.flat 0))) (P : Hid (Pos f (a, b) D A C i e j n)) (hh : Hid (f.has (c, d) = false)) (hm : Hid (f.len ≤ 60)) (hn60 : n ≤ 60) (hin : i < n) :
    Calls Try.prog 25 #[.pointer (some ⟨p, 0, none⟩), sv a b, sv c d] w fun x w' => x = .returned (.int .i64 0) ∧ RA w' p (.slice (some ⟨g, 0, none⟩) n cap) ((f.flat 0).set i ((c, d), j)) ∧ Fr (fun x => x = g) w w' := by
  have hl : Hid ((f.flat 0).length = n) := hideIt (by rw [Fo.flat_len]; exact P.out.len)
  go_enter Try.func25, Try.ntmps25
  go_upto_region 1 with fail
  obtain ⟨W, hW, X, Y, g0⟩ := twoS w a b c d
  rw [hW]
  clear hW
  have x0 := X.at0
  have x1 := X.at1
  go_wp2_with fail
  refine (at_yes (H.out.kept g0) P.out hm.out).mono ?_
  rintro _ w1 ⟨rfl, g1⟩
  clear x0 x1
  have y0 := (Y.kept g1).at0
  have y1 := (Y.kept g1).at1
  have hi0 : ¬ (i : Int) < 0 := by omega
  go_wp2_with fail
  refine (at_no (H.out.kept (gbTrans g0 g1)) hh.out hm.out).mono ?_
  rintro _ w2 ⟨rfl, g2⟩
  clear y0 y1
  have G2 := gbTrans (gbTrans g0 g1) g2
  have Y2 := (Y.kept g1).kept g2
  have H2 := H.out.kept G2
  have c2 := H2.cell
  have y0 := Y2.at0
  have y1 := Y2.at1
  obtain ⟨e0, e1, _⟩ := H2.row.el hl.out i _ P.out.hi
  simp only at e0 e1
  have ef := H2.row.frz hl.out
  have hil : (i : Int) < (n : Int) := by omega
  have T : RA ((w2.setCell ⟨g, i * 3, none⟩ (.int .i64 c)).setCell ⟨g, i * 3 + 1, none⟩ (.int .i64 d)).drew p (.slice (some ⟨g, 0, none⟩) n cap) ((f.flat 0).set i ((c, d), j)) := by
    have gs : w2.grownBy ((w2.setCell ⟨g, i * 3, none⟩ (.int .i64 c)).setCell ⟨g, i * 3 + 1, none⟩ (.int .i64 d)) (some g) := gbTrans (gbSetCell _ _ _ _) (gbSetCell _ _ _ _)
    have hgp : g ≠ p := H2.gp rfl
    have l := H2.row.store hl.out i c d j (fun q hq => by rw [P.out.hi] at hq; cases hq; rfl)
    exact RA.kept ⟨(gs.block p H2.plt (by simp; exact fun e => hgp e.symm)).trans H2.box, l⟩ (gbDrew (gbRefl _ none))
  have HT := hideIt T
  have HF : Hid (Fr (fun x => x = g) w ((w2.setCell ⟨g, i * 3, none⟩ (.int .i64 c)).setCell ⟨g, i * 3 + 1, none⟩ (.int .i64 d)).drew) := hideIt ((Fr.grown G2).trans ((Fr.at (O := fun x => x = g) (gbTrans (gbSetCell _ _ _ _) (gbSetCell _ _ _ _)) rfl).trans (Fr.grown (gbDrew (gbRefl _ none)))))
  clear T H2
  go_wp2
  go_region
  all_goals (
    go_wp2
    go_ret
    exact ⟨rfl, HT.out, HF.out⟩)
theorem set_mid {α : Type} (A : List α) (x y : α) (B : List α) (i : Nat) (h : A.length = i) : (A ++ x :: B).set i y = A ++ y :: B := by
  subst h
  rw [List.set_append_right _ _ (Nat.le_refl _)]
  simp
theorem rmove_is {w : World} {p : Nat} {O : Nat → Prop} {f : Fo} (h : RAt w p O f) (G : Good f) (hm : f.len ≤ 60) (a b c d e : Int) (he : f.moveE (a, b) (c, d) = e) :
    Calls Try.prog 25 #[.pointer (some ⟨p, 0, none⟩), sv a b, sv c d] w fun x w' => x = .returned (.int .i64 e) ∧ RAt w' p (wide O w w') (f.moveF (a, b) (c, d)) ∧ Fr O w w' := by
  unfold Fo.moveE at he
  unfold Fo.moveF
  obtain ⟨v, H, hp, hg⟩ := h
  cases hs : f.has (a, b) with
  | false =>
    rw [hs] at he
    simp only [Bool.false_eq_true, if_false] at he ⊢
    subst he
    refine (rmove_none (hideIt H) (hideIt hs) (hideIt hm)).mono ?_
    rintro _ w1 ⟨rfl, g1⟩
    exact ⟨rfl, ⟨v, H.kept g1, .inl hp, fun g e => .inl (hg g e)⟩, Fr.grown g1⟩
  | true =>
    rw [hs] at he
    simp only [if_true] at he ⊢
    obtain ⟨D, A, C, i, e', j, n, P, hD⟩ := pos_of G hs
    cases hs2 : f.has (c, d) with
    | true =>
      rw [hs2] at he
      simp only [if_true] at he ⊢
      subst he
      obtain ⟨D2, A2, C2, i2, e2, j2, n2, P2, _⟩ := pos_of G hs2
      refine (rmove_twice (hideIt H) (hideIt P) (hideIt P2) (hideIt hm)).mono ?_
      rintro _ w1 ⟨rfl, g1⟩
      exact ⟨rfl, ⟨v, H.kept g1, .inl hp, fun g e => .inl (hg g e)⟩, Fr.grown g1⟩
    | false =>
      rw [hs2] at he
      simp only [Bool.false_eq_true, if_false] at he ⊢
      subst he
      have hl : (f.flat 0).length = n := by rw [Fo.flat_len]; exact P.len
      rcases H.row.form hl with ⟨_, h0⟩ | ⟨g, cap, rfl, _⟩
      · have := P.lt; omega
      · have hn60 : n ≤ 60 := by have := P.len; omega
        refine (rmove_new (hideIt H) (hideIt P) (hideIt hs2) (hideIt hm) hn60 P.lt).mono ?_
        rintro _ w1 ⟨rfl, T, F⟩
        refine ⟨rfl, ⟨_, ?_, .inl hp, fun g e => .inl (hg g e)⟩, F.mono (fun i _ e => e ▸ hg g rfl)⟩
        rw [P.at'.mv (c, d)]
        have e1 : (f.flat 0).set i ((c, d), j) = A ++ ((c, d), j) :: (D.flat (j + 1) ++ C) := by rw [P.at'.eq]; exact set_mid A _ _ _ i P.ai
        rw [e1] at T
        exact T

end Go.Proofs.Ytboojbnnjbmnoaa
