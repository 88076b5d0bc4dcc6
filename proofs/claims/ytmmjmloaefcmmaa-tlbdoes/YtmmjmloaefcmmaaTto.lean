/-
  THE CONTRACTS of entry and To.
-/
import Derived.Test.YtmmjmloaefcmmaaTfl
namespace Go.Proofs.Ytmmjmloaefcmmaa
set_option maxRecDepth 10000
open Go.RowKit
set_option linter.unusedVariables false

theorem Mm.fr {O : Nat → Prop} {w w' : World} {p b n : Nat} {F : Nat → Nat} (h : Mm w p b n F) (k : Fr O w w') (hp : ¬ O p) (hb : ¬ O b) : Mm w' p b n F :=
  ⟨⟨(k.block p h.plt hp).trans h.is.box, World.rowIs.of_block h.is.row (k.block b h.blt hb), h.is.ne, h.is.lo, h.is.hi⟩, h.lt⟩
theorem Rm.fr {O : Nat → Prop} {w w' : World} {p b n : Nat} {F : Nat → Nat} (h : Rm w p b n F) (k : Fr O w w') (hp : ¬ O p) (hb : ¬ O b) : Rm w' p b n F :=
  ⟨⟨(k.block p h.plt hp).trans h.is.box, World.rowIs.of_block h.is.row (k.block b h.blt hb), h.is.ne, h.is.lo, h.is.hi⟩, h.lt⟩

/-- What a call of it leaves, behind a store into a new block. -/
theorem Tb_wider2 {ty tk : TypeId} {w0 w W w5 w6 : World} {O : Nat → Prop} {t x : Nat} {L L' : List K} (h : Tb ty tk w0 w O t L) (G : w.grownBy W none) (T : Tb ty tk w0 w5 (wide O W w5) t L') (F : Fr O W w5) (g : w5.grownBy w6 (some x)) (h1 : w.heap.size ≤ x) (h2 : x < W.heap.size) : Tb ty tk w0 w6 (wide O w w6) t L' ∧ Fr O w w6 := by
  have hx : ¬ O x := fun e => by have := (h.lo x e).2; omega
  have s1 := h.gr.size
  have s2 := g.size
  have T6 := T.keep g (wideNo hx h2) (by omega)
  have s3 := G.size
  have s4 := F.size
  refine ⟨T6.mono (fun i hi => ?_) (fun i hi => ?_), ((Fr.grown G).trans F).join (Fr.at (O := fun i => i = x) g rfl) (fun i hi e => by omega)⟩
  · rcases hi with hi | hi
    · exact .inl hi
    · exact .inr ⟨by omega, by omega⟩
  · rcases hi with hi | hi
    · have := h.lo i hi
      omega
    · omega

set_option maxHeartbeats 1000000 in
theorem tentry_kept (w : World) (t m A P : Nat) (s dir : Int) (v o : Bool) (x : Int) (hA : A < 4096) (hP : (A : Int).tdiv 16 = (P : Int)) (hP1 : P < 256)
    (HG : ∀ w', w.grownBy w' none → Calls Try.prog 21 #[.pointer (some ⟨t, 0, none⟩), .int .i64 s, .int .i64 P] w' fun e w'' => e = .returned (.tuple #[ev ⟨v, o, x⟩, .bool true]) ∧ w'.grownBy w'' none) :
    Calls Try.prog 35 #[.pointer (some ⟨t, 0, none⟩), .pointer (some ⟨m, 0, none⟩), .int .i64 s, .int .i64 dir, .int .i64 A] w fun e w' => e = .returned (.tuple #[ev ⟨v, o, x⟩, .int .i64 0]) ∧ w.grownBy w' none := by
  have X0 : Box (w.alloc (.cells #[.bool false, .bool false, .int .i64 0] 44)) w.heap.size E.zero := Box.made w E.zero _
  have G0 := gbAlloc w (.cells #[.bool false, .bool false, .int .i64 0] 44) none
  go_enter Try.func35, Try.ntmps35
  go_wp2_with fail
  refine (HG _ G0).mono ?_
  rintro e w2 ⟨rfl, g2⟩
  go_upto_region 3 with fail
  obtain ⟨W2, hW2, Y, h2⟩ := boxNew w2 ⟨v, o, x⟩ 44
  simp only at hW2
  rw [hW2]
  clear hW2
  have X2 := (X0.kept g2).kept h2
  have G2 := gbTrans (gbTrans G0 g2) h2
  have l1 := (X0.kept g2).lt
  obtain ⟨a0, a1, a2, lt, fr⟩ := X2
  obtain ⟨z0, z1, z2, zt, zf⟩ := Y
  simp only at z0 z1 z2 a0 a1 a2
  have nb : ¬ w.heap.size = w2.heap.size := by omega
  have f0 := fr 0
  have f1 := fr 1
  have f2 := fr 2
  clear X0 G0 g2 h2
  go_wp2
  exact bodyPost_ret (v := .tuple #[ev ⟨v, o, x⟩, .int .i64 0]) (by simp [results, Try.results35, go_sem, a0, a1, a2]) rfl ⟨rfl, by repeat (first | with_reducible exact G2 | refine gbDrew ?_ | refine gbSetNew ?_ _ _ _ (by omega))⟩

set_option maxHeartbeats 1000000 in
theorem tentry_err (w : World) (t m A P : Nat) (s dir : Int) (v o : Bool) (x f : Int) (hA : A < 4096) (hP : (A : Int).tdiv 16 = (P : Int)) (hP1 : P < 256) (hf : (f != 0) = true)
    (HG : ∀ w', w.grownBy w' none → Calls Try.prog 21 #[.pointer (some ⟨t, 0, none⟩), .int .i64 s, .int .i64 P] w' fun e w'' => e = .returned (.tuple #[ev E.zero, .bool false]) ∧ w'.grownBy w'' none)
    (HP : ∀ w', w.grownBy w' none → Calls Try.prog 47 #[.pointer (some ⟨m, 0, none⟩), .int .i64 dir, .int .i64 A] w' fun e w'' => e = .returned (.tuple #[ev ⟨v, o, x⟩, .int .i64 f]) ∧ w'.grownBy w'' none) :
    Calls Try.prog 35 #[.pointer (some ⟨t, 0, none⟩), .pointer (some ⟨m, 0, none⟩), .int .i64 s, .int .i64 dir, .int .i64 A] w fun e w' => e = .returned (.tuple #[ev E.zero, .int .i64 f]) ∧ w.grownBy w' none := by
  have X0 : Box (w.alloc (.cells #[.bool false, .bool false, .int .i64 0] 44)) w.heap.size E.zero := Box.made w E.zero _
  have G0 := gbAlloc w (.cells #[.bool false, .bool false, .int .i64 0] 44) none
  go_enter Try.func35, Try.ntmps35
  go_wp2_with fail
  refine (HG _ G0).mono ?_
  rintro e w2 ⟨rfl, g2⟩
  go_upto_region 3 with fail
  obtain ⟨W2, hW2, Y, h2⟩ := boxNew w2 E.zero 44
  simp only at hW2
  rw [hW2]
  clear hW2
  have X2 := (X0.kept g2).kept h2
  have G2 := gbTrans (gbTrans G0 g2) h2
  clear X0 G0 g2 h2 Y
  go_wp2_with fail
  refine (HP _ G2).mono ?_
  rintro e w3 ⟨rfl, g3⟩
  go_upto_region 6 with fail
  obtain ⟨W4, hW4, Y, h4⟩ := boxNew w3 ⟨v, o, x⟩ 44
  simp only at hW4
  rw [hW4]
  clear hW4
  have X4 := (X2.kept g3).kept h4
  have G4 := gbTrans (gbTrans G2 g3) h4
  have l1 := (X2.kept g3).lt
  obtain ⟨a0, a1, a2, lt, fr⟩ := X4
  simp only at a0 a1 a2
  have f0 := fr 0
  have f1 := fr 1
  have f2 := fr 2
  clear X2 G2 g3 h4
  go_wp2
  exact bodyPost_ret (v := .tuple #[ev E.zero, .int .i64 f]) (by simp [results, Try.results35, go_sem, a0, a1, a2]) rfl ⟨rfl, by repeat (first | with_reducible exact G4 | refine gbDrew ?_ | refine gbSetNew ?_ _ _ _ (by omega))⟩

set_option maxHeartbeats 2000000 in
theorem tentry_walk {w0 w : World} {O : Nat → Prop} {t : Nat} {L : List K} (h : Tp w0 w O t L) (m A P : Nat) (s dir : Int) (v o : Bool) (x : Int) (hA : A < 4096) (hP : (A : Int).tdiv 16 = (P : Int)) (hP1 : P < 256) (hf : M.kfe s P ⟨v, o, x⟩ = 0)
    (HG : ∀ w', w.grownBy w' none → Calls Try.prog 21 #[.pointer (some ⟨t, 0, none⟩), .int .i64 s, .int .i64 P] w' fun e w'' => e = .returned (.tuple #[ev E.zero, .bool false]) ∧ w'.grownBy w'' none)
    (HP : ∀ w', w.grownBy w' none → Calls Try.prog 47 #[.pointer (some ⟨m, 0, none⟩), .int .i64 dir, .int .i64 A] w' fun e w'' => e = .returned (.tuple #[ev ⟨v, o, x⟩, .int .i64 0]) ∧ w'.grownBy w'' none) :
    Calls Try.prog 35 #[.pointer (some ⟨t, 0, none⟩), .pointer (some ⟨m, 0, none⟩), .int .i64 s, .int .i64 dir, .int .i64 A] w fun e w' => e = .returned (.tuple #[ev ⟨v, o, x⟩, .int .i64 0]) ∧ Tp w0 w' (wide O w w') t (M.kput L s P ⟨v, o, x⟩) ∧ Fr O w w' := by
  have X0 : Box (w.alloc (.cells #[.bool false, .bool false, .int .i64 0] 44)) w.heap.size E.zero := Box.made w E.zero _
  have G0 := gbAlloc w (.cells #[.bool false, .bool false, .int .i64 0] 44) none
  have HT := hideIt h
  have hlo : ∀ z, w.heap.size ≤ z → ¬ O z := fun z hz e => by have := (h.lo z e).2; omega
  have hlo := hideIt hlo
  have hf := hideIt hf
  clear h
  go_enter Try.func35, Try.ntmps35
  go_wp2_with fail
  refine (HG _ G0).mono ?_
  rintro e w2 ⟨rfl, g2⟩
  go_upto_region 3 with fail
  obtain ⟨W2, hW2, Y, h2⟩ := boxNew w2 E.zero 44
  simp only at hW2
  rw [hW2]
  clear hW2
  have X2 := (X0.kept g2).kept h2
  have G2 := gbTrans (gbTrans G0 g2) h2
  clear X0 G0 g2 h2 Y
  go_wp2_with fail
  refine (HP _ G2).mono ?_
  rintro e w3 ⟨rfl, g3⟩
  go_upto_region 6 with fail
  obtain ⟨W4, hW4, Y, h4⟩ := boxNew w3 ⟨v, o, x⟩ 44
  simp only at hW4
  rw [hW4]
  clear hW4
  have X4 := (X2.kept g3).kept h4
  have G4 := gbTrans (gbTrans G2 g3) h4
  have l1 := (X2.kept g3).lt
  have l2 := Y.lt
  obtain ⟨z0, z1, z2, zt, zf⟩ := id Y
  simp only at z0 z1 z2
  have nb : ¬ w.heap.size = w3.heap.size := by omega
  clear X2 G2 g3 h4
  go_wp2_with fail
  have gd : W4.grownBy W4.drew none := gbDrew (gbRefl W4 none)
  go_region_held3 (fun w' => w'.cell? ⟨w3.heap.size, 0, none⟩ = some (.bool v) ∧ w'.cell? ⟨w3.heap.size, 1, none⟩ = some (.bool o) ∧ w'.cell? ⟨w3.heap.size, 2, none⟩ = some (.int .i64 x))
    (first | with_reducible exact ⟨z0, z1, z2⟩ | with_reducible exact TY | go_keep | fail)
    ((go_at_call 12; refine (fill_yes (HT.out.kept (gbTrans G4 gd)) s P v o x hf.out).mono ?_; rintro e w5 ⟨rfl, T5, F5⟩; have Y5 := F5.box (Y.kept gd) (hlo.out _ (by omega)); have X5 := F5.box (X4.kept gd) (hlo.out _ (Nat.le_refl _)); have TY := (show (w5.cell? ⟨w3.heap.size, 0, none⟩ = some (.bool v) ∧ w5.cell? ⟨w3.heap.size, 1, none⟩ = some (.bool o) ∧ w5.cell? ⟨w3.heap.size, 2, none⟩ = some (.int .i64 x)) from Y5.at'); obtain ⟨a0, a1, a2, lt, fr⟩ := id X5; simp only at a0 a1 a2; have f0 := fr 0; have f1 := fr 1; have f2 := fr 2))
  rename_i hold
  clear hold TY
  have G6 : w5.grownBy (((w5.setCell ⟨w.heap.size, 0, none⟩ (.bool v)).setCell ⟨w.heap.size, 1, none⟩ (.bool o)).setCell ⟨w.heap.size, 2, none⟩ (.int .i64 x)) (some w.heap.size) := gbTrans (gbTrans (gbSetCell _ _ _ _) (gbSetCell _ _ _ _)) (gbSetCell _ _ _ _)
  have HE := hideIt (Tb_wider2 HT.out (gbTrans G4 gd) T5 F5 G6 (Nat.le_refl _) (Nat.lt_of_lt_of_le l1 (by have := gd.size; omega)))
  clear T5 F5 Y5 X5 Y X4 z0 z1 z2
  go_wp2
  exact bodyPost_ret (v := .tuple #[ev ⟨v, o, x⟩, .int .i64 0]) (by simp [results, Try.results35, go_sem, a0, a1, a2]) rfl ⟨rfl, HE.out⟩

theorem tentry_is {w0 w : World} {O : Nat → Prop} {t : Nat} {L L' : List K} (h : Tp w0 w O t L) {m b n : Nat} {F : Nat → Nat} (hm : Mm w m b n F) (s dir : Int) (A : Nat) (hA : A < 4096) (hs : M.nr s = true) (e : E) (f : Int) (hk : M.kte n F L s dir A = (e, f, L')) :
    Calls Try.prog 35 #[.pointer (some ⟨t, 0, none⟩), .pointer (some ⟨m, 0, none⟩), .int .i64 s, .int .i64 dir, .int .i64 A] w fun x w' => x = .returned (.tuple #[ev e, .int .i64 f]) ∧ Tp w0 w' (wide O w w') t L' ∧ Fr O w w' := by
  have hP : (A : Int).tdiv 16 = ((A / 16 : Nat) : Int) := by rw [Int.tdiv_eq_ediv_of_nonneg (by omega)]; omega
  have hP2 : (A : Int) / 16 = ((A / 16 : Nat) : Int) := by omega
  have hP1 : A / 16 < 256 := by omega
  have hn := hm.is.hi
  obtain ⟨⟨⟨v, o, x⟩, q⟩, hg⟩ : ∃ q, M.kg L s ((A / 16 : Nat) : Int) = q := ⟨_, rfl⟩
  unfold M.kte at hk
  rw [hP2, hg] at hk
  cases q with
  | true =>
    simp only [if_true, Prod.mk.injEq] at hk
    obtain ⟨rfl, rfl, rfl⟩ := hk
    exact (tentry_kept w t m A (A / 16) s dir v o x hA hP hP1 (fun w' g => get_is (h.kept g) s _ _ _ hg)).mono fun e w' ⟨q1, q2⟩ => ⟨q1, h.wide q2, Fr.grown q2⟩
  | false =>
    have hz := (M.kg_none hg).1
    simp only [Bool.false_eq_true, if_false] at hk
    obtain ⟨⟨⟨v2, o2, x2⟩, f2⟩, hp⟩ : ∃ q, M.pe n F dir (A : Int) = q := ⟨_, rfl⟩
    rw [hp] at hk
    have HG : ∀ w', w.grownBy w' none → Calls Try.prog 21 #[.pointer (some ⟨t, 0, none⟩), .int .i64 s, .int .i64 ((A / 16 : Nat) : Int)] w' fun e w'' => e = .returned (.tuple #[ev E.zero, .bool false]) ∧ w'.grownBy w'' none := fun w' g => get_is (h.kept g) s _ _ _ (by rw [hg, hz])
    have HP := fun w' (g : w.grownBy w' none) => page_is w' m b n F dir A _ _ (hm.kept g) hp
    by_cases c : f2 = 0
    · subst c
      simp only [if_true, Prod.mk.injEq] at hk
      obtain ⟨rfl, rfl, rfl⟩ := hk
      obtain ⟨r1, r2, _⟩ := M.pe_right hp hn
      exact tentry_walk h m A (A / 16) s dir v2 o2 x2 hA hP hP1 (M.kfe_mk hs (by rw [← hP2]; exact M.np_of (M.pe_isA hp)) r1 r2) HG HP
    · simp only [if_neg c, Prod.mk.injEq] at hk
      obtain ⟨rfl, rfl, rfl⟩ := hk
      exact (tentry_err w t m A (A / 16) s dir v2 o2 x2 f2 hA hP hP1 (by simpa using c) HG HP).mono fun e w' ⟨q1, q2⟩ => ⟨q1, h.wide q2, Fr.grown q2⟩
end Go.Proofs.Ytmmjmloaefcmmaa
