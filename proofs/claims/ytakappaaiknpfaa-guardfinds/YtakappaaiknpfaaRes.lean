/-
  THE CONTRACT of package guard: Resolve.
-/
import Derived.Test.YtakappaaiknpfaaLvl
import Derived.Deep.LoopGhost
import Derived.Deep.Cut
import Derived.Deep.DeepCutAuto
namespace Go.Proofs.Ytakappaaiknpfaa
open Go.RowKit
set_option linter.unusedVariables false

namespace M
/-- Level by level: the node, the slot's number, and how many bits are left. -/
def res (S : St) (p : Nat) : Nat → C → Nat → Option (Int × Nat × Nat)
  | 0, _, _ => none
  | f + 1, c, l => match lvl S p c l with
    | none => none
    | some (a, t) => if t = 0 ∨ (getC S c.o a).k ≠ 2 then some (c.o, a, t) else res S p f (getC S c.o a) t
theorem res_no {S : St} {p f l : Nat} {c : C} (h : lvl S p c l = none) : res S p (f + 1) c l = none := by rw [res, h]
theorem res_end {S : St} {p f l a t : Nat} {c : C} (h : lvl S p c l = some (a, t)) (k : t = 0 ∨ (getC S c.o a).k ≠ 2) : res S p (f + 1) c l = some (c.o, a, t) := by rw [res, h]; simp only; rw [if_pos k]
theorem res_on {S : St} {p f l a t : Nat} {c : C} (h : lvl S p c l = some (a, t)) (k : ¬ (t = 0 ∨ (getC S c.o a).k ≠ 2)) : res S p (f + 1) c l = res S p f (getC S c.o a) t := by rw [res, h]; simp only; rw [if_neg k]
theorem lvl_lt {S : St} (G : Good S) {p l a t : Nat} {c : C} (h : lvl S p c l = some (a, t)) : t < l := by
  obtain ⟨q, hq⟩ := rad_nat S c.o
  unfold lvl at h
  rw [hq] at h
  by_cases h0 : (q : Int) = 0
  · rw [if_pos h0] at h; cases h
  · rw [if_neg h0] at h
    split at h
    · cases h
    · split at h
      · split at h
        · cases h
        · simp only [Option.some.injEq, Prod.mk.injEq, Int.toNat_natCast] at h
          omega
      · cases h
theorem getC_chk {S : St} (G : Good S) (n i : Int) : chk (getC S n i) = 0 := by
  unfold getC
  cases hs : S n with
  | none => exact chk_zero
  | some d =>
    simp only
    split
    · exact G.chk n d _ hs
    · exact chk_zero
theorem chk_obj {c : C} (hc : chk c = 0) : 0 ≤ c.o ∧ c.o ≤ 63 := by
  unfold chk at hc
  split at hc
  · split at hc
    · rename_i hb
      simp only [bnd, Bool.and_eq_true, decide_eq_true_eq] at hb
      exact ⟨hb.1.1.1.1.1, hb.1.1.1.1.2⟩
    · cases hc
  · cases hc
theorem getC_obj {S : St} (G : Good S) (n i : Int) : I64 (getC S n i).o := by
  have := chk_obj (getC_chk G n i)
  exact i64_of (by omega) (by omega)
/-- Resolve: the node, the slot's number, how many bits are left, the error. -/
def rs (S : St) (c : C) (p : Nat) (d : Int) : Int × Int × Int × Int :=
  if adr p d = true then (if c.k = 2 then (match res S p 17 c d.toNat with
    | none => (0, 0, 0, 6)
    | some (n, a, t) => (n, a, t, 0)) else (0, 0, 0, 2)) else (0, 0, 0, 1)
end M

set_option maxHeartbeats 1000000 in
theorem resolve_adr (w : World) (s p : Nat) (k o r b g n d : Int) (h : M.adr p d = false) :
    Calls Try.prog 9 #[.pointer (some ⟨s, 0, none⟩), cv ⟨k, o, r, b, g, n⟩, .int .u64 p, .int .i64 d] w fun e w' => e = .returned (.tuple #[sv 0 0, .int .i64 0, .int .i64 1]) ∧ w.grownBy w' none := by
  have HI := fun w => isAddress_is p d _ h w
  clear h
  go_enter Try.func9, Try.ntmps9
  go_upto_region 1 with fail
  obtain ⟨W, hW, X, Y, hY, g0⟩ := capSlot w ⟨k, o, r, b, g, n⟩
  simp only at hW
  rw [hW]
  clear hW
  obtain ⟨y0, y1, _⟩ := id Y
  have f0 := hY 0
  have f1 := hY 1
  clear hY
  go_wp2_with fail
  refine (HI _).mono ?_
  rintro _ _ ⟨rfl, rfl⟩
  go_wp2
  obtain ⟨W2, hW2, Y2, g2⟩ := Y.put 0 0
  rw [hW2]
  clear hW2 y0 y1 f0 f1
  obtain ⟨y0, y1, _⟩ := Y2
  exact bodyPost_ret (v := .tuple #[sv 0 0, .int .i64 0, .int .i64 1]) (by simp [results, Try.results9, go_sem, y0, y1]) rfl ⟨rfl, gbNew (gbTrans (gbAny g0 _) g2) (Nat.le_succ _)⟩

set_option maxHeartbeats 1000000 in
theorem resolve_kind (w : World) (s p : Nat) (k o r b g n d : Int) (h : M.adr p d = true) (hk : (k != 2) = true) :
    Calls Try.prog 9 #[.pointer (some ⟨s, 0, none⟩), cv ⟨k, o, r, b, g, n⟩, .int .u64 p, .int .i64 d] w fun e w' => e = .returned (.tuple #[sv 0 0, .int .i64 0, .int .i64 2]) ∧ w.grownBy w' none := by
  have HI := fun w => isAddress_is p d _ h w
  clear h
  go_enter Try.func9, Try.ntmps9
  go_upto_region 1 with fail
  obtain ⟨W, hW, X, Y, hY, g0⟩ := capSlot w ⟨k, o, r, b, g, n⟩
  simp only at hW
  rw [hW]
  clear hW
  obtain ⟨y0, y1, _⟩ := id Y
  have f0 := hY 0
  have f1 := hY 1
  have x0 := X.at0
  clear hY
  go_wp2_with fail
  refine (HI _).mono ?_
  rintro _ _ ⟨rfl, rfl⟩
  go_wp2
  obtain ⟨W2, hW2, Y2, g2⟩ := Y.put 0 0
  rw [hW2]
  clear hW2 y0 y1 f0 f1
  obtain ⟨y0, y1, _⟩ := Y2
  exact bodyPost_ret (v := .tuple #[sv 0 0, .int .i64 0, .int .i64 2]) (by simp [results, Try.results9, go_sem, y0, y1]) rfl ⟨rfl, gbNew (gbTrans (gbAny g0 _) g2) (Nat.le_succ _)⟩

abbrev Six (w : World) (x : Nat) (c : C) : Prop := w.cell? ⟨x, 0, none⟩ = some (.int .i64 c.k) ∧ w.cell? ⟨x, 1, none⟩ = some (.int .i64 c.o) ∧ w.cell? ⟨x, 2, none⟩ = some (.int .i64 c.r) ∧ w.cell? ⟨x, 3, none⟩ = some (.int .u64 c.b) ∧ w.cell? ⟨x, 4, none⟩ = some (.int .u64 c.g) ∧ w.cell? ⟨x, 5, none⟩ = some (.int .i64 c.n)
theorem Box.tup {w : World} {x : Nat} {c : C} (h : Box w x c) : Six w x c := ⟨h.at0, h.at1, h.at2, h.at3, h.at4, h.at5⟩

theorem gcell {W w1 : World} (h : W.grownBy w1 none) (b o : Nat) (hb : b < W.heap.size) : w1.cell? ⟨b, o, none⟩ = W.cell? ⟨b, o, none⟩ := by
  cases e : W.cell? ⟨b, o, none⟩ with
  | some v => exact h.cell e (by simp)
  | none => unfold World.cell? at *; rw [h.block b hb (by simp)]; exact e
theorem gfroz {W w1 : World} (h : W.grownBy w1 none) (b o : Nat) (hb : b < W.heap.size) : w1.frozen? ⟨b, o, none⟩ = W.frozen? ⟨b, o, none⟩ := gbFrozen h hb (by simp)

/-- What the loop of Resolve holds. -/
structure Going (w wr : World) (A L P X : Nat) (c : C) (l p : Nat) : Prop where
  cap : Box wr A c
  lft : Left wr L P l p
  slt : SBox wr X 0 0
  fz : ∀ i, wr.frozen? ⟨X, i, none⟩ = false
  gr : w.grownBy wr none
  lo : w.heap.size ≤ A ∧ w.heap.size ≤ L ∧ w.heap.size ≤ P ∧ w.heap.size ≤ X
  ne : A ≠ L ∧ A ≠ P ∧ X ≠ L ∧ X ≠ P ∧ A ≠ X

theorem Going.mk1 {w V w2 : World} {c : C} {d p : Nat} (g0 : w.grownBy V none) (Y : SBox V (w.heap.size + 1) 0 0) (fz : ∀ i, V.frozen? ⟨w.heap.size + 1, i, none⟩ = false) (G2 : V.grownBy w2 none) (l2 : Left w2 (V.heap.size + 1) V.heap.size d p) :
    ∃ W, w2.alloc (.cells #[.int .i64 c.k, .int .i64 c.o, .int .i64 c.r, .int .u64 c.b, .int .u64 c.g, .int .i64 c.n] 26) = W ∧ Going w W w2.heap.size (V.heap.size + 1) V.heap.size (w.heap.size + 1) c d p := by
  obtain ⟨W, hW, Z, gW⟩ := boxNew w2 c
  have h1 := g0.size
  have h2 := G2.size
  have h3 : V.heap.size + 1 < w2.heap.size := World.block_lt_of_cell? w2 _ l2.cl
  have h4 := Y.lt
  exact ⟨W, hW, Z, l2.kept gW, (Y.kept G2).kept gW, fun i => (gbFrozen (gbTrans G2 gW) h4 (by simp)).trans (fz i), gbTrans g0 (gbTrans G2 gW), by omega, by omega⟩
theorem Going.mk2 {w V w2 : World} {c : C} {d p : Nat} (g0 : w.grownBy V none) (Y : SBox V (w.heap.size + 1) 0 0) (fz : ∀ i, V.frozen? ⟨w.heap.size + 1, i, none⟩ = false) (G2 : V.grownBy w2 none) (Z0 : Box w2 V.heap.size C.zero) (l2 : Left w2 (V.heap.size + 1 + 1) (V.heap.size + 1) d p) :
    ∃ W, ((((((w2.setCell ⟨V.heap.size, 0, none⟩ (.int .i64 c.k)).setCell ⟨V.heap.size, 1, none⟩ (.int .i64 c.o)).setCell ⟨V.heap.size, 2, none⟩ (.int .i64 c.r)).setCell ⟨V.heap.size, 3, none⟩ (.int .u64 c.b)).setCell ⟨V.heap.size, 4, none⟩ (.int .u64 c.g)).setCell ⟨V.heap.size, 5, none⟩ (.int .i64 c.n)) = W ∧
      Going w W V.heap.size (V.heap.size + 1 + 1) (V.heap.size + 1) (w.heap.size + 1) c d p := by
  obtain ⟨W, hW, Z, gW⟩ := Z0.put c
  have h1 := g0.size
  have h2 := G2.size
  have h4 := Y.lt
  exact ⟨W, hW, Z, l2.keep gW (by omega) (by omega), (Y.kept G2).keep gW (by omega), fun i => (gbFrozen (gbTrans (gbAny G2 _) gW) h4 (by simp; omega)).trans (fz i), gbTrans g0 (gbNew (gbTrans (gbAny G2 _) gW) (Nat.le_refl _)), by omega, by omega⟩

theorem Going.lvl {w wr w1 : World} {A L P X l p t : Nat} {c : C} (h : Going w wr A L P X c l p) (l1 : Left w1 L P t p) (g : wr.grownBy w1 (some L)) : Going w w1 A L P X c t p :=
  ⟨h.cap.keep g (by simpa using h.ne.1), l1, h.slt.keep g h.ne.2.2.1, fun i => (gbFrozen g h.slt.lt (by simpa using h.ne.2.2.1)).trans (h.fz i), gbNew (gbTrans (gbAny h.gr _) g) h.lo.2.1, h.lo, h.ne⟩
theorem Going.kept {w wr w1 : World} {A L P X l p : Nat} {c : C} (h : Going w wr A L P X c l p) (g : wr.grownBy w1 none) : Going w w1 A L P X c l p :=
  ⟨h.cap.kept g, h.lft.kept g, h.slt.kept g, fun i => (gbFrozen g h.slt.lt (by simp)).trans (h.fz i), gbTrans h.gr g, h.lo, h.ne⟩
theorem Going.put {w wr : World} {A L P X l p : Nat} {c : C} (h : Going w wr A L P X c l p) (d : C) :
    ∃ W, ((((((wr.setCell ⟨A, 0, none⟩ (.int .i64 d.k)).setCell ⟨A, 1, none⟩ (.int .i64 d.o)).setCell ⟨A, 2, none⟩ (.int .i64 d.r)).setCell ⟨A, 3, none⟩ (.int .u64 d.b)).setCell ⟨A, 4, none⟩ (.int .u64 d.g)).setCell ⟨A, 5, none⟩ (.int .i64 d.n)) = W ∧
      Going w W A L P X d l p ∧ wr.grownBy W (some A) := by
  obtain ⟨W, hW, Z, gW⟩ := h.cap.put d
  exact ⟨W, hW, ⟨Z, h.lft.keep gW h.ne.1.symm h.ne.2.1.symm, h.slt.keep gW h.ne.2.2.2.2.symm, fun i => (gbFrozen gW h.slt.lt (by simpa using h.ne.2.2.2.2.symm)).trans (h.fz i), gbNew (gbTrans (gbAny h.gr _) gW) h.lo.1, h.lo, h.ne⟩, gW⟩
theorem Going.fin {w wr : World} {A L P X l p : Nat} {c : C} (h : Going w wr A L P X c l p) (n i : Int) :
    ∃ W, (wr.setCell ⟨X, 0, none⟩ (.int .i64 n)).setCell ⟨X, 1, none⟩ (.int .i64 i) = W ∧ SBox W X n i ∧ w.grownBy W none := by
  obtain ⟨W, hW, Y, gW⟩ := h.slt.put n i
  exact ⟨W, hW, Y, gbNew (gbTrans (gbAny h.gr _) gW) h.lo.2.2.2⟩
/-- What was left, when a level led to none. -/
theorem Going.lost {w wr w1 : World} {A L P X l p : Nat} {c : C} (h : Going w wr A L P X c l p) (g : wr.grownBy w1 (some L)) : ∃ X0 : SBox w1 X 0 0, (∀ i, w1.frozen? ⟨X, i, none⟩ = false) ∧ w.grownBy w1 none :=
  ⟨h.slt.keep g h.ne.2.2.1, fun i => (gbFrozen g h.slt.lt (by simpa using h.ne.2.2.1)).trans (h.fz i), gbNew (gbTrans (gbAny h.gr _) g) h.lo.2.1⟩

set_option maxRecDepth 10000 in
set_option maxHeartbeats 4000000 in
theorem resolve_loop {w : World} {s m : Nat} {O : Nat → Prop} {S : St} (HS : Hid (SAt w s m O S)) (HG : Hid (Good S)) (p d : Nat) (k o r b g n : Int) (N A0 l0 E : Int) (ho : Hid (I64 o)) (hp : Hid (p < 18446744073709551616)) (h : Hid (M.adr p d = true)) (hd : Hid (d ≤ 16)) (hk : (k != 2) = false)
    (HRS : Hid ((match M.res S p 17 ⟨k, o, r, b, g, n⟩ d with | none => ((0, 0, 0, 6) : Int × Int × Int × Int) | some (n, a, t) => (n, a, t, 0)) = (N, A0, l0, E))) :
    Calls Try.prog 9 #[.pointer (some ⟨s, 0, none⟩), cv ⟨k, o, r, b, g, n⟩, .int .u64 p, .int .i64 d] w fun e w' => e = .returned (.tuple #[sv N A0, .int .i64 l0, .int .i64 E]) ∧ w.grownBy w' none := by
  have HI := fun w => isAddress_is p d _ h.out w
  go_enter Try.func9, Try.ntmps9
  go_upto_region 1 with fail
  obtain ⟨W, hW, X, Y, hY, g0⟩ := capSlot w ⟨k, o, r, b, g, n⟩
  simp only at hW
  rw [hW]
  clear hW
  have HX := hideIt X
  have HY := hideIt Y
  have HZ := hideIt hY
  have x0 := X.at0
  simp only at x0
  clear X Y hY
  go_wp2_with fail
  refine (HI _).mono ?_
  rintro _ V ⟨rfl, rfl⟩
  clear HI
  go_upto_region 5 with fail
  clear x0
  go_cut [11, 12] (fun s11 s12 wc => ∃ A L P, s11 = .pointer (some ⟨A, 0, none⟩) ∧ s12 = clo L P ∧ Hid (Going w wc A L P (w.heap.size + 1) ⟨k, o, r, b, g, n⟩ d p))
  case first =>
    obtain ⟨x0, x1, x2, x3, x4, x5, _, _⟩ := HX.out
    simp only at x0 x1 x2 x3 x4 x5
    have T0b := HX.out
    have T0 : Six V.drew w.heap.size ⟨k, o, r, b, g, n⟩ := (T0b.kept (gbDrew (gbRefl V none))).tup
    go_region_held3 (fun w' => Six w' w.heap.size ⟨k, o, r, b, g, n⟩)
      (first | with_reducible exact T0 | (refine Box.tup (Box.kept T0b ?_); repeat (first | with_reducible exact G2 | with_reducible exact gbRefl V none | with_reducible refine gbDrew ?_ | with_reducible refine gbAllocN ?_ _ | with_reducible refine gbSetNew ?_ _ _ _ (by with_reducible first | exact Nat.le_refl _ | exact G2.size))) | fail)
      ((first | (go_at_call 25; refine (bitsOf_is _ p d).mono ?_; rintro _ w2 ⟨rfl, l2, g2⟩; have hc3 := gcell g2; have hf3 := gfroz g2; have G2 : V.grownBy w2 none := (by first | exact gbTrans (gbDrewN V 1 none) g2 | exact gbTrans (gbDrew (gbAllocN (gbRefl V none) _)) g2)) | fail))
    · rename_i hold
      clear hold x0 x1 x2 x3 x4 x5
      obtain ⟨W3, hW3, H3⟩ := Going.mk1 (c := ⟨k, o, r, b, g, n⟩) g0 HY.out HZ.out G2 l2
      simp only at hW3
      rw [hW3]
      go_wp2
      go_meet
      exact ⟨_, _, _, rfl, rfl, H3⟩
    · rename_i hold
      clear hold x0 x1 x2 x3 x4 x5
      have Z0 : Box w2 V.heap.size C.zero := ((Box.made V C.zero).kept (gbDrew (gbRefl _ none))).kept g2
      have l3 : Left w2 (V.heap.size + 1 + 1) (V.heap.size + 1) d p := by simpa using l2
      obtain ⟨W3, hW3, H3⟩ := Going.mk2 (c := ⟨k, o, r, b, g, n⟩) g0 HY.out HZ.out G2 Z0 l3
      simp only at hW3
      rw [hW3]
      go_wp2
      go_meet
      exact ⟨_, _, _, rfl, rfl, H3⟩
  case rest =>
    obtain ⟨A, L, P, rfl, rfl, HQ⟩ := hcut
    clear HX HY HZ g0
    obtain ⟨X, hX⟩ : ∃ X, X = w.heap.size + 1 := ⟨_, rfl⟩
    rw [← hX] at HQ ⊢
    clear hX
    clear hk
    go_wp2_with fail
    go_loopg [13, 14, 15] 17 (fun y _ _ _ wr => ∃ (c : C) (l : Nat), Hid (l < y ∧ l ≤ 16 ∧ I64 c.o) ∧ Hid (Going w wr A L P X c l p) ∧ Hid ((match M.res S p y c l with | none => ((0, 0, 0, 6) : Int × Int × Int × Int) | some (n, a, t) => (n, a, t, 0)) = (N, A0, l0, E)))
    case atStart => exact ⟨⟨k, o, r, b, g, n⟩, d, hideIt ⟨by have := hd.out; omega, hd.out, ho.out⟩, HQ, HRS⟩
    case round =>
      obtain ⟨⟨k, o, r, b, g, n⟩, l, hl, HR, HE⟩ := hrel
      obtain ⟨gk, rfl⟩ : ∃ y, gk = y + 1 := ⟨gk - 1, by have := hl.out.1; omega⟩
      obtain ⟨x0, x1, x2, x3, x4, x5, _, _⟩ := HR.out.cap
      simp only at x0 x1 x2 x3 x4 x5
      cases hv : M.lvl S p ⟨k, o, r, b, g, n⟩ l with
      | none =>
        have HP := hideIt (level_no (HS.out.kept HR.out.gr) k o r b g n L P l p hl.out.2.2 HR.out.lft hl.out.2.1 hp.out hv)
        have e := HE.out
        rw [M.res_no hv] at e
        simp only [Prod.mk.injEq] at e
        obtain ⟨rfl, rfl, rfl, rfl⟩ := e
        clear HE hv
        go_wp2_with fail
        refine HP.out.mono ?_
        rintro _ w1 ⟨rfl, g1⟩
        clear HP x0 x1 x2 x3 x4 x5
        go_upto_region 7 with fail
        obtain ⟨X0, F0, G0⟩ := HR.out.lost g1
        obtain ⟨W2, hW2, _, g2⟩ := sboxNew w1 0 0
        rw [hW2]
        clear hW2
        have X1 := X0.kept g2
        have F1 := fun i => (gbFrozen (i := i) g2 X0.lt (by simp)).trans (F0 i)
        have HX1 := hideIt X1
        obtain ⟨y0, y1, _⟩ := X1
        have f0 := F1 0
        have f1 := F1 1
        clear X0 F0 F1
        go_wp2
        obtain ⟨W3, hW3, Y3, g3⟩ := HX1.out.put 0 0
        rw [hW3]
        clear hW3 y0 y1 f0 f1
        obtain ⟨y0, y1, _⟩ := Y3
        exact bodyPost_ret (v := .tuple #[sv 0 0, .int .i64 0, .int .i64 6]) (by simp [results, Try.results9, go_sem, y0, y1]) rfl ⟨rfl, gbNew (gbTrans (gbAny (gbTrans G0 g2) _) g3) HR.out.lo.2.2.2⟩
      | some at_ =>
        obtain ⟨a, t⟩ := at_
        have HP := hideIt (level_ok (HS.out.kept HR.out.gr) k o r b g n L P l p a t hl.out.2.2 HR.out.lft hl.out.2.1 hp.out hv)
        have HV := hideIt hv
        clear hv
        go_wp2_with fail
        refine HP.out.mono ?_
        rintro _ w1 ⟨rfl, l1, g1⟩
        have HR1 := hideIt (HR.out.lvl l1 g1)
        clear HP x0 x1 x2 x3 x4 x5 l1 g1
        go_upto_region 7 with fail
        obtain ⟨W2, hW2, Y2, g2⟩ := sboxNew w1 o a
        rw [hW2]
        clear hW2
        have HR2 := hideIt (HR1.out.kept g2)
        obtain ⟨y0, y1, _⟩ := id Y2
        obtain ⟨⟨k2, o2, r2, b2, g2', n2⟩, hc2⟩ : ∃ c, M.getC S o a = c := ⟨_, rfl⟩
        have HP := hideIt (get_is (HS.out.kept HR2.out.gr) HG.out o a k2 o2 r2 b2 g2' n2 _ hl.out.2.2 hc2 rfl)
        have HC := hideIt hc2
        clear hc2
        go_wp2_with fail
        refine HP.out.mono ?_
        rintro _ w3 ⟨rfl, g3⟩
        have HR3 := hideIt (HR2.out.kept g3)
        have Y3 := Y2.kept g3
        clear HP y0 y1 Y2
        obtain ⟨x0, x1, x2, x3, x4, x5, _, xf⟩ := HR3.out.cap
        have f0 := xf 0
        have f1 := xf 1
        have f2 := xf 2
        have f3 := xf 3
        have f4 := xf 4
        have f5 := xf 5
        clear xf
        go_upto_region 10 with fail
        obtain ⟨W4, hW4, R4, g4⟩ := HR3.out.put ⟨k2, o2, r2, b2, g2', n2⟩
        simp only at hW4
        rw [hW4]
        have Y4 := Y3.keep g4 (Nat.ne_of_gt HR1.out.cap.lt)
        have HR4 := hideIt R4
        have z0 := R4.cap.at0
        simp only at z0
        clear hW4 R4 g4 Y3 x0 x1 x2 x3 x4 x5 f0 f1 f2 f3 f4 f5
        have HT := hideIt (M.lvl_lt HG.out HV.out)
        have stop : ∀ (hend : t = 0 ∨ k2 ≠ 2), N = o ∧ A0 = a ∧ l0 = t ∧ E = 0 := by
          intro hend
          have e := HE.out
          rw [M.res_end HV.out (by rw [HC.out]; exact hend)] at e
          simp only [Prod.mk.injEq] at e
          exact ⟨e.1.symm, e.2.1.symm, e.2.2.1.symm, e.2.2.2.symm⟩
        cases ht : ((t : Int) == 0)
        · cases hk2 : (k2 != 2)
          · have HE2 : Hid ((match M.res S p gk ⟨k2, o2, r2, b2, g2', n2⟩ t with | none => ((0, 0, 0, 6) : Int × Int × Int × Int) | some (n, a, t) => (n, a, t, 0)) = (N, A0, l0, E)) := by
              have e := HE.out
              rw [M.res_on HV.out (by rw [HC.out]; simp at ht hk2; simp; exact ⟨ht, hk2⟩), HC.out] at e
              exact e
            have ho2 : Hid (I64 o2) := by
              have := M.getC_obj HG.out o a
              rw [HC.out] at this
              exact this
            clear stop HE
            go_wp2
            go_roundg gk
            case rel => exact ⟨⟨k2, o2, r2, b2, g2', n2⟩, t, hideIt ⟨by have := hl.out; have := HT.out; omega, by have := hl.out; have := HT.out; omega, ho2.out⟩, HR4, HE2⟩
            case measure => omega
          · obtain ⟨rfl, rfl, rfl, rfl⟩ := stop (.inr (by simpa using hk2))
            clear stop HE
            obtain ⟨y0, y1, _⟩ := Y4
            obtain ⟨v0, v1, _⟩ := HR4.out.slt
            have f0 := HR4.out.fz 0
            have f1 := HR4.out.fz 1
            go_wp2
            obtain ⟨W5, hW5, Y5, g5⟩ := HR4.out.fin N a
            rw [hW5]
            clear hW5 y0 y1 f0 f1 v0 v1
            obtain ⟨y0, y1, _⟩ := Y5
            exact bodyPost_ret (v := .tuple #[sv N a, .int .i64 t, .int .i64 0]) (by simp [results, Try.results9, go_sem, y0, y1]) rfl ⟨rfl, g5⟩
        · obtain ⟨rfl, rfl, rfl, rfl⟩ := stop (.inl (by simpa using ht))
          clear stop HE
          obtain ⟨y0, y1, _⟩ := Y4
          obtain ⟨v0, v1, _⟩ := HR4.out.slt
          have f0 := HR4.out.fz 0
          have f1 := HR4.out.fz 1
          go_wp2
          obtain ⟨W5, hW5, Y5, g5⟩ := HR4.out.fin N a
          rw [hW5]
          clear hW5 y0 y1 f0 f1 v0 v1
          obtain ⟨y0, y1, _⟩ := Y5
          exact bodyPost_ret (v := .tuple #[sv N a, .int .i64 t, .int .i64 0]) (by simp [results, Try.results9, go_sem, y0, y1]) rfl ⟨rfl, g5⟩

theorem resolve_is {w : World} {s m : Nat} {O : Nat → Prop} {S : St} (h : SAt w s m O S) (G : Good S) (p : Nat) (k o r b g n d N A l E : Int) (ho : I64 o) (hp : p < 18446744073709551616) (hr : M.rs S ⟨k, o, r, b, g, n⟩ p d = (N, A, l, E)) :
    Calls Try.prog 9 #[.pointer (some ⟨s, 0, none⟩), cv ⟨k, o, r, b, g, n⟩, .int .u64 p, .int .i64 d] w fun e w' => e = .returned (.tuple #[sv N A, .int .i64 l, .int .i64 E]) ∧ w.grownBy w' none := by
  unfold M.rs at hr
  cases ha : M.adr p d
  · rw [ha, if_neg (by simp)] at hr
    simp only [Prod.mk.injEq] at hr
    obtain ⟨rfl, rfl, rfl, rfl⟩ := hr
    exact resolve_adr w s p k o r b g n d ha
  · rw [ha, if_pos rfl] at hr
    by_cases hk : k = 2
    · rw [if_pos hk] at hr
      have hd : 1 ≤ d ∧ d ≤ 16 := by
        unfold M.adr at ha
        simp only [Bool.and_eq_true, decide_eq_true_eq] at ha
        exact ha.1
      obtain ⟨D, rfl⟩ : ∃ D : Nat, d = (D : Int) := ⟨d.toNat, by omega⟩
      exact resolve_loop h G p D k o r b g n N A l E ho hp ha (hideIt (by omega)) (by simpa using hk) hr
    · rw [if_neg hk] at hr
      simp only [Prod.mk.injEq] at hr
      obtain ⟨rfl, rfl, rfl, rfl⟩ := hr
      exact resolve_kind w s p k o r b g n d ha (by simpa using hk)

end Go.Proofs.Ytakappaaiknpfaa
