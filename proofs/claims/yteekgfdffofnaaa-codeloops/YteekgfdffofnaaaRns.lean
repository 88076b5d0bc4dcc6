/-
  THE CONTRACT of the laws' run: instructions one after another, by their trace (F k the registers, P k the place ahead of the step k).
-/
import Derived.Test.YteekgfdffofnaaaWrk
import Derived.Deep.LoopGhost
import Derived.Deep.Cut
import Derived.Deep.RegionHeld3
namespace Go.Proofs.Yteekgfdffofnaaa
set_option maxRecDepth 10000
open Go.RowKit
set_option linter.unusedVariables false

/-- The instruction number j of a list's block. -/
structure J4 (w : World) (b j : Nat) (i : I) : Prop where
  at0 : w.cell? ⟨b, j * 4, none⟩ = some (.int .i64 i.o)
  at1 : w.cell? ⟨b, j * 4 + 1, none⟩ = some (.int .i64 i.a)
  at2 : w.cell? ⟨b, j * 4 + 2, none⟩ = some (.int .i64 i.b)
  at3 : w.cell? ⟨b, j * 4 + 3, none⟩ = some (.int .i64 i.m)
theorem J4.kept {w w' : World} {b j : Nat} {i : I} (h : J4 w b j i) (g : w.grownBy w' none) : J4 w' b j i :=
  ⟨g.cell h.at0 (by simp), g.cell h.at1 (by simp), g.cell h.at2 (by simp), g.cell h.at3 (by simp)⟩
/-- A list of instructions. -/
def LI (w : World) (b n : Nat) (l : Nat → I) : Prop := ∀ j, j < n → J4 w b j (l j)
theorem LI.kept {w w' : World} {b n : Nat} {l : Nat → I} (h : LI w b n l) (g : w.grownBy w' none) : LI w' b n l := fun j hj => (h j hj).kept g

set_option maxHeartbeats 4000000 in
theorem runs_is (l : Nat → I) (n c S K : Nat) (F : Nat → Nat → Int) (P : Nat → Nat) (b : Nat) (w : World) (hL : LI w b n l) (hn : n ≤ 100) (hS : S ≤ 1000) (hK : K ≤ S) (hend : K = S ∨ n ≤ P K) (h0 : P 0 = 0) (hP : ∀ k, k < K → P k < n)
    (hr : ∀ k, k < K → ∃ e : E, (∀ w, Calls Try.prog 15 #[iv (l (P k)), .agg (rc (F k)), .int .i64 (P k : Int)] w fun r w' => r = .returned (.tuple #[.agg (ec e), .int .i64 0]) ∧ w.grownBy w' none) ∧ e.k = 0 ∧ e.f = F (k + 1) ∧ e.p = (P (k + 1) : Int)) :
    Calls Try.prog 19 #[.slice (some ⟨b, 0, none⟩) n c, .agg (rc (F 0)), .int .i64 (S : Int)] w fun r w' => r = .returned (.tuple #[.agg (rc (F K)), .int .i64 (P K : Int)]) ∧ w.grownBy w' none := by
  replace hL := hideIt hL
  replace hend := hideIt hend
  replace hP := hideIt hP
  replace hr := hideIt hr
  go_enter Try.func19, Try.ntmps19
  go_upto_region 1 with (first | (refine wpList_boxW (t := 39) rfl _ rfl rfl ?_; intro W1 x1 R g1 l1) | (refine wpList_allocW rfl rfl zR ?_; intro W2 z C g2 l2))
  have lz : w.heap.size ≤ z := Nat.le_trans g1.size l2
  have xz := R.apart l2
  have G := hideIt (gbTrans g1 g2)
  replace R := hideIt (R.kept g2)
  replace C := hideIt C
  clear g1 g2 l2
  go_wp2_with fail
  go_loopg [8, 9] K (fun gk s8 s9 wr => ∃ (j q : Nat), j + gk = K ∧ P j = q ∧ s8 = .int .i64 q ∧ s9 = .int .i64 j ∧ Hid (w.grownBy wr none) ∧ Hid (Rw wr x1 39 (rc (F j))) ∧ Hid (Rw wr z 39 (rc nil8)))
  case atStart => exact ⟨0, 0, Nat.zero_add _, h0, rfl, rfl, G, R, C⟩
  case round =>
    clear G R C
    obtain ⟨j, q, hj, hq, rfl, rfl, G, R, C⟩ := hrel
    by_cases hlt : j < K
    · have cS : (j : Int) < (S : Int) := by omega
      have q0 : (0 : Int) ≤ (q : Int) := Int.natCast_nonneg _
      have qn : (q : Int) < (n : Int) := by have := hP.out j hlt; omega
      obtain ⟨u, HU⟩ := hr.out j hlt
      rw [hq] at HU
      have J := hL.out q (by omega)
      obtain ⟨i, hi⟩ : ∃ i, l q = i := ⟨_, rfl⟩
      rw [hi] at HU J
      obtain ⟨f, hf⟩ : ∃ f, F j = f := ⟨_, rfl⟩
      rw [hf] at HU R
      replace J := hideIt (J.kept G.out)
      replace hi := hideIt hi
      replace hf := hideIt hf
      replace hq := hideIt hq
      obtain ⟨H1, HU⟩ := HU
      replace HU := hideIt HU
      go_upto_region 5 with fail
      obtain ⟨W3, rfl⟩ : ∃ W3, W3 = wr := ⟨_, rfl⟩
      have gd : W3.grownBy W3.drew none := gbDrew (gbRefl _ _)
      have TB : ∀ w', W3.grownBy w' none → (w'.cell? ⟨b, q * 4, none⟩ = some (.int .i64 i.o) ∧ w'.cell? ⟨b, q * 4 + 1, none⟩ = some (.int .i64 i.a) ∧ w'.cell? ⟨b, q * 4 + 2, none⟩ = some (.int .i64 i.b) ∧ w'.cell? ⟨b, q * 4 + 3, none⟩ = some (.int .i64 i.m) ∧ w'.cell? ⟨x1, 0, none⟩ = some (.int .u64 (f 0)) ∧ w'.cell? ⟨x1, 1, none⟩ = some (.int .u64 (f 1)) ∧ w'.cell? ⟨x1, 2, none⟩ = some (.int .u64 (f 2)) ∧ w'.cell? ⟨x1, 3, none⟩ = some (.int .u64 (f 3)) ∧ w'.cell? ⟨x1, 4, none⟩ = some (.int .u64 (f 4)) ∧ w'.cell? ⟨x1, 5, none⟩ = some (.int .u64 (f 5)) ∧ w'.cell? ⟨x1, 6, none⟩ = some (.int .u64 (f 6)) ∧ w'.cell? ⟨x1, 7, none⟩ = some (.int .u64 (f 7))) := fun w' k =>
        ⟨(J.out.kept k).at0, (J.out.kept k).at1, (J.out.kept k).at2, (J.out.kept k).at3, (R.out.kept k).cell 0, (R.out.kept k).cell 1, (R.out.kept k).cell 2, (R.out.kept k).cell 3, (R.out.kept k).cell 4, (R.out.kept k).cell 5, (R.out.kept k).cell 6, (R.out.kept k).cell 7⟩
      have T0 := TB _ (gbRefl W3 none)
      have HA := madeE
      have HB := madeED
      have gz := gbRefl W3 none
      have HS := fun (v : World) (b : Nat) (h : Rw v b 41 (ec E0)) => run_storeE v b 41 E0 u h
      go_region_held3 (fun w' => w'.cell? ⟨b, q * 4, none⟩ = some (.int .i64 i.o) ∧ w'.cell? ⟨b, q * 4 + 1, none⟩ = some (.int .i64 i.a) ∧ w'.cell? ⟨b, q * 4 + 2, none⟩ = some (.int .i64 i.b) ∧ w'.cell? ⟨b, q * 4 + 3, none⟩ = some (.int .i64 i.m) ∧ w'.cell? ⟨x1, 0, none⟩ = some (.int .u64 (f 0)) ∧ w'.cell? ⟨x1, 1, none⟩ = some (.int .u64 (f 1)) ∧ w'.cell? ⟨x1, 2, none⟩ = some (.int .u64 (f 2)) ∧ w'.cell? ⟨x1, 3, none⟩ = some (.int .u64 (f 3)) ∧ w'.cell? ⟨x1, 4, none⟩ = some (.int .u64 (f 4)) ∧ w'.cell? ⟨x1, 5, none⟩ = some (.int .u64 (f 5)) ∧ w'.cell? ⟨x1, 6, none⟩ = some (.int .u64 (f 6)) ∧ w'.cell? ⟨x1, 7, none⟩ = some (.int .u64 (f 7)))
        (first | with_reducible exact T0 | with_reducible exact T7 | (refine TB _ ?_; (repeat (first | with_reducible exact G7 | with_reducible exact gd | with_reducible exact gz | with_reducible refine gbDrew ?_ | with_reducible refine gbAllocN ?_ _ | with_reducible refine gbSetRow ?_ _ _ (by first | exact G7.size | exact gd.size | exact Nat.le_refl _ | (simp; done)))); done) | fail)
        ((go_at_call 15; refine (H1 _).mono ?_; rintro e7 w7 ⟨rfl, g7⟩; have G7 : W3.grownBy w7 none := gbTrans (by repeat (first | with_reducible exact gd | with_reducible exact gz | with_reducible refine gbDrew ?_ | with_reducible refine gbAllocN ?_ _)) g7; have T7 := TB w7 G7; (first | have X7 := (HA _).kept g7 | have X7 := (HB _).kept g7 | skip)))
      all_goals
        rename_i hold
        clear hold HS T0 T7
        first
          | (obtain ⟨w9, e9, D, G9⟩ := outAlloc W3 w7 u G7; rw [e9]; have nx := R.out.apart G7.size)
          | (obtain ⟨w9, e9, D, G9⟩ := outRow W3 w7 _ u X7 G7 (by first | exact gd.size | exact Nat.le_refl _); rw [e9]; have nx := R.out.apart (Nat.le_refl W3.heap.size))
        clear e9
        try clear X7
        replace R := hideIt (R.out.kept G9)
        replace C := hideIt (C.out.kept G9)
        replace G := hideIt (gbTrans G.out G9)
        clear G9 G7 g7 gd gz HA HB TB J H1
        obtain ⟨u0, u1, u2⟩ := HU.out
        have c9 := D.cell 9
        rw [show (ec u)[9]? = some (.int .i64 u.k) from rfl, u0] at c9
        have R' := R.out
        go_upto_region 8 with (first | (refine wpList_loadM rfl _ rfl (rc u.f) rfl D tkR rfl (ec_regs u) ?_) | (refine wpList_storeW rfl _ _ rfl rfl rfl R' tkR rfl rfl (rc_one _) ?_; intro W10 R10 g10))
        clear c9
        have D10 := D.aside g10 (Ne.symm nx)
        have C10 := hideIt (C.out.aside g10 xz.symm)
        have G10 := hideIt (gbNew (gbTrans (gbAny G.out _) g10) l1)
        replace R10 := hideIt R10
        clear R' R C G D g10
        have c8 := D10.cell 8
        rw [show (ec u)[8]? = some (.int .i64 u.p) from rfl, u2] at c8
        obtain ⟨q', hq'⟩ : ∃ q', P (j + 1) = q' := ⟨_, rfl⟩
        rw [hq'] at c8
        rw [u1] at R10
        clear u0 u1 u2 D10 HU
        replace hq' := hideIt hq'
        go_wp2
        go_roundg (gk - 1)
        case rel => exact ⟨j + 1, q', by omega, hq'.out, rfl, by go_num, G10, R10, C10⟩
        case measure => omega
    · obtain rfl : j = K := by omega
      have R' := R.out
      have C' := C.out
      have G' := G.out
      rcases hend.out with he | he
      · have cS : ¬ (j : Int) < (S : Int) := by omega
        clear R C G
        subst hq
        go_wp2_with (first | (refine wpList_loadW rfl _ rfl rfl R' tkR rfl ?_) | (refine wpList_storeW rfl _ _ rfl rfl rfl C' tkR rfl rfl (rc_one _) ?_; intro W9 C9 g9))
        exact bodyPost_ret (results_We Try.results19 rfl rfl C9 tkR rfl) rfl ⟨rfl, gbNew (gbTrans (gbAny G' _) g9) lz⟩
      · have cn : ¬ (q : Int) < (n : Int) := by omega
        clear R C G
        subst hq
        go_upto_region 9 with fail
        all_goals
          go_wp2_with (first | (refine wpList_loadW rfl _ rfl rfl R' tkR rfl ?_) | (refine wpList_storeW rfl _ _ rfl rfl rfl C' tkR rfl rfl (rc_one _) ?_; intro W9 C9 g9))
          exact bodyPost_ret (results_We Try.results19 rfl rfl C9 tkR rfl) rfl ⟨rfl, gbNew (gbTrans (gbAny G' _) g9) lz⟩
end Go.Proofs.Yteekgfdffofnaaa
