/-
  THE CONTRACTS of donjonref08: front, Resolve.
-/
import Derived.Test.YtdnoidnpiaadaaaGreatFnd
import Derived.Test.YtdnoidnpiaadaaaGreatSRdrop
import Derived.Deep.CutRange
namespace Go.Proofs.YtdnoidnpiaadaaaGreat
open Go.RowKit
set_option linter.unusedVariables false
set_option maxRecDepth 10000
variable {u : Value}

namespace M
theorem front_val (p m n q : Nat) (hp : p < 18446744073709551616) (hq : 2 ^ n = q) : ((p : Int) / 2 ^ m).tmod (q : Int) = ((getN p m n : Nat) : Int) := by
  rw [cast_shr, ← Int.ofNat_tmod, ← hq]
  rfl
end M
set_option maxHeartbeats 400000 in
theorem front_is (w : World) (p l n m : Nat) (hl : l ≤ 16) (hm : n + m = l) (hp : p < 18446744073709551616) :
    Calls Tryz.prog 103 #[.int .u64 p, .int .i64 l, .int .i64 n] w fun e w' => e = .returned (.int .u64 (M.getN p m n : Nat)) ∧ w.grownBy w' none := by
  have h2 : (l : Int) - (n : Int) = (m : Int) := by omega
  have h3 : (m : Int) ≤ 16 := by omega
  have h4 : (n : Int) ≤ 16 := by omega
  have hw := shl_one n (by omega)
  obtain ⟨q, hq⟩ : ∃ q : Nat, 2 ^ n = q := ⟨_, rfl⟩
  have hq0 : ¬ (q : Int) = 0 := by have := Nat.two_pow_pos n; omega
  rw [hq] at hw
  have HV : Hid (((p : Int) / 2 ^ m).tmod (q : Int) = ((M.getN p m n : Nat) : Int)) := M.front_val p m n q hp hq
  clear hm hl hp hq
  go_enter Tryz.func103, Tryz.ntmps103
  go_wp2
  go_quiet (fail)
  go_wp2
  rw [HV.out]
  go_ret
  exact ⟨rfl, gbDrewN _ _ _⟩

theorem cellAll {w w' : World} (g : w.grownBy w' none) {a : Addr} {v : Value} (h : w.cell? a = some v) : w'.cell? a = some v := g.cell h (by simp)
/-- What the loop of Resolve holds. -/
structure RGo (w wr : World) (A X : Nat) (c : C) : Prop where
  cap : Box wr A c
  slt : SBox wr X 0 0
  fz : ∀ i, wr.frozen? ⟨X, i, none⟩ = false
  gr : w.grownBy wr none
  lo : w.heap.size ≤ A ∧ w.heap.size ≤ X
  ne : A ≠ X
theorem RGo.kept {w wr w1 : World} {A X : Nat} {c : C} (h : RGo w wr A X c) (g : wr.grownBy w1 none) : RGo w w1 A X c :=
  ⟨h.cap.kept g, h.slt.kept g, fun i => (gbFrozen g h.slt.lt (by simp)).trans (h.fz i), gbTrans h.gr g, h.lo, h.ne⟩
theorem RGo.put {w wr : World} {A X : Nat} {c : C} (h : RGo w wr A X c) (d : C) :
    ∃ W, ((((((wr.setCell ⟨A, 0, none⟩ (.int .i64 d.k)).setCell ⟨A, 1, none⟩ (.int .i64 d.o)).setCell ⟨A, 2, none⟩ (.int .i64 d.r)).setCell ⟨A, 3, none⟩ (.int .u64 d.b)).setCell ⟨A, 4, none⟩ (.int .u64 d.g)).setCell ⟨A, 5, none⟩ (.int .i64 d.n)) = W ∧
      RGo w W A X d := by
  obtain ⟨W, hW, Z, gW⟩ := h.cap.put d
  exact ⟨W, hW, ⟨Z, h.slt.keep gW h.ne.symm, fun i => (gbFrozen gW h.slt.lt (by simpa using h.ne.symm)).trans (h.fz i), gbNew (gbTrans (gbAny h.gr _) gW) h.lo.1, h.lo, h.ne⟩⟩
theorem RGo.fin {w wr : World} {A X : Nat} {c : C} (h : RGo w wr A X c) (n i : Int) :
    ∃ W, (wr.setCell ⟨X, 0, none⟩ (.int .i64 n)).setCell ⟨X, 1, none⟩ (.int .i64 i) = W ∧ SBox W X n i ∧ w.grownBy W none := by
  obtain ⟨W, hW, Y, gW⟩ := h.slt.put n i
  exact ⟨W, hW, Y, gbNew (gbTrans (gbAny h.gr _) gW) h.lo.2⟩
theorem RGo.start {w W : World} {c : C} (g0 : w.grownBy W none) (Y : SBox W (w.heap.size + 1) 0 0) (fz : ∀ i, W.frozen? ⟨w.heap.size + 1, i, none⟩ = false) :
    ∃ V, W.alloc (.cells #[.int .i64 c.k, .int .i64 c.o, .int .i64 c.r, .int .u64 c.b, .int .u64 c.g, .int .i64 c.n] 25) = V ∧ RGo w V W.heap.size (w.heap.size + 1) c := by
  obtain ⟨V, hV, Z, gV⟩ := boxNew W c
  have h1 := g0.size
  have h4 := Y.lt
  exact ⟨V, hV, Z, Y.kept gV, fun i => (gbFrozen gV h4 (by simp)).trans (fz i), gbTrans g0 gV, by omega, by omega⟩

namespace M
theorem getN_wrapI (p t q : Nat) (hq : q ≤ 16) : IntKind.i64.wrap ((getN p t q : Nat) : Int) = ((getN p t q : Nat) : Int) := by
  have h1 := getN_lt p t q
  have h2 : 2 ^ q ≤ 2 ^ 16 := Nat.pow_le_pow_right (by omega) hq
  rw [IntKind.wrap_i64]
  omega
/-- The ways in which a level leads to none. -/
theorem lvl_none {S : St} {p l q : Nat} {k o r b g n : Int} (hq : rad S o = (q : Int)) (h : lvl S p ⟨k, o, r, b, g, n⟩ l = none) :
    q = 0 ∨ (q ≠ 0 ∧ n < 0) ∨ (q ≠ 0 ∧ 0 ≤ n ∧ (l : Int) < n) ∨ (∃ N m : Nat, q ≠ 0 ∧ n = (N : Int) ∧ N + m = l ∧ m < q) ∨ (∃ N m : Nat, q ≠ 0 ∧ n = (N : Int) ∧ N + m = l ∧ q ≤ m ∧ ((getN p m N : Nat) : Int) ≠ g) := by
  unfold lvl at h
  simp only at h
  rw [hq] at h
  by_cases h0 : q = 0
  · exact .inl h0
  · rw [if_neg (by omega)] at h
    by_cases h1 : n < 0
    · exact .inr (.inl ⟨h0, h1⟩)
    · by_cases h2 : (l : Int) < n
      · exact .inr (.inr (.inl ⟨h0, by omega, h2⟩))
      · rw [if_neg (by omega)] at h
        obtain ⟨N, rfl⟩ : ∃ N : Nat, n = (N : Int) := ⟨n.toNat, by omega⟩
        simp only [Int.toNat_natCast] at h
        by_cases h3 : l - N < q
        · exact .inr (.inr (.inr (.inl ⟨N, l - N, h0, rfl, by omega, h3⟩)))
        · by_cases h4 : ((getN p (l - N) N : Nat) : Int) = g
          · rw [if_pos h4, if_neg (by omega)] at h
            cases h
          · exact .inr (.inr (.inr (.inr ⟨N, l - N, h0, rfl, by omega, by omega, h4⟩)))
theorem lvl_some {S : St} {p l q a t : Nat} {k o r b g n : Int} (hq : rad S o = (q : Int)) (h : lvl S p ⟨k, o, r, b, g, n⟩ l = some (a, t)) :
    ∃ N m : Nat, q ≠ 0 ∧ n = (N : Int) ∧ N + m = l ∧ q + t = m ∧ ((getN p m N : Nat) : Int) = g ∧ a = getN p t q := by
  unfold lvl at h
  simp only at h
  rw [hq] at h
  by_cases h0 : q = 0
  · rw [if_pos (by omega)] at h; cases h
  · rw [if_neg (by omega)] at h
    by_cases h1 : n < 0 ∨ (l : Int) < n
    · rw [if_pos h1] at h; cases h
    · rw [if_neg h1] at h
      obtain ⟨N, rfl⟩ : ∃ N : Nat, n = (N : Int) := ⟨n.toNat, by omega⟩
      simp only [Int.toNat_natCast] at h
      by_cases h4 : ((getN p (l - N) N : Nat) : Int) = g
      · rw [if_pos h4] at h
        by_cases h3 : ((l - N : Nat) : Int) < (q : Int)
        · rw [if_pos h3] at h; cases h
        · rw [if_neg h3] at h
          simp only [Option.some.injEq, Prod.mk.injEq] at h
          obtain ⟨rfl, rfl⟩ := h
          exact ⟨N, l - N, h0, rfl, by omega, by omega, h4, rfl⟩
      · rw [if_neg h4] at h; cases h
end M

set_option maxRecDepth 10000 in
set_option maxHeartbeats 4000000 in
theorem rresolve_loop {w : World} {s : Nat} {O : Nat → Prop} {S : St} (HS : Hid (RAt u w s O S)) (HG : Hid (Good S)) (p d q0 : Nat) (k o r b g n : Int) (N A0 l0 E : Int) (hp : Hid (p < 18446744073709551616)) (h1 : 1 ≤ (d : Int)) (h2 : (d : Int) ≤ 16) (hq0 : IntKind.u64.wrap (2 ^ d) = (q0 : Int)) (hpq : decide (q0 ≤ p) = false) (hk : (k != 2) = false)
    (HRS : Hid ((match M.res S p 17 ⟨k, o, r, b, g, n⟩ d with | none => ((0, 0, 0, 6) : Int × Int × Int × Int) | some (n, a, t) => (n, a, t, 0)) = (N, A0, l0, E))) :
    Calls Tryz.prog 63 #[.pointer (some ⟨s, 0, none⟩), cv ⟨k, o, r, b, g, n⟩, .int .u64 p, .int .i64 d] w fun e w' => e = .returned (.tuple #[sv N A0, .int .i64 l0, .int .i64 E]) ∧ w.grownBy w' none := by
  have HD : Hid (d ≤ 16) := hideIt (by omega)
  have h3 : decide ((d : Int) < 1) = false := by simp; omega
  have h4 : decide ((16 : Int) < (d : Int)) = false := by simp; omega
  go_enter Tryz.func63, Tryz.ntmps63
  go_upto_region 1 with fail
  obtain ⟨W, hW, X, Y, hY, g0⟩ := capSlot w ⟨k, o, r, b, g, n⟩
  simp only at hW
  rw [hW]
  clear hW
  obtain ⟨x0, x1, x2, x3, x4, x5, _, _⟩ := X
  simp only at x0 x1 x2 x3 x4 x5
  go_upto_region 6 with fail
  obtain ⟨V, hV, R0⟩ := RGo.start (c := ⟨k, o, r, b, g, n⟩) g0 Y hY
  simp only at hV
  rw [hV]
  have HR0 := hideIt R0
  clear hV R0 Y hY x0 x1 x2 x3 x4 x5 h1 h2 h3 h4 hq0 hpq hk
  obtain ⟨A, hA⟩ : ∃ A, A = W.heap.size := ⟨_, rfl⟩
  obtain ⟨X, hX⟩ : ∃ X, X = w.heap.size + 1 := ⟨_, rfl⟩
  rw [← hA, ← hX] at HR0 ⊢
  clear hA hX g0
  go_wp2_with fail
  go_loopg [12, 13, 14, 15, 16, 17] 17 (fun y s12 s13 _ _ _ _ wr => ∃ (c : C) (l i : Nat), i + y = 17 ∧ s12 = .int .i64 l ∧ s13 = .int .i64 i ∧ Hid (l ≤ 16) ∧ Hid (RGo w wr A X c) ∧ Hid ((match M.res S p y c l with | none => ((0, 0, 0, 6) : Int × Int × Int × Int) | some (n, a, t) => (n, a, t, 0)) = (N, A0, l0, E)))
  case atStart => exact ⟨⟨k, o, r, b, g, n⟩, d, 0, by omega, rfl, rfl, HD, HR0, HRS⟩
  case round =>
    clear HRS HR0 HD
    obtain ⟨⟨k, o, r, b, g, n⟩, l, i, hi, rfl, rfl, hl, HR, HE⟩ := hrel
    by_cases hlt : i < 17
    · have hlt' : (i : Int) < 17 := by omega
      obtain ⟨gk, rfl⟩ : ∃ y, gk = y + 1 := ⟨gk - 1, by omega⟩
      obtain ⟨q, hq⟩ := M.rad_nat S o
      have HP := hideIt (rradix_is (HS.out.kept HR.out.gr) HG.out o q hq)
      have x1 := HR.out.cap.at1
      simp only at x1
      go_wp2_with fail
      refine HP.out.mono ?_
      rintro _ w1 ⟨rfl, g1⟩
      have HR1 := hideIt (HR.out.kept g1)
      clear HP x1 g1 HR
      have x1 := HR1.out.cap.all.2.1
      have x4 := HR1.out.cap.all.2.2.2.2.1
      have x5 := HR1.out.cap.all.2.2.2.2.2
      simp only at x1 x4 x5
      cases hv : M.lvl S p ⟨k, o, r, b, g, n⟩ l with
      | none =>
        have e := HE.out
        rw [M.res_no hv] at e
        simp only [Prod.mk.injEq] at e
        obtain ⟨rfl, rfl, rfl, rfl⟩ := e
        have hw := M.lvl_none hq hv
        clear HE hv hq
        go_upto_region 11 with fail
        rcases hw with rfl | ⟨hq0, hn⟩ | ⟨hq0, hn, hn2⟩ | ⟨M', m, hq0, rfl, hm, hmq⟩ | ⟨M', m, hq0, rfl, hm, hmq, hg⟩
        · have d0 : ((0 : Nat) : Int) = 0 := rfl
          refine wp_region_grown (by kernel_rfl) (by kernel_rfl) fun _ => ?_
          repeat (go_big_quiet_step (fail))
          refine wpQuiet_nil ?_
          rintro w2 ⟨⟨_, g2⟩, rfl⟩
          have HR2 := hideIt (HR1.out.kept g2)
          clear x1 x4 x5 g2
          obtain ⟨v0, v1, _⟩ := HR2.out.slt
          have f0 := HR2.out.fz 0
          have f1 := HR2.out.fz 1
          go_wp2
          obtain ⟨W5, hW5, Y5, g5⟩ := HR2.out.fin 0 0
          rw [hW5]
          clear hW5 v0 v1 f0 f1
          obtain ⟨y0, y1, _⟩ := Y5
          exact bodyPost_ret (v := .tuple #[sv 0 0, .int .i64 0, .int .i64 6]) (by simp [results, Tryz.results63, go_sem, y0, y1]) rfl ⟨rfl, g5⟩
        · have d0 : ((q : Int) == 0) = false := by simpa using hq0
          clear hq0
          refine wp_region_grown (by kernel_rfl) (by kernel_rfl) fun _ => ?_
          repeat (go_big_quiet_step (fail))
          refine wpQuiet_nil ?_
          rintro w2 ⟨⟨_, g2⟩, rfl⟩
          have HR2 := hideIt (HR1.out.kept g2)
          clear x1 x4 x5 g2
          obtain ⟨v0, v1, _⟩ := HR2.out.slt
          have f0 := HR2.out.fz 0
          have f1 := HR2.out.fz 1
          go_wp2
          obtain ⟨W5, hW5, Y5, g5⟩ := HR2.out.fin 0 0
          rw [hW5]
          clear hW5 v0 v1 f0 f1
          obtain ⟨y0, y1, _⟩ := Y5
          exact bodyPost_ret (v := .tuple #[sv 0 0, .int .i64 0, .int .i64 6]) (by simp [results, Tryz.results63, go_sem, y0, y1]) rfl ⟨rfl, g5⟩
        · have d0 : ((q : Int) == 0) = false := by simpa using hq0
          have d1 : ¬ n < 0 := by omega
          clear hq0 hn
          refine wp_region_grown (by kernel_rfl) (by kernel_rfl) fun _ => ?_
          repeat (go_big_quiet_step (fail))
          refine wpQuiet_nil ?_
          rintro w2 ⟨⟨_, g2⟩, rfl⟩
          have HR2 := hideIt (HR1.out.kept g2)
          clear x1 x4 x5 g2
          obtain ⟨v0, v1, _⟩ := HR2.out.slt
          have f0 := HR2.out.fz 0
          have f1 := HR2.out.fz 1
          go_wp2
          obtain ⟨W5, hW5, Y5, g5⟩ := HR2.out.fin 0 0
          rw [hW5]
          clear hW5 v0 v1 f0 f1
          obtain ⟨y0, y1, _⟩ := Y5
          exact bodyPost_ret (v := .tuple #[sv 0 0, .int .i64 0, .int .i64 6]) (by simp [results, Tryz.results63, go_sem, y0, y1]) rfl ⟨rfl, g5⟩
        · have d0 : ((q : Int) == 0) = false := by simpa using hq0
          have d6 : decide ((M' : Int) < 0) = false := by simp
          have d1 : decide (l < M') = false := by simp; omega
          have d2 : (l : Int) - (M' : Int) = (m : Int) := by omega
          have d3 : decide (m < q) = true := by simp; omega
          have d4 : (m : Int) ≤ 16 := by have := hl.out; omega
          clear hq0 hm hmq
          refine wp_region_grown (by kernel_rfl) (by kernel_rfl) fun _ => ?_
          repeat (go_big_quiet_step (fail))
          refine wpQuiet_nil ?_
          rintro w2 ⟨⟨_, g2⟩, rfl⟩
          have HR2 := hideIt (HR1.out.kept g2)
          clear x1 x4 x5 g2
          obtain ⟨v0, v1, _⟩ := HR2.out.slt
          have f0 := HR2.out.fz 0
          have f1 := HR2.out.fz 1
          go_wp2
          obtain ⟨W5, hW5, Y5, g5⟩ := HR2.out.fin 0 0
          rw [hW5]
          clear hW5 v0 v1 f0 f1
          obtain ⟨y0, y1, _⟩ := Y5
          exact bodyPost_ret (v := .tuple #[sv 0 0, .int .i64 0, .int .i64 6]) (by simp [results, Tryz.results63, go_sem, y0, y1]) rfl ⟨rfl, g5⟩
        · have d0 : ((q : Int) == 0) = false := by simpa using hq0
          have d6 : decide ((M' : Int) < 0) = false := by simp
          have d1 : decide (l < M') = false := by simp; omega
          have d2 : (l : Int) - (M' : Int) = (m : Int) := by omega
          have d3 : decide (m < q) = false := by simp; omega
          have d4 : (m : Int) ≤ 16 := by have := hl.out; omega
          have d5 : (((M.getN p m M' : Nat) : Int) != g) = true := by simpa using hg
          have HF := fun w => front_is w p l M' m hl.out hm hp.out
          clear hq0 hm hmq hg
          refine wp_region_grown (by kernel_rfl) (by kernel_rfl) fun _ => ?_
          repeat (go_big_quiet_step (((go_at_call 103; with_reducible exact callsGr (HF _)))))
          refine wpQuiet_nil ?_
          rintro w2 ⟨⟨_, g2⟩, rfl⟩
          have HR2 := hideIt (HR1.out.kept g2)
          clear x1 x4 x5 g2
          obtain ⟨v0, v1, _⟩ := HR2.out.slt
          have f0 := HR2.out.fz 0
          have f1 := HR2.out.fz 1
          go_wp2
          obtain ⟨W5, hW5, Y5, g5⟩ := HR2.out.fin 0 0
          rw [hW5]
          clear hW5 v0 v1 f0 f1
          obtain ⟨y0, y1, _⟩ := Y5
          exact bodyPost_ret (v := .tuple #[sv 0 0, .int .i64 0, .int .i64 6]) (by simp [results, Tryz.results63, go_sem, y0, y1]) rfl ⟨rfl, g5⟩
      | some at_ =>
        obtain ⟨a, t⟩ := at_
        have HV := hideIt hv
        obtain ⟨M', m, hq0, rfl, hm, ht, hg, rfl⟩ := M.lvl_some hq hv
        clear hv hq
        have d0 : ((q : Int) == 0) = false := by simpa using hq0
        have d6 : decide ((M' : Int) < 0) = false := by simp
        have d1 : decide (l < M') = false := by simp; omega
        have d2 : (l : Int) - (M' : Int) = (m : Int) := by omega
        have d3 : decide (m < q) = false := by simp; omega
        have d4 : (m : Int) ≤ 16 := by have := hl.out; omega
        have d5 : (((M.getN p m M' : Nat) : Int) != g) = false := by simpa using hg
        have HF := fun w => front_is w p l M' m hl.out hm hp.out
        have HF2 := hideIt (fun w => front_is w p m q t (by have := hl.out; omega) ht hp.out)
        have HWR := hideIt (M.getN_wrapI p t q (by have := hl.out; omega))
        have HN : Hid (q ≠ 0 ∧ M' + m = l ∧ q + t = m) := hideIt ⟨hq0, hm, ht⟩
        clear hq0 hm ht hg
        go_upto_region 11 with fail
        refine wp_region_grown (by kernel_rfl) (by kernel_rfl) fun _ => ?_
        repeat (go_big_quiet_step (((go_at_call 103; with_reducible exact callsGr (HF _)))))
        refine wpQuiet_nil ?_
        rintro w2 ⟨⟨_, g2⟩, rfl⟩
        have HR2 := hideIt (HR1.out.kept g2)
        clear x1 x4 x5 g2 HR1
        have x5 := HR2.out.cap.at5
        simp only at x5
        go_upto_region 14 with fail
        clear x5 d0 d1 d3 d5 d6 HF d2
        go_cut [15] from 37 to 107 (fun s15 wc => ∃ Y, s15 = .pointer (some ⟨Y, 0, none⟩) ∧ Hid (SBox wc Y o (M.getN p t q : Nat)) ∧ Hid (RGo w wc A X ⟨k, o, r, b, g, M'⟩))
        case first =>
          have x1 := HR2.out.cap.at1
          simp only at x1
          have hwr := HWR.out
          have T0 : w2.drew.cell? ⟨A, 1, none⟩ = some (.int .i64 o) := cellAll (gbDrew (gbRefl w2 none)) x1
          have HX1 := hideIt x1
          go_region_held3 (fun w' => w'.cell? ⟨A, 1, none⟩ = some (.int .i64 o))
            (first | with_reducible exact T0 | (refine cellAll ?_ HX1.out; repeat (first | with_reducible exact G3 | with_reducible exact gbRefl w2 none | with_reducible refine gbDrew ?_ | with_reducible refine gbAllocN ?_ _ | with_reducible refine gbSetNew ?_ _ _ _ (by with_reducible first | exact Nat.le_refl _ | exact G3.size))) | fail)
            ((first | (go_at_call 103; refine (HF2.out _).mono ?_; rintro _ w3 ⟨rfl, g3⟩; have hc3 := gcell g3; have hf3 := gfroz g3; have G3 : w2.grownBy w3 none := (by first | exact gbTrans (gbDrewN w2 1 none) g3 | exact gbTrans (gbDrew (gbAllocN (gbRefl w2 none) _)) g3)) | fail))
          · rename_i hold
            clear hold T0 x1
            obtain ⟨W4, hW4, Y4, g4⟩ := sboxNew w3 o (M.getN p t q : Nat)
            rw [hW4]
            go_wp2
            go_meet
            exact ⟨_, rfl, Y4, hideIt (HR2.out.kept (gbTrans G3 g4))⟩
          · rename_i hold
            clear hold T0 x1
            have Z0 : SBox w3 w2.heap.size 0 0 := ((SBox.made w2 0 0).kept (gbDrew (gbRefl _ none))).kept g3
            obtain ⟨W4, hW4, Y4, g4⟩ := Z0.put o (M.getN p t q : Nat)
            rw [hW4]
            go_wp2
            go_meet
            exact ⟨_, rfl, Y4, hideIt (HR2.out.kept (gbNew (gbTrans (gbAny G3 _) g4) (Nat.le_refl _)))⟩
        case rest =>
          obtain ⟨Y, rfl, HY, HR3⟩ := hcut
          clear HR2
          have d7 : (m : Int) - (q : Int) = (t : Int) := by have := HN.out; omega
          have d8 : (t : Int) ≤ 16 := by have := HN.out; omega
          obtain ⟨⟨k2, o2, r2, b2, g2', n2⟩, hc2⟩ : ∃ c, M.getC S o (M.getN p t q : Nat) = c := ⟨_, rfl⟩
          have HP := hideIt (rget_is (HS.out.kept HR3.out.gr) HG.out o (M.getN p t q : Nat) k2 o2 r2 b2 g2' n2 _ hc2 rfl)
          have HC := hideIt hc2
          clear hc2
          obtain ⟨y0, y1, _⟩ := HY.out
          go_wp2_with fail
          refine HP.out.mono ?_
          rintro _ w4 ⟨rfl, g4⟩
          have HR4 := hideIt (HR3.out.kept g4)
          have HY4 := hideIt (HY.out.kept g4)
          clear HP y0 y1 HR3 HY
          go_upto_region 17 with fail
          obtain ⟨W5, hW5, Z5, g5⟩ := boxNew w4 ⟨k2, o2, r2, b2, g2', n2⟩
          simp only at hW5
          rw [hW5]
          have HR5 := hideIt (HR4.out.kept g5)
          have HY5 := hideIt (HY4.out.kept g5)
          clear hW5 HR4 HY4 d7 d8
          obtain ⟨z0, z1, z2, z3, z4, z5, _, _⟩ := Z5
          simp only at z0 z1 z2 z3 z4 z5
          have stop : ∀ (hend : t = 0 ∨ k2 ≠ 2), N = o ∧ A0 = (M.getN p t q : Nat) ∧ l0 = t ∧ E = 0 := by
            intro hend
            have e := HE.out
            rw [M.res_end HV.out (by rw [HC.out]; exact hend)] at e
            simp only [Prod.mk.injEq] at e
            exact ⟨e.1.symm, e.2.1.symm, e.2.2.1.symm, e.2.2.2.symm⟩
          cases ht : ((t : Int) == 0)
          · cases hk2 : (k2 != 2)
            · have HE2 : Hid ((match M.res S p gk ⟨k2, o2, r2, b2, g2', n2⟩ t with | none => ((0, 0, 0, 6) : Int × Int × Int × Int) | some (n, a, t) => (n, a, t, 0)) = (N, A0, l0, E)) := by
                have e := HE.out
                rw [M.res_on HV.out (by rw [HC.out]; simp at ht hk2; simp; exact ⟨ht, hk2⟩), HC.out] at e
                exact e
              clear stop HE
              obtain ⟨x0, x1, x2, x3, x4, x5, _, xf⟩ := HR5.out.cap
              have f0 := xf 0
              have f1 := xf 1
              have f2 := xf 2
              have f3 := xf 3
              have f4 := xf 4
              have f5 := xf 5
              clear xf
              go_upto_region 9 with fail
              obtain ⟨W6, hW6, R6⟩ := HR5.out.put ⟨k2, o2, r2, b2, g2', n2⟩
              simp only at hW6
              rw [hW6]
              clear hW6 x0 x1 x2 x3 x4 x5 f0 f1 f2 f3 f4 f5 z0 z1 z2 z3 z4 z5
              go_wp2
              go_roundg gk
              case rel => exact ⟨⟨k2, o2, r2, b2, g2', n2⟩, t, i + 1, by omega, rfl, by go_num, hideIt (by have := HN.out; omega), R6, HE2⟩
              case measure => omega
            · obtain ⟨rfl, rfl, rfl, rfl⟩ := stop (.inr (by simpa using hk2))
              clear stop HE
              obtain ⟨y0, y1, _⟩ := HY5.out
              obtain ⟨v0, v1, _⟩ := HR5.out.slt
              have f0 := HR5.out.fz 0
              have f1 := HR5.out.fz 1
              go_wp2
              obtain ⟨W6, hW6, Y6, g6⟩ := HR5.out.fin N (M.getN p t q : Nat)
              rw [hW6]
              clear hW6 y0 y1 f0 f1 v0 v1
              obtain ⟨y0, y1, _⟩ := Y6
              exact bodyPost_ret (v := .tuple #[sv N (M.getN p t q : Nat), .int .i64 t, .int .i64 0]) (by simp [results, Tryz.results63, go_sem, y0, y1]) rfl ⟨rfl, g6⟩
          · obtain ⟨rfl, rfl, rfl, rfl⟩ := stop (.inl (by simpa using ht))
            clear stop HE
            obtain ⟨y0, y1, _⟩ := HY5.out
            obtain ⟨v0, v1, _⟩ := HR5.out.slt
            have f0 := HR5.out.fz 0
            have f1 := HR5.out.fz 1
            go_wp2
            obtain ⟨W6, hW6, Y6, g6⟩ := HR5.out.fin N (M.getN p t q : Nat)
            rw [hW6]
            clear hW6 y0 y1 f0 f1 v0 v1
            obtain ⟨y0, y1, _⟩ := Y6
            exact bodyPost_ret (v := .tuple #[sv N (M.getN p t q : Nat), .int .i64 t, .int .i64 0]) (by simp [results, Tryz.results63, go_sem, y0, y1]) rfl ⟨rfl, g6⟩
    · obtain rfl : i = 17 := by omega
      obtain rfl : gk = 0 := by omega
      have e := HE.out
      simp only [M.res, Prod.mk.injEq] at e
      obtain ⟨rfl, rfl, rfl, rfl⟩ := e
      obtain ⟨v0, v1, _⟩ := HR.out.slt
      have f0 := HR.out.fz 0
      have f1 := HR.out.fz 1
      go_wp2
      obtain ⟨W5, hW5, Y5, g5⟩ := HR.out.fin 0 0
      rw [hW5]
      clear hW5 v0 v1 f0 f1
      obtain ⟨y0, y1, _⟩ := Y5
      exact bodyPost_ret (v := .tuple #[sv 0 0, .int .i64 0, .int .i64 6]) (by simp [results, Tryz.results63, go_sem, y0, y1]) rfl ⟨rfl, g5⟩


set_option maxHeartbeats 1000000 in
theorem rresolve_rng (w : World) (s p : Nat) (k o r b g n d : Int) (h : Hid (¬ (1 ≤ d ∧ d ≤ 16))) :
    Calls Tryz.prog 63 #[.pointer (some ⟨s, 0, none⟩), cv ⟨k, o, r, b, g, n⟩, .int .u64 p, .int .i64 d] w fun e w' => e = .returned (.tuple #[sv 0 0, .int .i64 0, .int .i64 1]) ∧ w.grownBy w' none := by
  have go : ∀ (b0 : Bool) (h0 : decide (d < 1) = b0) (h1 : b0 = false → decide (16 < d) = true), Calls Tryz.prog 63 #[.pointer (some ⟨s, 0, none⟩), cv ⟨k, o, r, b, g, n⟩, .int .u64 p, .int .i64 d] w fun e w' => e = .returned (.tuple #[sv 0 0, .int .i64 0, .int .i64 1]) ∧ w.grownBy w' none := by
    intro b0 h0 h1
    cases b0
    · have h2 := h1 rfl
      clear h1
      go_enter Tryz.func63, Tryz.ntmps63
      go_upto_region 1 with fail
      obtain ⟨W, hW, X, Y, hY, g0⟩ := capSlot w ⟨k, o, r, b, g, n⟩
      simp only at hW
      rw [hW]
      clear hW
      obtain ⟨y0, y1, _⟩ := id Y
      have x0 := X.at0
      simp only at x0
      have f0 := hY 0
      have f1 := hY 1
      clear hY
      go_wp2
      obtain ⟨W2, hW2, Y2, g2⟩ := Y.put 0 0
      rw [hW2]
      clear hW2 y0 y1 f0 f1
      obtain ⟨y0, y1, _⟩ := Y2
      exact bodyPost_ret (v := .tuple #[sv 0 0, .int .i64 0, .int .i64 1]) (by simp [results, Tryz.results63, go_sem, y0, y1]) rfl ⟨rfl, gbNew (gbTrans (gbAny g0 _) g2) (Nat.le_succ _)⟩
    · clear h1
      go_enter Tryz.func63, Tryz.ntmps63
      go_upto_region 1 with fail
      obtain ⟨W, hW, X, Y, hY, g0⟩ := capSlot w ⟨k, o, r, b, g, n⟩
      simp only at hW
      rw [hW]
      clear hW
      obtain ⟨y0, y1, _⟩ := id Y
      have x0 := X.at0
      simp only at x0
      have f0 := hY 0
      have f1 := hY 1
      clear hY
      go_wp2
      obtain ⟨W2, hW2, Y2, g2⟩ := Y.put 0 0
      rw [hW2]
      clear hW2 y0 y1 f0 f1
      obtain ⟨y0, y1, _⟩ := Y2
      exact bodyPost_ret (v := .tuple #[sv 0 0, .int .i64 0, .int .i64 1]) (by simp [results, Tryz.results63, go_sem, y0, y1]) rfl ⟨rfl, gbNew (gbTrans (gbAny g0 _) g2) (Nat.le_succ _)⟩
  exact go _ rfl (fun e => by have := h.out; simp at e ⊢; omega)

set_option maxHeartbeats 1000000 in
theorem rresolve_adr (w : World) (s p d q0 : Nat) (k o r b g n : Int) (h3 : decide ((d : Int) < 1) = false) (h4 : decide ((16 : Int) < (d : Int)) = false) (h2 : (d : Int) ≤ 16) (hq0 : IntKind.u64.wrap (2 ^ d) = (q0 : Int)) (hpq : decide (q0 ≤ p) = true) :
    Calls Tryz.prog 63 #[.pointer (some ⟨s, 0, none⟩), cv ⟨k, o, r, b, g, n⟩, .int .u64 p, .int .i64 d] w fun e w' => e = .returned (.tuple #[sv 0 0, .int .i64 0, .int .i64 1]) ∧ w.grownBy w' none := by
  go_enter Tryz.func63, Tryz.ntmps63
  go_upto_region 1 with fail
  obtain ⟨W, hW, X, Y, hY, g0⟩ := capSlot w ⟨k, o, r, b, g, n⟩
  simp only at hW
  rw [hW]
  clear hW
  obtain ⟨y0, y1, _⟩ := id Y
  have x0 := X.at0
  simp only at x0
  have f0 := hY 0
  have f1 := hY 1
  clear hY
  go_wp2
  obtain ⟨W2, hW2, Y2, g2⟩ := Y.put 0 0
  rw [hW2]
  clear hW2 y0 y1 f0 f1
  obtain ⟨y0, y1, _⟩ := Y2
  exact bodyPost_ret (v := .tuple #[sv 0 0, .int .i64 0, .int .i64 1]) (by simp [results, Tryz.results63, go_sem, y0, y1]) rfl ⟨rfl, gbNew (gbTrans (gbAny g0 _) g2) (Nat.le_succ _)⟩

set_option maxHeartbeats 1000000 in
theorem rresolve_kind (w : World) (s p d q0 : Nat) (k o r b g n : Int) (h3 : decide ((d : Int) < 1) = false) (h4 : decide ((16 : Int) < (d : Int)) = false) (h2 : (d : Int) ≤ 16) (hq0 : IntKind.u64.wrap (2 ^ d) = (q0 : Int)) (hpq : decide (q0 ≤ p) = false) (hk : (k != 2) = true) :
    Calls Tryz.prog 63 #[.pointer (some ⟨s, 0, none⟩), cv ⟨k, o, r, b, g, n⟩, .int .u64 p, .int .i64 d] w fun e w' => e = .returned (.tuple #[sv 0 0, .int .i64 0, .int .i64 2]) ∧ w.grownBy w' none := by
  go_enter Tryz.func63, Tryz.ntmps63
  go_upto_region 1 with fail
  obtain ⟨W, hW, X, Y, hY, g0⟩ := capSlot w ⟨k, o, r, b, g, n⟩
  simp only at hW
  rw [hW]
  clear hW
  obtain ⟨y0, y1, _⟩ := id Y
  have x0 := X.at0
  simp only at x0
  have f0 := hY 0
  have f1 := hY 1
  clear hY
  go_wp2
  obtain ⟨W2, hW2, Y2, g2⟩ := Y.put 0 0
  rw [hW2]
  clear hW2 y0 y1 f0 f1
  obtain ⟨y0, y1, _⟩ := Y2
  exact bodyPost_ret (v := .tuple #[sv 0 0, .int .i64 0, .int .i64 2]) (by simp [results, Tryz.results63, go_sem, y0, y1]) rfl ⟨rfl, gbNew (gbTrans (gbAny g0 _) g2) (Nat.le_succ _)⟩

theorem rresolve_is {w : World} {s : Nat} {O : Nat → Prop} {S : St} (h : RAt u w s O S) (G : Good S) (p : Nat) (k o r b g n d N A l E : Int) (ho : I64 o) (hp : p < 18446744073709551616) (hr : M.rs S ⟨k, o, r, b, g, n⟩ p d = (N, A, l, E)) :
    Calls Tryz.prog 63 #[.pointer (some ⟨s, 0, none⟩), cv ⟨k, o, r, b, g, n⟩, .int .u64 p, .int .i64 d] w fun e w' => e = .returned (.tuple #[sv N A, .int .i64 l, .int .i64 E]) ∧ w.grownBy w' none := by
  unfold M.rs at hr
  by_cases hd : 1 ≤ d ∧ d ≤ 16
  · obtain ⟨D, rfl⟩ : ∃ D : Nat, d = (D : Int) := ⟨d.toNat, by omega⟩
    have hq := shl_one D (by omega)
    have ha : M.adr p D = decide (p < 2 ^ D) := by
      unfold M.adr
      rw [decide_eq_true hd.1, decide_eq_true hd.2]
      simp
    rw [ha] at hr
    by_cases hpq : p < 2 ^ D
    · rw [if_pos (by simpa using hpq)] at hr
      by_cases hk : k = 2
      · rw [if_pos hk] at hr
        exact rresolve_loop h G p D (2 ^ D) k o r b g n N A l E hp hd.1 hd.2 hq (by simpa using hpq) (by simpa using hk) hr
      · rw [if_neg hk] at hr
        simp only [Prod.mk.injEq] at hr
        obtain ⟨rfl, rfl, rfl, rfl⟩ := hr
        exact rresolve_kind w s p D (2 ^ D) k o r b g n (by simp; omega) (by simp; omega) hd.2 hq (by simpa using hpq) (by simpa using hk)
    · rw [if_neg (by simpa using hpq)] at hr
      simp only [Prod.mk.injEq] at hr
      obtain ⟨rfl, rfl, rfl, rfl⟩ := hr
      exact rresolve_adr w s p D (2 ^ D) k o r b g n (by simp; omega) (by simp; omega) hd.2 hq (by simpa using hpq)
  · have ha : M.adr p d = false := by
      unfold M.adr
      by_cases h1 : 1 ≤ d
      · have h2 : ¬ d ≤ 16 := fun e => hd ⟨h1, e⟩
        rw [decide_eq_false h2]; simp
      · rw [decide_eq_false h1]; simp
    rw [ha, if_neg (by simp)] at hr
    simp only [Prod.mk.injEq] at hr
    obtain ⟨rfl, rfl, rfl, rfl⟩ := hr
    exact rresolve_rng w s p k o r b g n d hd

end Go.Proofs.YtdnoidnpiaadaaaGreat
