/-
  THE CONTRACT of donjonlaw08's Made: both stores, made alike.
-/
import Derived.Test.YtakappaaiknpfaaBoth
import Derived.Test.YtakappaaiknpfaaArgs
import Derived.Deep.LoopGhost
import Derived.Deep.RegionHeld3
namespace Go.Proofs.Ytakappaaiknpfaa
open Go.RowKit
set_option linter.unusedVariables false

theorem M.radArg (z : Int) : ∃ U r : Nat, IntKind.u64.wrap z = (U : Int) ∧ 1 + (U : Int) % 4 = (r : Int) := by
  obtain ⟨U, hU, _⟩ := M.wrap_nat z
  exact ⟨U, 1 + U % 4, hU, by omega⟩

/-- The eight cells of what is put. -/
abbrev Eight (w : World) (y : Addr) (n s : Int) (c : C) : Prop := w.cell? y = some (.int .i64 n) ∧ w.cell? ⟨y.block, y.off + 1, none⟩ = some (.int .i64 s) ∧ w.cell? ⟨y.block, y.off + 2, none⟩ = some (.int .i64 c.k) ∧ w.cell? ⟨y.block, y.off + 3, none⟩ = some (.int .i64 c.o) ∧ w.cell? ⟨y.block, y.off + 4, none⟩ = some (.int .i64 c.r) ∧ w.cell? ⟨y.block, y.off + 5, none⟩ = some (.int .u64 c.b) ∧ w.cell? ⟨y.block, y.off + 6, none⟩ = some (.int .u64 c.g) ∧ w.cell? ⟨y.block, y.off + 7, none⟩ = some (.int .i64 c.n)
theorem El8.tup {w : World} {y : Addr} {n s : Int} {c : C} (h : El8 w y n s c) : Eight w y n s c := ⟨h.at0, h.at1, h.at2, h.at3, h.at4, h.at5, h.at6, h.at7⟩

set_option maxRecDepth 10000 in
set_option maxHeartbeats 4000000 in
theorem made_is (xo : Option Addr) (len cap : Nat) (yo : Option Addr) (len' cap' : Nat) (w : World) (HX : Hid (∀ i, i < len → ∃ x z, xo = some x ∧ w.cell? (x.add i) = some (.int .i64 z))) (HY : Hid (∀ i, i < len' → ∃ x n s c, yo = some x ∧ El8 w (x.add (i * 8)) n s c ∧ Op8 n c)) :
    Calls Try.prog 8 #[.slice xo len cap, .slice yo len' cap'] w fun e w' => ∃ p q n P R S, e = .returned (.tuple #[.pointer (some ⟨p, 0, none⟩), .pointer (some ⟨q, 0, none⟩), .bool true]) ∧ Both w w' P R p q n S S := by
  go_enter Try.func8, Try.ntmps8
  go_wp2_with fail
  refine (new_is _).mono ?_
  rintro _ w1 ⟨p, rfl, A1, g1⟩
  obtain ⟨w2, hw2', P0, R0, B2⟩ := bothNew g1 A1
  have HB2 := hideIt B2
  clear A1 B2
  go_wp2_with fail
  clear hw2'
  obtain ⟨q, hq⟩ : ∃ q, q = w1.heap.size := ⟨_, rfl⟩
  rw [← hq] at HB2 ⊢
  clear hq
  go_loopg [9, 10] 4 (fun y i _ wr => ∃ (j : Nat) (S : St) (P R : Nat → Prop), j + y = 4 ∧ i = .int .i64 j ∧ Hid (Both w wr P R p q j S S))
  case atStart => exact ⟨0, _, P0, R0, by omega, rfl, HB2⟩
  case round =>
    clear HB2 g1
    obtain ⟨j, S, P, R, hj, rfl, HB⟩ := hrel
    by_cases hlt : j < 4
    · have hlt' : (j : Int) < 4 := by omega
      have hij : Hid (I64 j) := hideIt (i64_of (by omega) (by omega))
      by_cases hl : j < len
      · have hl' : (j : Int) < (len : Int) := by omega
        obtain ⟨x, z, rfl, hz0⟩ := HX.out j hl
        have hz : wr.cell? (x.add j) = some (.int .i64 z) := (HB.out.bel.cell (World.block_lt_of_cell? w _ hz0)).trans hz0
        obtain ⟨U, r, hU, hr⟩ := M.radArg z
        obtain ⟨ae, hae⟩ : ∃ ae, M.addE S j r = ae := ⟨_, rfl⟩
        have HAE := hideIt hae
        clear hae hz0
        go_wp2_with fail
        clear hz hU hr
        refine (add_is HB.out.sp HB.out.gs j r ae hij.out (by omega) HAE.out).mono ?_
        rintro _ w8 ⟨rfl, A8, F8⟩
        have HB8 := hideIt (HB.out.prog F8 A8 (HB.out.gs.add j r) (fun i hi => by rcases hi with e | ⟨e1, e2⟩; exact .inl e; exact .inr ⟨by omega, e2⟩))
        clear A8 F8 HB
        go_wp2_with fail
        refine (radd_is HB8.out.rp HB8.out.gt j r ae HAE.out).mono ?_
        rintro _ w9 ⟨rfl, A9, F9⟩
        have HB9 := hideIt (HB8.out.doc F9 A9 (HB8.out.gt.add j r) (fun i hi => hi))
        clear A9 F9 HB8
        go_wp2
        go_roundg (gk - 1)
        case rel => exact ⟨j + 1, _, _, _, by omega, by go_num, HB9⟩
        case measure => omega
      · have hl' : ¬ (j : Int) < (len : Int) := by omega
        obtain ⟨ae, hae⟩ : ∃ ae, M.addE S j 2 = ae := ⟨_, rfl⟩
        have HAE := hideIt hae
        clear hae
        go_wp2_with fail
        refine (add_is HB.out.sp HB.out.gs j 2 ae hij.out (by omega) HAE.out).mono ?_
        rintro _ w8 ⟨rfl, A8, F8⟩
        have HB8 := hideIt (HB.out.prog F8 A8 (HB.out.gs.add j 2) (fun i hi => by rcases hi with e | ⟨e1, e2⟩; exact .inl e; exact .inr ⟨by omega, e2⟩))
        clear A8 F8 HB
        go_wp2_with fail
        refine (radd_is HB8.out.rp HB8.out.gt j 2 ae HAE.out).mono ?_
        rintro _ w9 ⟨rfl, A9, F9⟩
        have HB9 := hideIt (HB8.out.doc F9 A9 (HB8.out.gt.add j 2) (fun i hi => hi))
        clear A9 F9 HB8
        go_wp2
        go_roundg (gk - 1)
        case rel => exact ⟨j + 1, _, _, _, by omega, by go_num, HB9⟩
        case measure => omega
    · have hlt' : ¬ (j : Int) < 4 := by omega
      obtain rfl : j = 4 := by omega
      go_wp2_with fail
      go_loopg [11] 60 (fun y i wx => ∃ (j : Nat) (S : St) (P R : Nat → Prop), j + y = 60 ∧ i = .int .i64 j ∧ Hid (Both w wx P R p q 4 S S))
      case atStart => exact ⟨0, _, _, _, by omega, rfl, HB⟩
      case round =>
        clear HB
        obtain ⟨j, S, P, R, hj, rfl, HB⟩ := hrel
        by_cases hlt : j < len' ∧ j < 60
        · obtain ⟨hl, hl60⟩ := hlt
          have hl' : (j : Int) < (len' : Int) := by omega
          have hl60' : (j : Int) < 60 := by omega
          obtain ⟨x, n, s, ⟨k, o, r, b, g, t⟩, rfl, E0, ⟨hn, hb, hg⟩⟩ := HY.out j hl
          simp only at hb hg
          obtain ⟨y, hy⟩ : ∃ y, y = x.add (j * 8) := ⟨_, rfl⟩
          rw [← hy] at E0
          have hyw : Hid (y.block < w.heap.size) := hideIt (World.block_lt_of_cell? w _ E0.at0)
          have HE := hideIt E0
          have low : Hid (∀ w', Below w.heap.size w w' → Eight w' y n s ⟨k, o, r, b, g, t⟩) := hideIt (fun w' b => (HE.out.low b).tup)
          have HN : Hid (I64 n ∧ 0 ≤ b ∧ 0 ≤ g) := hideIt ⟨hn, hb, hg⟩
          obtain ⟨ae, hae⟩ : ∃ ae, M.putE S n s ⟨k, o, r, b, g, t⟩ = ae := ⟨_, rfl⟩
          have HAE := hideIt hae
          have HBd := hideIt (HB.out.kept (gbDrewN wr 1 none))
          clear E0 hn hb hg hae
          go_upto_region 15 with fail
          have T0 : Eight wr.drew y n s ⟨k, o, r, b, g, t⟩ := low.out _ HBd.out.bel
          have T00 := low.out _ HB.out.bel
          rw [hy] at T0 T00
          go_region_held3 (fun w' => Eight w' (x.add (j * 8)) n s ⟨k, o, r, b, g, t⟩)
            (first | with_reducible exact T0 | with_reducible exact T8 | with_reducible exact T9 | fail)
            ((first | (go_at_call 21; refine (put_is HBd.out.sp HBd.out.gs n s k o r b g t ae HN.out.1 HN.out.2.1 HN.out.2.2 HAE.out).mono ?_; rintro _ w8 ⟨rfl, A8, F8⟩; have HB8 := hideIt (HBd.out.prog F8 A8 (HBd.out.gs.put n s _) (fun i hi => .inl hi)); have T8 : Eight w8 (x.add (j * 8)) n s ⟨k, o, r, b, g, t⟩ := (by rw [← hy]; exact low.out _ HB8.out.bel); clear A8 F8) | (go_at_call 23; refine (rput_is HB8.out.rp HB8.out.gt n s k o r b g t ae HAE.out).mono ?_; rintro _ w9 ⟨rfl, A9, F9⟩; have HB9 := hideIt (HB8.out.doc F9 A9 (HB8.out.gt.put n s _) (fun i hi => .inl hi)); have T9 : Eight w9 (x.add (j * 8)) n s ⟨k, o, r, b, g, t⟩ := (by rw [← hy]; exact low.out _ HB9.out.bel); clear A9 F9) | fail))
          rename_i hold
          clear hold T0 T00 T8 T9
          go_wp2
          go_roundg (gk - 1)
          case rel => exact ⟨j + 1, _, _, _, by omega, by go_num, HB9⟩
          case measure => omega
        · by_cases hl : j < len'
          · have hl' : (j : Int) < (len' : Int) := by omega
            have hl60 : ¬ (j : Int) < 60 := by omega
            go_wp2
            exact bodyPost_ret (v := .tuple #[.pointer (some ⟨p, 0, none⟩), .pointer (some ⟨q, 0, none⟩), .bool true]) (by simp [results, Try.results8, go_sem]) rfl ⟨p, q, rfl, 4, P, R, S, HB.out⟩
          · have hl' : ¬ (j : Int) < (len' : Int) := by omega
            go_wp2
            exact bodyPost_ret (v := .tuple #[.pointer (some ⟨p, 0, none⟩), .pointer (some ⟨q, 0, none⟩), .bool true]) (by simp [results, Try.results8, go_sem]) rfl ⟨p, q, rfl, 4, P, R, S, HB.out⟩

end Go.Proofs.Ytakappaaiknpfaa
