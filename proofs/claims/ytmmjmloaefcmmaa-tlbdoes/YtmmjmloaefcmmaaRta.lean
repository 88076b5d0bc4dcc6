/-
  THE DOCUMENT's SIDE: the contract of donjonref14's Agrees.
-/
import Derived.Test.YtmmjmloaefcmmaaRtt
namespace Go.Proofs.Ytmmjmloaefcmmaa
set_option maxRecDepth 10000
open Go.RowKit
set_option linter.unusedVariables false

set_option maxHeartbeats 4000000 in
theorem ragrees_at (w : World) (t n cap m b nm : Nat) (x : Option Addr) (F : Nat → Nat) (L : List K) (hc : w.cell? ⟨t, 0, none⟩ = some (.slice x n cap)) (hel : Els w x L) (hn : L.length = n) (h8 : n ≤ 1000) (hG : Good L) (hm : Rm w m b nm F) (s dir : Int) (r : Bool) (h : M.ka nm F L s dir = r) :
    Calls Try.prog 26 #[.pointer (some ⟨t, 0, none⟩), .pointer (some ⟨m, 0, none⟩), .int .i64 s, .int .i64 dir] w fun x w' => x = .returned (.bool r) ∧ w.grownBy w' none := by
  have HC := hideIt hc
  have HE := hideIt hel
  have HN := hideIt hn
  have HG := hideIt hG
  have HM := hideIt hm
  have HH := hideIt h
  have qe := eqGuard_r
  have qn := run_neq_r
  clear h hel hn hG hm hc
  go_enter Try.func26, Try.ntmps26
  go_wp2
  go_loopg [9] n (fun gk i wr => ∃ j : Nat, j + gk = n ∧ i = .int .i64 j ∧ w.grownBy wr none ∧ Hid (M.ka nm F (L.drop j) s dir = r))
  case atStart => exact ⟨0, by omega, rfl, gbRefl _ _, HH⟩
  case round =>
    obtain ⟨j, hj, rfl, gw, hg⟩ := hrel
    have hc := gw.cell HC.out (by simp)
    by_cases hlt : j < n
    · obtain ⟨k, hk⟩ : ∃ k, L[j]? = some k := ⟨L[j]'(by rw [HN.out]; exact hlt), List.getElem?_eq_getElem _⟩
      obtain ⟨g, rfl, k0, k1, k2, k3, k4, _, _⟩ := HE.out wr gw j k hk
      have hd := M.ka_drop (n := nm) (F := F) (s := s) (dir := dir) hk
      have hnp := (HG.out.num k (List.mem_of_getElem? hk)).2
      have hp0 : 0 ≤ k.p := by simp only [M.np, Bool.and_eq_true, decide_eq_true_eq] at hnp; omega
      have hp1 : k.p < 256 := by simp only [M.np, Bool.and_eq_true, decide_eq_true_eq] at hnp; omega
      have hg := hg.out
      rw [hd] at hg
      have HK := hideIt hk
      clear hd hk hnp
      unfold M.kag at hg
      cases hs : (k.s == s) with
      | true =>
        rw [hs] at hg
        simp only [Bool.not_true, Bool.false_or] at hg
        obtain ⟨⟨⟨v, o, y⟩, f⟩, hp⟩ : ∃ q, M.pe nm F dir (k.p * 16) = q := ⟨_, rfl⟩
        rw [hp] at hg
        have HP := rpage_is wr m b nm F dir (16 * k.p) ⟨v, o, y⟩ f (HM.out.kept gw) (by rw [Int.mul_comm]; exact hp)
        clear hp
        go_wp2_with fail
        refine HP.mono ?_
        rintro e w3 ⟨rfl, g3⟩
        go_upto_region 6 with fail
        obtain ⟨W4, hW4, Z, h4⟩ := boxNew w3 ⟨v, o, y⟩ 35
        simp only at hW4
        rw [hW4]
        clear hW4 hc k0 k1 k2 k3 k4
        have G4 := gbTrans (gbTrans gw g3) h4
        have hc := G4.cell HC.out (by simp)
        obtain ⟨g', hg', k0, k1, k2, k3, k4, _, _⟩ := HE.out W4 G4 j k HK.out
        simp only [Option.some.injEq, Addr.mk.injEq, and_true] at hg'
        subst hg'
        obtain ⟨z0, z1, z2⟩ := Z.at'
        simp only at z0 z1 z2
        have j1 : (j : Int) < (n : Int) := by omega
        clear HP g3 h4 Z
        cases c1 : (f == 0) with
        | true =>
          have c2 : (f != 0) = false := by simpa using c1
          rw [c1, Bool.true_and] at hg
          cases c3 : M.eq ⟨v, o, y⟩ k.e with
          | true =>
            rw [c3, Bool.true_and] at hg
            have hg := hideIt hg
            have c3 : M.eq ⟨v, o, y⟩ ⟨k.e.v, k.e.w, k.e.a⟩ = true := c3
            go_region
            go_wp2
            go_roundg (gk - 1)
            case rel => exact ⟨j + 1, by omega, by go_num, gbTrans G4 (gbDrewN _ 1 none), hg⟩
            case measure => omega
          | false =>
            rw [c3, Bool.false_and] at hg
            subst hg
            have c3 : M.eq ⟨v, o, y⟩ ⟨k.e.v, k.e.w, k.e.a⟩ = false := c3
            go_region
            go_wp2
            go_ret
            exact ⟨rfl, gbTrans G4 (gbDrewN _ 1 none)⟩
        | false =>
          have c2 : (f != 0) = true := by simpa using c1
          rw [c1, Bool.false_and, Bool.false_and] at hg
          subst hg
          go_region
          go_wp2
          go_ret
          exact ⟨rfl, gbTrans G4 (gbDrewN _ 1 none)⟩
      | false =>
        rw [hs] at hg
        simp only [Bool.not_false, Bool.true_or, Bool.true_and] at hg
        have hg := hideIt hg
        go_wp2
        go_roundg (gk - 1)
        case rel => exact ⟨j + 1, by omega, by go_num, gw, hg⟩
        case measure => omega
    · have hg := hg.out
      rw [M.ka_end (by rw [HN.out]; omega)] at hg
      subst hg
      go_wp2
      go_ret
      exact ⟨rfl, gw⟩
theorem ragrees_is {w0 w : World} {O : Nat → Prop} {t : Nat} {L : List K} (h : Tr w0 w O t L) {m b n : Nat} {F : Nat → Nat} (hm : Rm w m b n F) (s dir : Int) (r : Bool) (hr : M.ka n F L s dir = r) :
    Calls Try.prog 26 #[.pointer (some ⟨t, 0, none⟩), .pointer (some ⟨m, 0, none⟩), .int .i64 s, .int .i64 dir] w fun x w' => x = .returned (.bool r) ∧ w.grownBy w' none := by
  obtain ⟨v, h1, h2, _⟩ := h.ex
  obtain ⟨x, cap, rfl, _, _, h3⟩ := h2.els
  exact ragrees_at w t _ cap m b n x F L (cellOf h1) h3 rfl (by have := h.gd.len; omega) h.gd hm s dir r hr
end Go.Proofs.Ytmmjmloaefcmmaa
