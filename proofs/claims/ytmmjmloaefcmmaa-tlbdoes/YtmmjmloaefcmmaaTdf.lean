/-
  THE CONTRACTS of slices.DeleteFunc, letGo, Drop, Flush, dropEldest.
-/
import Derived.Test.YtmmjmloaefcmmaaTdl
namespace Go.Proofs.Ytmmjmloaefcmmaa
set_option maxRecDepth 10000
open Go.RowKit
set_option linter.unusedVariables false

/-! ### What DeleteFunc goes through, in plain lists -/
/-- The first i of C are what is left of the first j of L; behind j nothing has turned. -/
structure Mid (P : K → Bool) (L C : List K) (n i j : Nat) : Prop where
  len : C.length = n
  le : i < j
  fst : C.take i = (L.take j).filter fun k => !P k
  snd : C.drop j = L.drop j
theorem Mid.start {P : K → Bool} {L : List K} {n f : Nat} (hn : L.length = n) (h : First P L n f) (hf : f < n) : Mid P L L n f (f + 1) := by
  refine ⟨hn, by omega, ?_, rfl⟩
  have hk : L[f]? = some L[f] := List.getElem?_eq_getElem (by omega)
  rw [List.take_add_one, List.filter_append, hk]
  have e1 : (L.take f).filter (fun k => !P k) = L.take f := by
    refine List.filter_eq_self.2 (fun k hk => ?_)
    obtain ⟨j, hj⟩ := List.getElem?_of_mem hk
    rw [List.getElem?_take] at hj
    split at hj
    · rw [h.no j k (by assumption) hj]; rfl
    · simp at hj
  rw [e1]
  simp [h.yes _ hk]
theorem Mid.at {P : K → Bool} {L C : List K} {n i j : Nat} (h : Mid P L C n i j) {k : K} (hk : L[j]? = some k) : C[j]? = some k := by
  have e := congrArg (fun l => l[0]?) h.snd
  simpa using e.trans (by simpa using hk)
theorem Mid.no {P : K → Bool} {L C : List K} {n i j : Nat} (h : Mid P L C n i j) {k : K} (hk : L[j]? = some k) (hp : P k = true) : Mid P L C n i (j + 1) := by
  refine ⟨h.len, by have := h.le; omega, ?_, ?_⟩
  · rw [List.take_add_one, List.filter_append, hk, h.fst]
    simp [hp]
  · have e := congrArg (List.drop 1) h.snd
    simpa [List.drop_drop] using e
theorem Mid.yes {P : K → Bool} {L C : List K} {n i j : Nat} (h : Mid P L C n i j) (hj : j < n) {k : K} (hk : L[j]? = some k) (hp : P k = false) : Mid P L (C.set i k) n (i + 1) (j + 1) := by
  have hle := h.le
  have hlen := h.len
  refine ⟨by rw [List.length_set]; exact hlen, by omega, ?_, ?_⟩
  · rw [List.take_add_one, List.take_set_of_le (Nat.le_refl i), h.fst, List.getElem?_set_self (by omega), List.take_add_one, List.filter_append, hk]
    simp [hp]
  · rw [List.drop_set_of_lt (by omega)]
    have e := congrArg (List.drop 1) h.snd
    simpa [List.drop_drop] using e
theorem Mid.end {P : K → Bool} {L C : List K} {n i : Nat} (hn : L.length = n) (h : Mid P L C n i n) : C.take i = L.filter fun k => !P k := by
  rw [h.fst, List.take_of_length_le (by omega)]

set_option maxHeartbeats 1000000 in
theorem delete_none (w : World) (m cap n : Nat) (x : Option Addr) (w1 : World)
    (HI : Calls Try.prog 68 #[.slice x n cap, fgo m] w fun e w' => e = .returned (.int .i64 (-1)) ∧ w.grownBy w' none) :
    Calls Try.prog 57 #[.slice x n cap, fgo m] w fun e w' => e = .returned (.slice x n cap) ∧ w.grownBy w' none := by
  go_enter Try.func57, Try.ntmps57
  go_wp2_with fail
  refine HI.mono ?_
  rintro e w1 ⟨rfl, g1⟩
  go_wp2
  go_ret
  exact ⟨rfl, g1⟩

set_option maxHeartbeats 2000000 in
theorem delete_some (w : World) (m g n cap B f : Nat) (L : List K) (P : K → Bool) (hl : KL 92 w B (.slice (some ⟨g, 0, none⟩) n cap) L) (hn : L.length = n) (h8 : n ≤ 1000) (hf : First P L n f) (hfn : f < n) (hcap : n ≤ cap) (hcap2 : cap ≤ 9223372036854775807) (HA : Asks w (some g) m P) :
    Calls Try.prog 57 #[.slice (some ⟨g, 0, none⟩) n cap, fgo m] w fun e w' => ∃ i, e = .returned (.slice (some ⟨g, 0, none⟩) i cap) ∧ KL 92 w' B (.slice (some ⟨g, 0, none⟩) i cap) (L.filter fun k => !P k) ∧ w.grownBy w' (some g) := by
  have HI := index_is w m g n cap B f L P hl hn h8 hf HA f (by rw [if_neg (by omega)])
  have HM := hideIt (Mid.start hn hf hfn)
  have HL := hideIt hl
  have HN := hideIt hn
  have HA := hideIt HA
  have hgl := (hl.lt g rfl).2
  have HG := hideIt hgl
  have hf1 : (f : Int) ≤ 1000 := by omega
  have hfm : ((f : Int) == -1) = false := by simp
  clear hl hn hf
  go_enter Try.func57, Try.ntmps57
  go_wp2_with fail
  refine HI.mono ?_
  rintro e w1 ⟨rfl, g1⟩
  go_wp2
  go_loopg [5, 6] (n - f) (fun gk x y wr => ∃ (i j : Nat) (C : List K), j + gk = n + 1 ∧ j ≤ n ∧ x = .int .i64 i ∧ y = .int .i64 j ∧ Hid (Mid P L C n i j) ∧ Hid (KL 92 wr B (.slice (some ⟨g, 0, none⟩) n cap) C) ∧ w.grownBy wr (some g))
  case atStart => exact ⟨f, f + 1, L, by omega, by omega, rfl, by go_num, HM, hideIt (HL.out.kept g1), gbAny g1 _⟩
  case round =>
    obtain ⟨i, j, C, hj, hjn, rfl, rfl, hM, hC, gw⟩ := hrel
    clear HI HM
    have lw := Nat.lt_of_lt_of_le HG.out gw.size
    by_cases hlt : j < n
    · obtain ⟨k, hk⟩ : ∃ k, L[j]? = some k := ⟨L[j]'(by rw [HN.out]; exact hlt), List.getElem?_eq_getElem _⟩
      obtain ⟨k0, k1, k2, k3, k4, _, kf⟩ := hC.out.el hM.out.len j k (hM.out.at hk)
      have hk := hideIt hk
      have hij := hM.out.le
      go_upto_region 8 with fail
      obtain ⟨W, hW, Y, gY⟩ := kelNew wr k 92
      rw [hW]
      clear hW
      obtain ⟨y0, y1, y2, y3, y4, yl, yf⟩ := id Y
      have GW := gbTrans gw (gbAny gY (some g))
      by_cases hp : P k = true
      · go_wp2_with fail
        refine (HA.out _ k GW).mono ?_
        rintro e w2 ⟨rfl, g2⟩
        rw [hp]
        clear k0 k1 k2 k3 k4 y0 y1 y2 y3 y4
        go_wp2
        go_roundg (gk - 1)
        case rel => exact ⟨i, j + 1, C, by omega, by omega, rfl, by go_num, hideIt (hM.out.no hk.out hp), hideIt ((hC.out.kept gY).kept g2), gbTrans GW (gbAny g2 _)⟩
        case measure => omega
      · have hp : P k = false := by simpa using hp
        go_wp2_with fail
        refine (HA.out _ k GW).mono ?_
        rintro e w2 ⟨rfl, g2⟩
        rw [hp]
        obtain ⟨z0, z1, z2, z3, z4, zl, zf⟩ := Y.kept g2
        have hC2 := (hC.out.kept gY).kept g2
        obtain ⟨ki, hki⟩ : ∃ ki, C[i]? = some ki := ⟨C[i]'(by rw [hM.out.len]; omega), List.getElem?_eq_getElem _⟩
        obtain ⟨i0, i1, i2, i3, i4, _, kf⟩ := hC2.el hM.out.len i ki hki
        have q0 := kf (i * 5)
        have q1 := kf (i * 5 + 1)
        have q2 := kf (i * 5 + 2)
        have q3 := kf (i * 5 + 3)
        have q4 := kf (i * 5 + 4)
        have hin : (i : Int) < (n : Int) := by omega
        clear k0 k1 k2 k3 k4 y0 y1 y2 y3 y4
        go_upto_region 10 with fail
        obtain ⟨S1, S2⟩ := hC2.store hM.out.len i k
        obtain ⟨W3, hW3⟩ : ∃ W3, ((((w2.setCell ⟨g, i * 5, none⟩ (.int .i64 k.s)).setCell ⟨g, i * 5 + 1, none⟩ (.int .i64 k.p)).setCell ⟨g, i * 5 + 2, none⟩ (.bool k.e.v)).setCell ⟨g, i * 5 + 3, none⟩ (.bool k.e.w)).setCell ⟨g, i * 5 + 4, none⟩ (.int .i64 k.e.a) = W3 := ⟨_, rfl⟩
        rw [hW3] at S1 S2
        rw [hW3]
        clear hW3 i0 i1 i2 i3 i4 q0 q1 q2 q3 q4 z0 z1 z2 z3 z4 hC2
        have HS := hideIt S1
        clear S1
        go_wp2
        go_roundg (gk - 1)
        case rel => exact ⟨i + 1, j + 1, C.set i k, by omega, by omega, by go_num, by go_num, hideIt (hM.out.yes hlt hk.out hp), HS, gbTrans (gbTrans GW (gbAny g2 _)) S2⟩
        case measure => omega
    · obtain rfl : j = n := by omega
      have hij := hM.out.le
      obtain ⟨w3, hr, hK, g3⟩ := run_clear_p wr 0 B g j cap i (j - i) (cap - i) C hC.out hM.out.len (by omega) (by omega)
      have HE := hideIt (hM.out.end HN.out)
      have hin : (i : Int) ≤ (j : Int) := by omega
      have hin2 : (i : Int) < (cap : Int) := by omega
      have hin3 : (j : Int) ≤ (cap : Int) := by omega
      have hin4 : (i : Int) ≤ (cap : Int) := by omega
      have hin5 : ¬ (i : Int) = (cap : Int) := by omega
      go_wp2
      go_ret
      exact ⟨i, rfl, by rw [← HE.out]; exact hK.out, gbTrans gw g3⟩
end Go.Proofs.Ytmmjmloaefcmmaa
