/-
  THE CONTRACTS of what lets entries go: the closures, slices.IndexFunc, slices.DeleteFunc, letGo, Drop, Flush, dropEldest.
-/
import Derived.Test.YtmmjmloaefcmmaaTgt
namespace Go.Proofs.Ytmmjmloaefcmmaa
set_option maxRecDepth 10000
open Go.RowKit
set_option linter.unusedVariables false

/-! ### The closures -/
set_option maxHeartbeats 400000 in
theorem drop1_is (w : World) (a b s p : Int) (S P : Nat) (h0 : w.cell? ⟨S, 0, none⟩ = some (.int .i64 s)) (h1 : w.cell? ⟨P, 0, none⟩ = some (.int .i64 p)) :
    Calls Try.prog 44 #[pv a b, .pointer (some ⟨S, 0, none⟩), .pointer (some ⟨P, 0, none⟩)] w fun e w' => e = .returned (.bool (M.seq a b s p)) ∧ w.grownBy w' none := by
  have qe := eqGuard_pl
  have qn := run_eql_pl
  have G := gbAlloc w (.cells #[.int .i64 a, .int .i64 b] 90) none
  have k0 := G.cell h0 (by simp)
  have k1 := G.cell h1 (by simp)
  go_enter Try.func44, Try.ntmps44
  go_wp2
  go_ret
  exact ⟨rfl, G⟩
set_option maxHeartbeats 400000 in
theorem flush1_is (w : World) (a b s : Int) (S : Nat) (h0 : w.cell? ⟨S, 0, none⟩ = some (.int .i64 s)) :
    Calls Try.prog 45 #[pv a b, .pointer (some ⟨S, 0, none⟩)] w fun e w' => e = .returned (.bool (a == s)) ∧ w.grownBy w' none := by
  have G := gbAlloc w (.cells #[.int .i64 a, .int .i64 b] 90) none
  have k0 := G.cell h0 (by simp)
  go_enter Try.func45, Try.ntmps45
  go_wp2
  go_ret
  exact ⟨rfl, G⟩
set_option maxHeartbeats 400000 in
theorem eldest1_is (w : World) (a b s p : Int) (S : Nat) (h0 : w.cell? ⟨S, 0, none⟩ = some (.int .i64 s)) (h1 : w.cell? ⟨S, 1, none⟩ = some (.int .i64 p)) :
    Calls Try.prog 56 #[pv a b, .pointer (some ⟨S, 0, none⟩)] w fun e w' => e = .returned (.bool (M.seq a b s p)) ∧ w.grownBy w' none := by
  have qe := eqGuard_pl
  have qn := run_eql_pl
  have G := gbAlloc w (.cells #[.int .i64 a, .int .i64 b] 90) none
  have k0 := G.cell h0 (by simp)
  have k1 := G.cell h1 (by simp)
  go_enter Try.func56, Try.ntmps56
  go_wp2
  go_ret
  exact ⟨rfl, G⟩

abbrev fdrop (S P : Nat) : Value := .func (.func 44) #[] #[.pointer (some ⟨S, 0, none⟩), .pointer (some ⟨P, 0, none⟩)]
abbrev fflush (S : Nat) : Value := .func (.func 45) #[] #[.pointer (some ⟨S, 0, none⟩)]
abbrev feldest (S : Nat) : Value := .func (.func 56) #[] #[.pointer (some ⟨S, 0, none⟩)]
/-- What is asked of each that is kept. -/
abbrev fgo (M : Nat) : Value := .func (.func 58) #[] #[.pointer (some ⟨M, 0, none⟩)]

set_option maxHeartbeats 400000 in
theorem go1_drop (w : World) (k : K) (s p : Int) (m S P : Nat) (hm : w.cell? ⟨m, 0, none⟩ = some (fdrop S P)) (h0 : w.cell? ⟨S, 0, none⟩ = some (.int .i64 s)) (h1 : w.cell? ⟨P, 0, none⟩ = some (.int .i64 p)) :
    Calls Try.prog 58 #[kv k, .pointer (some ⟨m, 0, none⟩)] w fun e w' => e = .returned (.bool (M.here s p k)) ∧ w.grownBy w' none := by
  have G := gbAlloc w (.cells #[.int .i64 k.s, .int .i64 k.p, .bool k.e.v, .bool k.e.w, .int .i64 k.e.a] 92) none
  have k0 := G.cell h0 (by simp)
  have k1 := G.cell h1 (by simp)
  have km := G.cell hm (by simp)
  have HD := drop1_is _ k.s k.p s p S P k0 k1
  clear k0 k1 h0 h1
  go_enter Try.func58, Try.ntmps58
  go_wp2_with fail
  refine HD.mono ?_
  rintro e w1 ⟨rfl, g1⟩
  go_wp2
  go_ret
  exact ⟨rfl, gbTrans G g1⟩
set_option maxHeartbeats 400000 in
theorem go1_eldest (w : World) (k : K) (s p : Int) (m S : Nat) (hm : w.cell? ⟨m, 0, none⟩ = some (feldest S)) (h0 : w.cell? ⟨S, 0, none⟩ = some (.int .i64 s)) (h1 : w.cell? ⟨S, 1, none⟩ = some (.int .i64 p)) :
    Calls Try.prog 58 #[kv k, .pointer (some ⟨m, 0, none⟩)] w fun e w' => e = .returned (.bool (M.here s p k)) ∧ w.grownBy w' none := by
  have G := gbAlloc w (.cells #[.int .i64 k.s, .int .i64 k.p, .bool k.e.v, .bool k.e.w, .int .i64 k.e.a] 92) none
  have k0 := G.cell h0 (by simp)
  have k1 := G.cell h1 (by simp)
  have km := G.cell hm (by simp)
  have HD := eldest1_is _ k.s k.p s p S k0 k1
  clear k0 k1 h0 h1
  go_enter Try.func58, Try.ntmps58
  go_wp2_with fail
  refine HD.mono ?_
  rintro e w1 ⟨rfl, g1⟩
  go_wp2
  go_ret
  exact ⟨rfl, gbTrans G g1⟩
set_option maxHeartbeats 400000 in
theorem go1_flush (w : World) (k : K) (s : Int) (m S : Nat) (hm : w.cell? ⟨m, 0, none⟩ = some (fflush S)) (h0 : w.cell? ⟨S, 0, none⟩ = some (.int .i64 s)) :
    Calls Try.prog 58 #[kv k, .pointer (some ⟨m, 0, none⟩)] w fun e w' => e = .returned (.bool (k.s == s)) ∧ w.grownBy w' none := by
  have G := gbAlloc w (.cells #[.int .i64 k.s, .int .i64 k.p, .bool k.e.v, .bool k.e.w, .int .i64 k.e.a] 92) none
  have k0 := G.cell h0 (by simp)
  have km := G.cell hm (by simp)
  have HD := flush1_is _ k.s k.p s S k0
  clear k0 h0
  go_enter Try.func58, Try.ntmps58
  go_wp2_with fail
  refine HD.mono ?_
  rintro e w1 ⟨rfl, g1⟩
  go_wp2
  go_ret
  exact ⟨rfl, gbTrans G g1⟩

/-! ### IndexFunc -/
/-- What the function that is handed on answers, as long as no block but r turns. -/
def Asks (w : World) (r : Option Nat) (m : Nat) (P : K → Bool) : Prop :=
  ∀ w' k, w.grownBy w' r → Calls Try.prog 58 #[kv k, .pointer (some ⟨m, 0, none⟩)] w' fun e w'' => e = .returned (.bool (P k)) ∧ w'.grownBy w'' none
theorem Asks.kept {w w' : World} {r : Option Nat} {m : Nat} {P : K → Bool} (h : Asks w r m P) (g : w.grownBy w' r) : Asks w' r m P := fun w2 k g2 => h w2 k (gbTrans g g2)

abbrev IX : Nat := 68
set_option maxHeartbeats 1000000 in
theorem index_nil (w : World) (m cap : Nat) (x : Option Addr) :
    Calls Try.prog 68 #[.slice x 0 cap, fgo m] w fun e w' => e = .returned (.int .i64 (-1)) ∧ w.grownBy w' none := by
  go_enter Try.func68, Try.ntmps68
  go_wp2
  go_loopg [8] 0 (fun g i wr => i = .int .i64 0 ∧ wr = w)
  case atStart => exact ⟨rfl, rfl⟩
  case round =>
    obtain ⟨rfl, rfl⟩ := hrel
    go_wp2
    go_ret
    exact ⟨rfl, gbRefl _ _⟩

/-- The first for which P holds is at i; or (i = n) none is. -/
structure First (P : K → Bool) (L : List K) (n i : Nat) : Prop where
  le : i ≤ n
  no : ∀ j k, j < i → L[j]? = some k → P k = false
  yes : ∀ k, L[i]? = some k → P k = true
theorem firstOf (P : K → Bool) (L : List K) : ∃ i, First P L L.length i := by
  induction L with
  | nil => exact ⟨0, by simp, fun j k h => by omega, fun k h => by simp at h⟩
  | cons x L ih =>
    cases hp : P x with
    | true => exact ⟨0, by simp, fun j k h => by omega, fun k h => by simp at h; rw [← h]; exact hp⟩
    | false =>
      obtain ⟨i, h1, h2, h3⟩ := ih
      refine ⟨i + 1, by simp; omega, fun j k hj hk => ?_, fun k hk => h3 k (by simpa using hk)⟩
      cases j with
      | zero => simp at hk; rw [← hk]; exact hp
      | succ j => exact h2 j k (by omega) (by simpa using hk)

set_option maxHeartbeats 1000000 in
theorem index_is (w : World) (m g n cap B f : Nat) (L : List K) (P : K → Bool) (hl : KL 92 w B (.slice (some ⟨g, 0, none⟩) n cap) L) (hn : L.length = n) (h8 : n ≤ 1000) (hf : First P L n f) (HA : Asks w (some g) m P) (r : Int) (hr : r = if f = n then -1 else (f : Int)) :
    Calls Try.prog 68 #[.slice (some ⟨g, 0, none⟩) n cap, fgo m] w fun e w' => e = .returned (.int .i64 r) ∧ w.grownBy w' none := by
  have HL := hideIt hl
  have HN := hideIt hn
  have HF := hideIt hf
  have HA := hideIt HA
  have HR := hideIt hr
  clear hl hn hf hr
  go_enter Try.func68, Try.ntmps68
  go_wp2
  go_loopg [8] n (fun gk i wr => ∃ j : Nat, j + gk = n ∧ j ≤ f ∧ i = .int .i64 j ∧ w.grownBy wr none)
  case atStart => exact ⟨0, by omega, Nat.zero_le _, rfl, gbRefl _ _⟩
  case round =>
    obtain ⟨j, hj, hjf, rfl, gw⟩ := hrel
    by_cases hlt : j < n
    · obtain ⟨k, hk⟩ : ∃ k, L[j]? = some k := ⟨L[j]'(by rw [HN.out]; exact hlt), List.getElem?_eq_getElem _⟩
      obtain ⟨k0, k1, k2, k3, k4, _, _⟩ := (HL.out.kept gw).el HN.out j k hk
      have hk := hideIt hk
      by_cases hp : P k = true
      · have hfj : f = j := by
          by_cases e : j < f
          · have := HF.out.no j k e hk.out
            rw [hp] at this; cases this
          · omega
        have hR := HR.out
        rw [if_neg (by omega), hfj] at hR
        subst hR
        clear hfj
        go_wp2_with fail
        refine (HA.out _ k (gbAny gw _)).mono ?_
        rintro e w1 ⟨rfl, g1⟩
        rw [hp]
        go_wp2
        go_ret
        exact ⟨rfl, gbTrans gw g1⟩
      · have hp : P k = false := by simpa using hp
        have hjf2 : j + 1 ≤ f := by
          by_cases e : j < f
          · exact e
          · have e2 : j = f := by omega
            have := HF.out.yes k (by rw [← e2]; exact hk.out)
            rw [hp] at this; cases this
        go_wp2_with fail
        refine (HA.out _ k (gbAny gw _)).mono ?_
        rintro e w1 ⟨rfl, g1⟩
        rw [hp]
        go_wp2
        go_roundg (gk - 1)
        case rel => exact ⟨j + 1, by omega, hjf2, by go_num, gbTrans gw g1⟩
        case measure => omega
    · have hR := HR.out
      have := HF.out.le
      rw [if_pos (by omega)] at hR
      subst hR
      go_wp2
      go_ret
      exact ⟨rfl, gw⟩
end Go.Proofs.Ytmmjmloaefcmmaa
