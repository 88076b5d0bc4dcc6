/-
  WHAT IS COMPARED: two lists that hold the same spans are the same (donjonref03's Same).
-/
import Derived.Test.YtadllapdhdjpbaaLists
import Derived.Deep.LoopGhost
namespace Go.Proofs.Ytadllapdhdjpbaa
open Go.RowKit

set_option maxHeartbeats 400000 in
theorem same_none (w : World) (a1 a2 : Option Addr) (c1 c2 : Nat) : Calls Try.prog 12 #[.slice a1 0 c1, .slice a2 0 c2] w fun e w' => e = .returned (.bool true) ∧ w.grownBy w' none := by
  go_enter Try.func12, Try.ntmps12
  go_wp2
  refine wp_loop_rounds 1 ?_
  rw [rounds_succ]
  go_wp2
  go_ret
  exact ⟨rfl, gbRefl _ _⟩

set_option maxHeartbeats 800000 in
theorem same_rows (w : World) (x1 x2 : Addr) (c1 c2 n : Nat) (L : List (Int × Int)) (hl : L.length = n) (hn : n ≤ 9223372036854775807) (h1 : Row w x1 L) (h2 : Row w x2 L) :
    Calls Try.prog 12 #[.slice (some x1) n c1, .slice (some x2) n c2] w fun e w' => e = .returned (.bool true) ∧ w.grownBy w' none := by
  have H1 : Hid (Row w x1 L) := hideIt h1
  have H2 : Hid (Row w x2 L) := hideIt h2
  clear h1 h2
  go_enter Try.func12, Try.ntmps12
  go_wp2
  go_loopg [5] n (fun g i wr => ∃ k : Nat, k + g = n ∧ i = .int .i64 k ∧ w.grownBy wr none)
  case atStart => exact ⟨0, by omega, rfl, gbRefl _ _⟩
  case round =>
    obtain ⟨k, hk, rfl, gw⟩ := hrel
    by_cases hlt : k < n
    · obtain ⟨⟨A, B⟩, hp⟩ : ∃ p, L[k]? = some p := ⟨_, List.getElem?_eq_getElem (by omega)⟩
      have E1 := (H1.out k _ hp).kept gw
      have E2 := (H2.out k _ hp).kept gw
      have p0 := E1.at0
      have p1 := E1.at1
      have p2 := E2.at0
      have p3 := E2.at1
      clear hp
      go_wp2
      go_quiet (fail)
      go_wp2
      go_roundg (n - (k + 1))
      case rel => exact ⟨k + 1, by omega, by go_num, gbTrans gw (gbDrewN _ _ _)⟩
      case measure => omega
    · go_wp2
      go_ret
      exact ⟨rfl, gw⟩

/-- Two lists that the same call or another one made. -/
theorem same_lst (w : World) (B1 B2 : Nat) (v1 v2 : Value) (L : List (Int × Int)) (h1 : Lst w B1 v1 L) (h2 : Lst w B2 v2 L) :
    Calls Try.prog 12 #[v1, v2] w fun e w' => e = .returned (.bool true) ∧ w.grownBy w' none := by
  rcases h1.form with ⟨rfl, rfl⟩ | ⟨g1, c1, rfl, k1, _, _, k2, r1⟩
  · rcases h2.form with ⟨rfl, _⟩ | ⟨g2, c2, rfl, _, _, _, _, r2⟩
    · exact same_none w _ _ _ _
    · exact same_none w _ _ _ _
  · rcases h2.form with ⟨rfl, rfl⟩ | ⟨g2, c2, rfl, _, _, _, _, r2⟩
    · exact same_none w _ _ _ _
    · exact same_rows w _ _ c1 c2 L.length L rfl (by omega) r1 r2

end Go.Proofs.Ytadllapdhdjpbaa
