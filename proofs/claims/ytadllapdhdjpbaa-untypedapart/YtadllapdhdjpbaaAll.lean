/-
  THE CONTRACT of package span's All.
-/
import Derived.Test.YtadllapdhdjpbaaLists
import Derived.Deep.LoopGhost
import Derived.WalkMore
namespace Go.Proofs.Ytadllapdhdjpbaa
open Go.RowKit

theorem apart_is (A B C D : Int) (v : Bool) (h : M.apt A B C D = v) (w : World) :
    Calls Try.prog 30 #[sp A B, sp C D] w fun e w' => e = .returned (.bool v) ∧ w.grownBy w' none := by
  subst h; exact apart_any A B C D w

set_option maxHeartbeats 400000 in
theorem all_none (w : World) (a1 : Option Addr) (c1 : Nat) : Calls Try.prog 19 #[.slice a1 0 c1] w fun e w' => e = .returned (.bool true) ∧ w.grownBy w' none := by
  go_enter Try.func19, Try.ntmps19
  go_wp2
  go_step3
  go_wp2
  go_step3
  go_wp2
  refine wp_loop_rounds 1 ?_
  rw [rounds_succ]
  go_wp2
  rw [Exit.noGoto_ret]
  go_ret
  exact ⟨rfl, gbRefl _ _⟩

set_option maxHeartbeats 1000000 in
theorem all_rows (w : World) (x : Addr) (cap n : Nat) (L : List (Int × Int)) (hl : L.length = n) (hcap : n ≤ cap) (hcap2 : cap ≤ 9223372036854775807) (h1 : Row w x L) :
    Calls Try.prog 19 #[.slice (some x) n cap] w fun e w' => e = .returned (.bool (M.all L)) ∧ w.grownBy w' none := by
  have H1 : Hid (Row w x L) := hideIt h1
  have HL : Hid (L.length = n) := hideIt hl
  clear h1 hl
  go_enter Try.func19, Try.ntmps19
  go_wp2
  go_step3
  go_wp2
  go_step3
  go_wp2
  go_loopg [3, 10] n (fun g s3 i wr => ∃ j : Nat, j + g = n ∧ i = .int .i64 j ∧ s3 = .bool true ∧ Hid (∀ i, i < j → ∀ k, k < i → M.ap L i k = true) ∧ w.grownBy wr none)
  case atStart => exact ⟨0, by omega, rfl, rfl, hideIt (fun i hi => by omega), gbRefl _ _⟩
  case round =>
    obtain ⟨j, hj, rfl, rfl, HA, gw⟩ := hrel
    by_cases hlt : j < n
    · have hlt' : (j : Int) < (n : Int) := by omega
      obtain ⟨⟨A, B⟩, hp⟩ : ∃ p, L[j]? = some p := ⟨_, List.getElem?_eq_getElem (by have := HL.out; omega)⟩
      have HP : Hid (L[j]? = some (A, B)) := hideIt hp
      have E1 := (H1.out j _ hp).kept gw
      have p0 := E1.at0
      have p1 := E1.at1
      have hjc : (j : Int) ≤ (cap : Int) := by omega
      have hjc0 : (0 : Int) ≤ (j : Int) := by omega
      clear hp
      go_wp2
      have X5 := Box.made wr A B
      have g5 := gbAlloc wr (.cells #[.int .i64 A, .int .i64 B] 23) none
      obtain ⟨wo, rfl⟩ : ∃ wo, wo = wr := ⟨_, rfl⟩
      obtain ⟨G, rfl⟩ : ∃ G, G = gk := ⟨_, rfl⟩
      clear p0 p1 E1
      go_loopg [3, 19] j (fun g s3 i wx => ∃ c : Nat, c + g = j ∧ i = .int .i64 c ∧ s3 = .bool true ∧ Hid (∀ k, k < c → M.ap L j k = true) ∧ Box wx wo.heap.size A B ∧ wo.grownBy wx none)
      case atStart => exact ⟨0, by omega, rfl, rfl, hideIt (fun i hi => by omega), X5, g5⟩
      case round =>
        obtain ⟨c, hc, rfl, rfl, HB, Y5, gx⟩ := hrel
        clear X5 g5
        by_cases hltc : c < j
        · have hltc' : (c : Int) < (j : Int) := by omega
          obtain ⟨⟨C, D⟩, hq⟩ : ∃ q, L[c]? = some q := ⟨_, List.getElem?_eq_getElem (by have := HL.out; omega)⟩
          have HQ : Hid (L[c]? = some (C, D)) := hideIt hq
          have E2 := ((H1.out c _ hq).kept gw).kept gx
          have p2 := E2.at0
          have p3 := E2.at1
          have HV : Hid (M.ap L j c = M.apt A B C D) := hideIt (M.ap_at HP.out HQ.out)
          have y0 := Y5.at0
          have y1 := Y5.at1
          have hl5 := Y5.lt
          clear hq
          cases hv : M.apt A B C D
          · have HF : Hid (M.all L = false) := hideIt (M.all_no j c (by have := HL.out; omega) hltc (HV.out.trans hv))
            have HC := fun w => apart_is A B C D false hv w
            clear hv HV
            go_wp2_with fail
            refine (HC _).mono ?_
            rintro e w1 ⟨rfl, g1⟩
            go_wp2
            rw [Exit.noGoto_ret]
            go_ret
            exact ⟨ret_bool HF.out.symm, gbTrans (gbTrans gw gx) (gbTrans (gbAlloc _ _ _) g1)⟩
          · have HC := fun w => apart_is A B C D true hv w
            have HB2 : Hid (∀ k, k < c + 1 → M.ap L j k = true) := hideIt (fun k hk => by
              by_cases e : k = c
              · rw [e]; exact HV.out.trans hv
              · exact HB.out k (by omega))
            clear hv HV
            go_wp2_with fail
            refine (HC _).mono ?_
            rintro e w1 ⟨rfl, g1⟩
            have G1 := gbTrans (gbAlloc wr _ none) g1
            have Z5 := Y5.kept G1
            go_wp2
            go_roundg (gk - 1)
            case rel => exact ⟨c + 1, by omega, by go_num, rfl, HB2, Z5, gbTrans gx G1⟩
            case measure => omega
        · have HA2 : Hid (∀ i, i < j + 1 → ∀ k, k < i → M.ap L i k = true) := hideIt (fun i hi k hk => by
            by_cases e : i = j
            · subst e; exact HB.out k (by omega)
            · exact HA.out i (by omega) k hk)
          go_wp2
          go_roundg (G - 1)
          case rel => exact ⟨j + 1, by omega, by go_num, rfl, HA2, gbTrans gw gx⟩
          case measure => omega
    · have HE : Hid (M.all L = true) := hideIt (M.all_yes (fun i hi => HA.out i (by have := HL.out; omega)))
      go_wp2
      try rw [Exit.noGoto_ret]
      go_ret
      exact ⟨ret_bool HE.out.symm, gw⟩

theorem all_lst (w : World) (B : Nat) (v : Value) (L : List (Int × Int)) (b : Bool) (h1 : Lst w B v L) (hb : M.all L = b) :
    Calls Try.prog 19 #[v] w fun e w' => e = .returned (.bool b) ∧ w.grownBy w' none := by
  subst hb
  rcases h1.form with ⟨rfl, rfl⟩ | ⟨g1, c1, rfl, k1, _, _, k2, r1⟩
  · exact all_none w _ _
  · exact all_rows w _ c1 L.length L rfl k1 k2 r1

end Go.Proofs.Ytadllapdhdjpbaa
