/-
  THE CONTRACTS of the document's All and Cover (donjonref03).
-/
import Derived.Test.YthjbihbaccnmcaaCov
import Derived.Test.YthjbihbaccnmcaaAll
import Derived.Test.YthjbihbaccnmcaaRef
namespace Go.Proofs.Ythjbihbaccnmcaa
open Go.RowKit

theorem El.all {w : World} {y : Addr} {A B : Int} (h : El w y A B) : (∀ x : Gr w, x.w.cell? y = some (.int .i64 A)) ∧ (∀ x : Gr w, x.w.cell? ⟨y.block, y.off + 1, none⟩ = some (.int .i64 B)) :=
  ⟨fun x => (h.kept x.g).at0, fun x => (h.kept x.g).at1⟩
theorem rapart_is (A B C D : Int) (v : Bool) (h : M.apt A B C D = v) (w : World) :
    Calls Try.prog 18 #[sp A B, sp C D] w fun e w' => e = .returned (.bool v) ∧ w.grownBy w' none := by
  subst h; exact rapart_any A B C D w

set_option maxHeartbeats 400000 in
theorem rall_none (w : World) (a1 : Option Addr) (c1 : Nat) : Calls Try.prog 22 #[.slice a1 0 c1] w fun e w' => e = .returned (.bool true) ∧ w.grownBy w' none := by
  go_enter Try.func22, Try.ntmps22
  go_wp2
  refine wp_loop_rounds 1 ?_
  rw [rounds_succ]
  go_wp2
  go_ret
  exact ⟨rfl, gbRefl _ _⟩

set_option maxHeartbeats 1000000 in
theorem rall_rows (w : World) (x : Addr) (cap n : Nat) (L : List (Int × Int)) (hl : L.length = n) (hn : n ≤ 1000000) (h1 : Row w x L) :
    Calls Try.prog 22 #[.slice (some x) n cap] w fun e w' => e = .returned (.bool (M.all L)) ∧ w.grownBy w' none := by
  have H1 : Hid (Row w x L) := hideIt h1
  have HL : Hid (L.length = n) := hideIt hl
  clear h1 hl
  go_enter Try.func22, Try.ntmps22
  go_wp2
  go_loopg [3] n (fun g i wr => ∃ j : Nat, j + g = n ∧ i = .int .i64 j ∧ Hid (∀ i, i < j → ∀ k, k < i → M.ap L i k = true) ∧ w.grownBy wr none)
  case atStart => exact ⟨0, by omega, rfl, hideIt (fun i hi => by omega), gbRefl _ _⟩
  case round =>
    obtain ⟨j, hj, rfl, HA, gw⟩ := hrel
    by_cases hlt : j < n
    · have hlt' : (j : Int) < (n : Int) := by omega
      obtain ⟨⟨A, B⟩, hp⟩ : ∃ p, L[j]? = some p := ⟨_, List.getElem?_eq_getElem (by have := HL.out; omega)⟩
      have HP : Hid (L[j]? = some (A, B)) := hideIt hp
      clear hp
      go_wp2
      obtain ⟨wo, rfl⟩ : ∃ wo, wo = wr := ⟨_, rfl⟩
      obtain ⟨G, rfl⟩ : ∃ G, G = gk := ⟨_, rfl⟩
      go_loopg [4] j (fun g i wx => ∃ c : Nat, c + g = j ∧ i = .int .i64 c ∧ Hid (∀ k, k < c → M.ap L j k = true) ∧ wo.grownBy wx none)
      case atStart => exact ⟨0, by omega, rfl, hideIt (fun i hi => by omega), gbRefl _ _⟩
      case round =>
        obtain ⟨c, hc, rfl, HB, gx⟩ := hrel
        by_cases hltc : c < j
        · have hltc' : (c : Int) < (j : Int) := by omega
          have hltn : (c : Int) < (n : Int) := by omega
          have hc0 : (0 : Int) ≤ (c : Int) := by omega
          have hj0 : (0 : Int) ≤ (j : Int) := by omega
          obtain ⟨⟨C, D⟩, hq⟩ : ∃ q, L[c]? = some q := ⟨_, List.getElem?_eq_getElem (by have := HL.out; omega)⟩
          have HQ : Hid (L[c]? = some (C, D)) := hideIt hq
          obtain ⟨p0, p1⟩ := (((H1.out j _ HP.out).kept gw).kept gx).all
          obtain ⟨p2, p3⟩ := (((H1.out c _ hq).kept gw).kept gx).all
          have HV : Hid (M.ap L j c = M.apt A B C D) := hideIt (M.ap_at HP.out HQ.out)
          clear hq
          cases hv : M.apt A B C D
          · have HF : Hid (M.all L = false) := hideIt (M.all_no j c (by have := HL.out; omega) hltc (HV.out.trans hv))
            have HC := fun w => rapart_is A B C D false hv w
            clear hv HV
            go_wp2
            refine wp_region_grown (by kernel_rfl) (by kernel_rfl) fun _ => ?_
            repeat (go_big_quiet_step ((go_at_call 18; with_reducible exact callsGr (HC _))))
            refine wpQuiet_nil ?_
            rintro _ ⟨⟨w1, g1⟩, rfl⟩
            go_wp2
            go_ret
            exact ⟨ret_bool HF.out.symm, gbTrans (gbTrans gw gx) g1⟩
          · have HC := fun w => rapart_is A B C D true hv w
            have HB2 : Hid (∀ k, k < c + 1 → M.ap L j k = true) := hideIt (fun k hk => by
              by_cases e : k = c
              · rw [e]; exact HV.out.trans hv
              · exact HB.out k (by omega))
            clear hv HV
            go_wp2
            refine wp_region_grown (by kernel_rfl) (by kernel_rfl) fun _ => ?_
            repeat (go_big_quiet_step ((go_at_call 18; with_reducible exact callsGr (HC _))))
            refine wpQuiet_nil ?_
            rintro _ ⟨⟨w1, g1⟩, rfl⟩
            go_wp2
            go_roundg (gk - 1)
            case rel => exact ⟨c + 1, by omega, by go_num, HB2, gbTrans gx g1⟩
            case measure => omega
        · have HA2 : Hid (∀ i, i < j + 1 → ∀ k, k < i → M.ap L i k = true) := hideIt (fun i hi k hk => by
            by_cases e : i = j
            · subst e; exact HB.out k (by omega)
            · exact HA.out i (by omega) k hk)
          go_wp2
          go_roundg (G - 1)
          case rel => exact ⟨j + 1, by omega, by go_num, HA2, gbTrans gw gx⟩
          case measure => omega
    · have HE : Hid (M.all L = true) := hideIt (M.all_yes (fun i hi => HA.out i (by have := HL.out; omega)))
      go_wp2
      go_ret
      exact ⟨ret_bool HE.out.symm, gw⟩

end Go.Proofs.Ythjbihbaccnmcaa
