/-
  THE PROGRAM'S Next, the words of what is pending and masked, New.
-/
import Derived.Test.YtekohlbafhlldaaIqa
namespace Go.Proofs.Ytekohlbafhlldaa
set_option maxRecDepth 10000
open Go.RowKit Go.Conc
set_option linter.unusedVariables false

theorem M.nx_at {i : I} {d : Int} {r : Option Nat} {j : Nat} (h : M.Nx i d r) (hj : j < 8) (hh : M.hit i d j = true) (hb : ∀ t, t < j → M.hit i d t = false) : r = some j := by
  cases r with
  | none => have := h j hj; rw [hh] at this; cases this
  | some k =>
    obtain ⟨h1, h2, h3⟩ := h
    by_cases c : j < k
    · have := h3 j c; rw [hh] at this; cases this
    · by_cases c2 : k < j
      · have := hb k c2; rw [h2] at this; cases this
      · rw [show j = k by omega]
theorem M.nx_none {i : I} {d : Int} {r : Option Nat} (h : M.Nx i d r) (hb : ∀ t, t < 8 → M.hit i d t = false) : r = none := by
  cases r with
  | none => rfl
  | some k =>
    obtain ⟨h1, h2, h3⟩ := h
    have := hb k h1
    rw [h2] at this; cases this

section
variable {w : World} {O : Nat → Prop} {x : Nat} {i : I}
set_option maxHeartbeats 2000000 in
theorem next_is (h : IA w O x i) (d : Int) (r : Option Nat) (hr : M.Nx i d r) (f : Int) (b : Bool) (hf : M.nn r = f) (hb : r.isSome = b) :
    Calls Try.prog 13 #[.pointer (some ⟨x, 0, none⟩), .int .i64 d] w fun e w' => e = .returned (.tuple #[.int .i64 f, .bool b]) ∧ IA w' O x (M.ns i r) ∧ Fr O w w' := by
  subst hf
  subst hb
  obtain ⟨ch, h⟩ := h
  have H0 := hideIt h
  have hox := hideIt h.ox
  replace hr := hideIt hr
  clear h
  go_enter Try.func13, Try.ntmps13
  go_wp2_with fail
  go_loopg [8] 8 (fun gk s wr => ∃ j : Nat, j + gk = 8 ∧ s = .int .i64 j ∧ Hid (Ia wr O x ch i) ∧ Hid (Fr O w wr) ∧ Hid (∀ t, t < j → M.hit i d t = false))
  case atStart => exact ⟨0, rfl, rfl, H0, hideIt (Fr.refl _ _), hideIt (fun t ht => by omega)⟩
  case round =>
    obtain ⟨j, hj, rfl, H, F, B⟩ := hrel
    clear H0
    by_cases hlt : j < 8
    · have o1 := H.out.owner hlt
      have m1 := H.out.mask hlt
      by_cases c1 : i.o j = d
      · have c1' : (i.o j == d) = true := by simpa using c1
        cases hm : i.m j with
        | true =>
          rw [hm] at m1
          have nh : Hid (M.hit i d j = false) := hideIt (by unfold M.hit; rw [hm]; simp)
          clear hm c1
          go_wp2
          go_roundg (gk - 1)
          case rel => exact ⟨j + 1, by omega, by go_num, H, F, hideIt (fun t ht => by
            by_cases e : t = j
            · rw [e]; exact nh.out
            · exact B.out t (by omega))⟩
          case measure => omega
        | false =>
          rw [hm] at m1
          have hh : Hid (M.hit i d j = i.p j) := hideIt (by unfold M.hit; rw [hm, c1]; simp)
          clear hm c1
          go_wp2_with fail
          refine (take_is wr x (j * 3) (ch j) (i.p j) (H.out.chan hlt) (H.out.tk j hlt)).mono ?_
          rintro e w2 ⟨rfl, t, g⟩
          have F2 : Hid (Fr O w w2) := hideIt (F.out.trans (Fr.at g (H.out.oc j hlt)))
          have H2 := hideIt (H.out.token hlt t g)
          clear t g o1 m1
          cases hp : i.p j with
          | true =>
            have hit := hideIt (M.nx_at hr.out hlt (hh.out.trans hp) B.out)
            obtain ⟨V, eV, HV, gV⟩ := H2.out.setM hlt true
            have f1 := H2.out.fz (j * 3 + 2)
            have m1 := H2.out.mask hlt
            replace HV := hideIt HV
            clear hp
            go_wp2
            go_ret2
            rw [hit.out]
            exact ⟨rfl, ⟨ch, HV.out⟩, F2.out.trans (Fr.at gV hox.out)⟩
          | false =>
            have e0 : ub i.p j false = i.p := by
              funext t
              unfold ub
              split
              · rename_i e; rw [e, hp]
              · rfl
            rw [e0] at H2
            replace hh := hideIt (hh.out.trans hp)
            clear e0 hp
            go_wp2
            go_roundg (gk - 1)
            case rel => exact ⟨j + 1, by omega, by go_num, H2, F2, hideIt (fun t ht => by
              by_cases e : t = j
              · rw [e]; exact hh.out
              · exact B.out t (by omega))⟩
            case measure => omega
      · have c1' : (i.o j == d) = false := by simpa using c1
        have nh : Hid (M.hit i d j = false) := hideIt (by unfold M.hit; rw [c1']; simp)
        clear c1
        go_wp2
        go_roundg (gk - 1)
        case rel => exact ⟨j + 1, by omega, by go_num, H, F, hideIt (fun t ht => by
          by_cases e : t = j
          · rw [e]; exact nh.out
          · exact B.out t (by omega))⟩
        case measure => omega
    · obtain rfl : j = 8 := by omega
      have e := hideIt (M.nx_none hr.out B.out)
      go_wp2
      go_ret2
      rw [e.out]
      exact ⟨rfl, ⟨ch, H.out⟩, F.out⟩

set_option maxHeartbeats 800000 in
theorem isPend_is (h : IA w O x i) (k : Nat) (hk : k < 8) (b : Bool) (hb : i.p k = b) :
    Calls Try.prog 30 #[.pointer (some ⟨x, k * 3, none⟩)] w fun e w' => e = .returned (.bool b) ∧ w' = w := by
  subst hb
  obtain ⟨ch, h⟩ := h
  have H := hideIt h
  have c1 := h.chan hk
  have l1 := fun ty => (h.tk k hk).len ty
  clear h
  go_enter Try.func30, Try.ntmps30
  cases hp : i.p k with
  | true =>
    rw [hp] at l1
    go_wp2
    go_ret
    exact ⟨rfl, rfl⟩
  | false =>
    rw [hp] at l1
    go_wp2
    go_ret
    exact ⟨rfl, rfl⟩
set_option maxHeartbeats 800000 in
theorem isMask_is (h : IA w O x i) (k : Nat) (hk : k < 8) (b : Bool) (hb : i.m k = b) :
    Calls Try.prog 32 #[.pointer (some ⟨x, k * 3, none⟩)] w fun e w' => e = .returned (.bool b) ∧ w' = w := by
  subst hb
  obtain ⟨ch, h⟩ := h
  have m1 := h.mask hk
  clear h
  go_enter Try.func32, Try.ntmps32
  go_wp2
  go_ret
  exact ⟨rfl, rfl⟩
end
end Go.Proofs.Ytekohlbafhlldaa
