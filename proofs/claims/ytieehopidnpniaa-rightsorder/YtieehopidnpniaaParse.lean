/-
  THE CONTRACT of Parse: of letters their rights.
-/
import Derived.Test.YtieehopidnpniaaText
import Derived.Deep.LoopGhost
namespace Go.Proofs.Ytieehopidnpniaa
open Go.RowKit

namespace M
/-- The first rights from k on whose letters these are, g of them looked at. -/
def prs (s : ByteArray) : Nat → Nat → Int × Int
  | 0, _ => (0, 10)
  | g + 1, k => if ((txt k).toList == s.toList) = true then ((k : Int), 0) else prs s g (k + 1)
end M

theorem pair_eq {a b c d : Int} (h : (a, b) = (c, d)) : c = a ∧ d = b := by simp_all

set_option maxHeartbeats 800000 in
theorem parse_is (s : ByteArray) (v f : Int) (h : M.prs s 8 0 = (v, f)) (w : World) : Calls Try.prog 16 #[.string s] w fun e w' => e = .returned (.tuple #[.int .i64 v, .int .i64 f]) ∧ w.grownBy w' none := by
  have h : Hid (M.prs s 8 0 = (v, f)) := h
  go_enter Try.func16, Try.ntmps16
  go_wp2
  go_loopg [7] 8 (fun g i wr => ∃ k : Nat, k + g = 8 ∧ i = .int .i64 k ∧ Hid (M.prs s g k = (v, f)) ∧ w.grownBy wr none)
  case atStart => exact ⟨0, by omega, rfl, h, gbRefl _ _⟩
  case round =>
    obtain ⟨k, hk, rfl, hp, gw⟩ := hrel
    clear h
    by_cases hlt : k < 8
    · obtain ⟨g, rfl⟩ : ∃ g, gk = g + 1 := ⟨gk - 1, by omega⟩
      by_cases hb : ((M.txt k).toList == s.toList) = true
      · have hv : Hid (v = k ∧ f = 0) := by
          have h := hp.out
          rw [M.prs, if_pos hb] at h
          exact pair_eq h
        clear hp
        go_wp2_with fail
        refine (text_yes k hlt _).mono ?_
        rintro e w1 ⟨rfl, g1⟩
        go_wp2
        go_ret2
        exact ⟨by rw [hv.out.1, hv.out.2]; rfl, gbTrans gw g1⟩
      · have hv : Hid (M.prs s g (k + 1) = (v, f)) := by
          have h := hp.out
          rw [M.prs, if_neg hb] at h
          exact h
        rw [Bool.not_eq_true] at hb
        clear hp
        go_wp2_with fail
        refine (text_yes k hlt _).mono ?_
        rintro e w1 ⟨rfl, g1⟩
        go_wp2
        go_roundg g
        case rel => exact ⟨k + 1, by omega, by go_num, hv, gbTrans gw g1⟩
        case measure => omega
    · have h0 : gk = 0 := by omega
      subst h0
      have hv : Hid (v = 0 ∧ f = 10) := pair_eq (hp.out)
      clear hp
      go_wp2
      go_ret2
      exact ⟨by rw [hv.out.1, hv.out.2]; rfl, gw⟩

theorem parse_any (s : ByteArray) (w : World) : Calls Try.prog 16 #[.string s] w fun e w' => e = .returned (.tuple #[.int .i64 (M.prs s 8 0).1, .int .i64 (M.prs s 8 0).2]) ∧ w.grownBy w' none :=
  parse_is s _ _ rfl w
end Go.Proofs.Ytieehopidnpniaa
