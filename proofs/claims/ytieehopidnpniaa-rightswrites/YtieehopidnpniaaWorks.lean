/-
  THE LAW'S OWN FIRST QUESTION (works): the chapter's examples come out as it says.
-/
import Derived.Test.YtieehopidnpniaaParse
namespace Go.Proofs.Ytieehopidnpniaa
open Go.RowKit

theorem prs_wr : M.prs ⟨#[119, 114]⟩ 8 0 = (0, 10) := by kernel_rfl
theorem prs_rw : M.prs ⟨#[114, 119]⟩ 8 0 = (3, 0) := by kernel_rfl
theorem txt_rg : ((M.txt 5).toList == [114, 103]) = true := by kernel_rfl

set_option maxHeartbeats 1000000 in
theorem works_any (w : World) : Calls Try.prog 18 #[] w fun e w' => e = .returned (.bool true) ∧ w.grownBy w' none := by
  have t := txt_rg
  go_enter Try.func18, Try.ntmps18
  go_wp2_with fail
  refine (text_at5 _).mono ?_
  rintro e w1 ⟨rfl, g1⟩
  go_wp2_with fail
  refine (parse_is _ _ _ prs_wr _).mono ?_
  rintro e w2 ⟨rfl, g2⟩
  go_wp2_with fail
  refine (parse_is _ _ _ prs_rw _).mono ?_
  rintro e w3 ⟨rfl, g3⟩
  go_wp2_with fail
  refine (mask_is _ _ 2 (by decide) _).mono ?_
  rintro e w4 ⟨rfl, rfl⟩
  go_wp2_with fail
  refine (within_is _ _ true (by decide) _).mono ?_
  rintro e w4 ⟨rfl, rfl⟩
  go_wp2_with fail
  refine (within_is _ _ false (by decide) _).mono ?_
  rintro e w4 ⟨rfl, rfl⟩
  go_wp2_with fail
  refine (check_is _ true (by decide) _).mono ?_
  rintro e w4 ⟨rfl, rfl⟩
  go_wp2_with fail
  refine (check_is _ false (by decide) _).mono ?_
  rintro e w4 ⟨rfl, rfl⟩
  go_wp2
  go_ret
  exact ⟨rfl, gbTrans g1 (gbTrans g2 g3)⟩
end Go.Proofs.Ytieehopidnpniaa
