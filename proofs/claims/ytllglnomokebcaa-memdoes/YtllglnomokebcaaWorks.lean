/-
  THE LAW'S OWN FIRST QUESTION (works): the chapter's example comes out as it says.
-/
import Derived.Test.YtllglnomokebcaaSame
namespace Go.Proofs.Ytllglnomokebcaa
open Go.RowKit

set_option maxHeartbeats 1000000 in
theorem works_any (w : World) : Calls Try.prog 22 #[] w fun e w' => e = .returned (.bool true) ∧ w.grownBy w' none := by
  go_enter Try.func22, Try.ntmps22
  go_wp2_with fail
  refine (new_yes _ 64 (by omega) (by omega)).mono ?_
  rintro e w1 ⟨p, b, rfl, hm1, hg1, hp, hb⟩
  go_wp2_with fail
  refine (put_yes _ p b 64 63 7 _ hm1 (by omega)).mono ?_
  rintro e w2 ⟨rfl, hm2, hg2⟩
  go_wp2_with fail
  refine (put_no _ p b 64 64 7 _ hm2 (by omega)).mono ?_
  rintro e w3 ⟨rfl, rfl⟩
  go_wp2_with fail
  refine (copy_yes _ p b 64 60 63 1 _ hm2 (by omega) (by omega)).mono ?_
  rintro e w4 ⟨rfl, hm4, hg4⟩
  go_wp2_with fail
  refine (get_yes _ p b 64 60 _ hm4 (by omega)).mono ?_
  rintro e w5 ⟨rfl, q, rfl⟩
  go_wp2_with fail
  refine (new_no _ 63 (by omega)).mono ?_
  rintro e w6 ⟨rfl, rfl⟩
  go_wp2_with fail
  refine (zero_yes _ p b 64 64 0 _ (hm4.drewN q) (by omega)).mono ?_
  rintro e w7 ⟨rfl, hm7, hg7⟩
  go_wp2_with fail
  refine (zero_no _ p b 64 64 1 _ hm7 (by omega)).mono ?_
  rintro e w8 ⟨rfl, rfl⟩
  go_wp2
  go_ret
  exact ⟨rfl, gbNew (gbTrans (gbTrans (gbTrans (gbTrans (gbAny hg1 _) hg2) hg4) (gbDrewN _ q _)) hg7) hb⟩

end Go.Proofs.Ytllglnomokebcaa
