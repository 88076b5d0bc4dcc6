/-
  THE DOCUMENT'S SIDE (donjonref05): Derive, Weaker.
-/
import Derived.Test.YtkgjcolimceogaaRchk
import Derived.Test.YtkgjcolimceogaaLess
namespace Go.Proofs.Ytkgjcolimceogaa
open Go.RowKit

set_option maxHeartbeats 1000000 in
theorem rd_check (k o r b g n rt bd gd bt : Int) (v : Int) (hv : (v != 0) = true)
    (HC : ∀ w, Calls Try.prog 14 #[cv ⟨k, o, r, b, g, n⟩] w fun e w' => e = .returned (.int .i64 v) ∧ w.grownBy w' none) (w : World) :
    Calls Try.prog 16 #[cv ⟨k, o, r, b, g, n⟩, .int .i64 rt, .int .u64 bd, .int .u64 gd, .int .i64 bt] w fun e w' => e = .returned (.tuple #[cv C.zero, .int .i64 v]) ∧ w.grownBy w' none := by
  obtain ⟨X5, X10, gW⟩ := boxes2 w ⟨k, o, r, b, g, n⟩ C.zero _ rfl
  go_enter Try.func16, Try.ntmps16
  go_wp2_with fail
  refine (HC _).mono ?_
  rintro e w1 ⟨rfl, g1⟩
  obtain ⟨c0, c1, c2, c3, c4, c5, clt, cfr⟩ := X5.kept g1
  obtain ⟨a0, a1, a2, a3, a4, a5, lt, fr⟩ := X10.kept g1
  have G1 := gbTrans gW g1
  clear X5 X10 gW g1
  simp only at c0 c1 c2 c3 c4 c5
  go_wp2
  exact bodyPost_ret (v := .tuple #[cv C.zero, .int .i64 v]) (by simp [results, Try.results16, go_sem, a0, a1, a2, a3, a4, a5]) rfl ⟨rfl, by repeat (first | with_reducible exact G1 | refine gbSetNew ?_ _ _ _ (by omega))⟩

set_option maxHeartbeats 1000000 in
theorem rd_null (o r b g n rt bd gd bt : Int)
    (HC : ∀ w, Calls Try.prog 14 #[cv ⟨0, o, r, b, g, n⟩] w fun e w' => e = .returned (.int .i64 0) ∧ w.grownBy w' none) (w : World) :
    Calls Try.prog 16 #[cv ⟨0, o, r, b, g, n⟩, .int .i64 rt, .int .u64 bd, .int .u64 gd, .int .i64 bt] w fun e w' => e = .returned (.tuple #[cv C.zero, .int .i64 3]) ∧ w.grownBy w' none := by
  obtain ⟨X5, X10, gW⟩ := boxes2 w ⟨0, o, r, b, g, n⟩ C.zero _ rfl
  go_enter Try.func16, Try.ntmps16
  go_wp2_with fail
  refine (HC _).mono ?_
  rintro e w1 ⟨rfl, g1⟩
  obtain ⟨c0, c1, c2, c3, c4, c5, clt, cfr⟩ := X5.kept g1
  obtain ⟨a0, a1, a2, a3, a4, a5, lt, fr⟩ := X10.kept g1
  have G1 := gbTrans gW g1
  clear X5 X10 gW g1
  simp only at c0 c1 c2 c3 c4 c5
  go_wp2
  exact bodyPost_ret (v := .tuple #[cv C.zero, .int .i64 3]) (by simp [results, Try.results16, go_sem, a0, a1, a2, a3, a4, a5]) rfl ⟨rfl, by repeat (first | with_reducible exact G1 | refine gbSetNew ?_ _ _ _ (by omega))⟩

set_option maxHeartbeats 1000000 in
theorem rd_kind1 (o r b g n rt bd gd bt : Int)
    (HC : ∀ w, Calls Try.prog 14 #[cv ⟨1, o, r, b, g, n⟩] w fun e w' => e = .returned (.int .i64 0) ∧ w.grownBy w' none) (w : World) :
    Calls Try.prog 16 #[cv ⟨1, o, r, b, g, n⟩, .int .i64 rt, .int .u64 bd, .int .u64 gd, .int .i64 bt] w fun e w' => e = .returned (.tuple #[cv C.zero, .int .i64 2]) ∧ w.grownBy w' none := by
  obtain ⟨X5, X10, gW⟩ := boxes2 w ⟨1, o, r, b, g, n⟩ C.zero _ rfl
  go_enter Try.func16, Try.ntmps16
  go_wp2_with fail
  refine (HC _).mono ?_
  rintro e w1 ⟨rfl, g1⟩
  obtain ⟨c0, c1, c2, c3, c4, c5, clt, cfr⟩ := X5.kept g1
  obtain ⟨a0, a1, a2, a3, a4, a5, lt, fr⟩ := X10.kept g1
  have G1 := gbTrans gW g1
  clear X5 X10 gW g1
  simp only at c0 c1 c2 c3 c4 c5
  go_wp2
  exact bodyPost_ret (v := .tuple #[cv C.zero, .int .i64 2]) (by simp [results, Try.results16, go_sem, a0, a1, a2, a3, a4, a5]) rfl ⟨rfl, by repeat (first | with_reducible exact G1 | refine gbSetNew ?_ _ _ _ (by omega))⟩

set_option maxHeartbeats 1000000 in
theorem rd_kind10 (o r b g n rt bd gd bt : Int)
    (HC : ∀ w, Calls Try.prog 14 #[cv ⟨10, o, r, b, g, n⟩] w fun e w' => e = .returned (.int .i64 0) ∧ w.grownBy w' none) (w : World) :
    Calls Try.prog 16 #[cv ⟨10, o, r, b, g, n⟩, .int .i64 rt, .int .u64 bd, .int .u64 gd, .int .i64 bt] w fun e w' => e = .returned (.tuple #[cv C.zero, .int .i64 2]) ∧ w.grownBy w' none := by
  obtain ⟨X5, X10, gW⟩ := boxes2 w ⟨10, o, r, b, g, n⟩ C.zero _ rfl
  go_enter Try.func16, Try.ntmps16
  go_wp2_with fail
  refine (HC _).mono ?_
  rintro e w1 ⟨rfl, g1⟩
  obtain ⟨c0, c1, c2, c3, c4, c5, clt, cfr⟩ := X5.kept g1
  obtain ⟨a0, a1, a2, a3, a4, a5, lt, fr⟩ := X10.kept g1
  have G1 := gbTrans gW g1
  clear X5 X10 gW g1
  simp only at c0 c1 c2 c3 c4 c5
  go_wp2
  exact bodyPost_ret (v := .tuple #[cv C.zero, .int .i64 2]) (by simp [results, Try.results16, go_sem, a0, a1, a2, a3, a4, a5]) rfl ⟨rfl, by repeat (first | with_reducible exact G1 | refine gbSetNew ?_ _ _ _ (by omega))⟩

set_option maxHeartbeats 1000000 in
theorem rd_kind11 (o r b g n rt bd gd bt : Int)
    (HC : ∀ w, Calls Try.prog 14 #[cv ⟨11, o, r, b, g, n⟩] w fun e w' => e = .returned (.int .i64 0) ∧ w.grownBy w' none) (w : World) :
    Calls Try.prog 16 #[cv ⟨11, o, r, b, g, n⟩, .int .i64 rt, .int .u64 bd, .int .u64 gd, .int .i64 bt] w fun e w' => e = .returned (.tuple #[cv C.zero, .int .i64 2]) ∧ w.grownBy w' none := by
  obtain ⟨X5, X10, gW⟩ := boxes2 w ⟨11, o, r, b, g, n⟩ C.zero _ rfl
  go_enter Try.func16, Try.ntmps16
  go_wp2_with fail
  refine (HC _).mono ?_
  rintro e w1 ⟨rfl, g1⟩
  obtain ⟨c0, c1, c2, c3, c4, c5, clt, cfr⟩ := X5.kept g1
  obtain ⟨a0, a1, a2, a3, a4, a5, lt, fr⟩ := X10.kept g1
  have G1 := gbTrans gW g1
  clear X5 X10 gW g1
  simp only at c0 c1 c2 c3 c4 c5
  go_wp2
  exact bodyPost_ret (v := .tuple #[cv C.zero, .int .i64 2]) (by simp [results, Try.results16, go_sem, a0, a1, a2, a3, a4, a5]) rfl ⟨rfl, by repeat (first | with_reducible exact G1 | refine gbSetNew ?_ _ _ _ (by omega))⟩

set_option maxHeartbeats 1000000 in
theorem rd_rights (k o r b g n rt bd gd bt : Int) (h0 : (k == 0) = false) (h1 : (k == 1) = false) (h10 : (k == 10) = false) (h11 : (k == 11) = false) (hr : M.ck rt = false)
    (HC : ∀ w, Calls Try.prog 14 #[cv ⟨k, o, r, b, g, n⟩] w fun e w' => e = .returned (.int .i64 0) ∧ w.grownBy w' none) (w : World) :
    Calls Try.prog 16 #[cv ⟨k, o, r, b, g, n⟩, .int .i64 rt, .int .u64 bd, .int .u64 gd, .int .i64 bt] w fun e w' => e = .returned (.tuple #[cv C.zero, .int .i64 5]) ∧ w.grownBy w' none := by
  obtain ⟨X5, X10, gW⟩ := boxes2 w ⟨k, o, r, b, g, n⟩ C.zero _ rfl
  go_enter Try.func16, Try.ntmps16
  go_wp2_with fail
  refine (HC _).mono ?_
  rintro e w1 ⟨rfl, g1⟩
  obtain ⟨c0, c1, c2, c3, c4, c5, clt, cfr⟩ := X5.kept g1
  obtain ⟨a0, a1, a2, a3, a4, a5, lt, fr⟩ := X10.kept g1
  have G1 := gbTrans gW g1
  clear X5 X10 gW g1
  simp only at c0 c1 c2 c3 c4 c5
  go_wp2_with fail
  refine (rcheck_is rt false hr _).mono ?_
  rintro e w' ⟨rfl, rfl⟩
  go_wp2
  exact bodyPost_ret (v := .tuple #[cv C.zero, .int .i64 5]) (by simp [results, Try.results16, go_sem, a0, a1, a2, a3, a4, a5]) rfl ⟨rfl, by repeat (first | with_reducible exact G1 | refine gbSetNew ?_ _ _ _ (by omega))⟩

set_option maxHeartbeats 1000000 in
theorem rd_plain (k o r b g n rt bd gd bt : Int) (h0 : (k == 0) = false) (h1 : (k == 1) = false) (h10 : (k == 10) = false) (h11 : (k == 11) = false) (hr : M.ck rt = true) (v1 : M.rgd k = false) (v2 : M.bgd k = false) (h2 : (k == 2) = false)
    (HC : ∀ w, Calls Try.prog 14 #[cv ⟨k, o, r, b, g, n⟩] w fun e w' => e = .returned (.int .i64 0) ∧ w.grownBy w' none) (w : World) :
    Calls Try.prog 16 #[cv ⟨k, o, r, b, g, n⟩, .int .i64 rt, .int .u64 bd, .int .u64 gd, .int .i64 bt] w fun e w' => e = .returned (.tuple #[cv ⟨k, o, r, b, g, n⟩, .int .i64 0]) ∧ w.grownBy w' none := by
  obtain ⟨X5, X10, gW⟩ := boxes2 w ⟨k, o, r, b, g, n⟩ C.zero _ rfl
  go_enter Try.func16, Try.ntmps16
  go_wp2_with fail
  refine (HC _).mono ?_
  rintro e w1 ⟨rfl, g1⟩
  obtain ⟨c0, c1, c2, c3, c4, c5, clt, cfr⟩ := X5.kept g1
  obtain ⟨a0, a1, a2, a3, a4, a5, lt, fr⟩ := X10.kept g1
  have G1 := gbTrans gW g1
  clear X5 X10 gW g1
  simp only at c0 c1 c2 c3 c4 c5
  go_wp2_with fail
  refine (rcheck_is rt true hr _).mono ?_
  rintro e w' ⟨rfl, rfl⟩
  go_wp2_with fail
  refine (righted_is k false v1 _).mono ?_
  rintro e w' ⟨rfl, rfl⟩
  go_wp2_with fail
  refine (badged_is k false v2 _).mono ?_
  rintro e w' ⟨rfl, rfl⟩
  go_wp2
  exact bodyPost_ret (v := .tuple #[cv ⟨k, o, r, b, g, n⟩, .int .i64 0]) (by simp [results, Try.results16, go_sem, a0, a1, a2, a3, a4, a5]) rfl ⟨rfl, by repeat (first | with_reducible exact G1 | refine gbSetNew ?_ _ _ _ (by omega))⟩

set_option maxHeartbeats 1000000 in
theorem rd_node_no (o r b g n rt bd gd bt : Int) (hr : M.ck rt = true) (hg : M.grd gd bt = false)
    (HC : ∀ w, Calls Try.prog 14 #[cv ⟨2, o, r, b, g, n⟩] w fun e w' => e = .returned (.int .i64 0) ∧ w.grownBy w' none) (w : World) :
    Calls Try.prog 16 #[cv ⟨2, o, r, b, g, n⟩, .int .i64 rt, .int .u64 bd, .int .u64 gd, .int .i64 bt] w fun e w' => e = .returned (.tuple #[cv C.zero, .int .i64 10]) ∧ w.grownBy w' none := by
  obtain ⟨X5, X10, gW⟩ := boxes2 w ⟨2, o, r, b, g, n⟩ C.zero _ rfl
  go_enter Try.func16, Try.ntmps16
  go_wp2_with fail
  refine (HC _).mono ?_
  rintro e w1 ⟨rfl, g1⟩
  obtain ⟨c0, c1, c2, c3, c4, c5, clt, cfr⟩ := X5.kept g1
  obtain ⟨a0, a1, a2, a3, a4, a5, lt, fr⟩ := X10.kept g1
  have G1 := gbTrans gW g1
  clear X5 X10 gW g1
  simp only at c0 c1 c2 c3 c4 c5
  go_wp2_with fail
  refine (rcheck_is rt true hr _).mono ?_
  rintro e w' ⟨rfl, rfl⟩
  go_wp2_with fail
  refine (righted_is 2 false rfl _).mono ?_
  rintro e w' ⟨rfl, rfl⟩
  go_wp2_with fail
  refine (badged_is 2 false rfl _).mono ?_
  rintro e w' ⟨rfl, rfl⟩
  go_wp2_with fail
  refine (guarded_is gd bt false hg _).mono ?_
  rintro e w' ⟨rfl, rfl⟩
  go_wp2
  exact bodyPost_ret (v := .tuple #[cv C.zero, .int .i64 10]) (by simp [results, Try.results16, go_sem, a0, a1, a2, a3, a4, a5]) rfl ⟨rfl, by repeat (first | with_reducible exact G1 | refine gbSetNew ?_ _ _ _ (by omega))⟩

set_option maxHeartbeats 1000000 in
theorem rd_node_yes (o r b g n rt bd gd bt : Int) (hr : M.ck rt = true) (hg : M.grd gd bt = true)
    (HC : ∀ w, Calls Try.prog 14 #[cv ⟨2, o, r, b, g, n⟩] w fun e w' => e = .returned (.int .i64 0) ∧ w.grownBy w' none) (w : World) :
    Calls Try.prog 16 #[cv ⟨2, o, r, b, g, n⟩, .int .i64 rt, .int .u64 bd, .int .u64 gd, .int .i64 bt] w fun e w' => e = .returned (.tuple #[cv ⟨2, o, r, b, gd, bt⟩, .int .i64 0]) ∧ w.grownBy w' none := by
  obtain ⟨X5, X10, gW⟩ := boxes2 w ⟨2, o, r, b, g, n⟩ C.zero _ rfl
  go_enter Try.func16, Try.ntmps16
  go_wp2_with fail
  refine (HC _).mono ?_
  rintro e w1 ⟨rfl, g1⟩
  obtain ⟨c0, c1, c2, c3, c4, c5, clt, cfr⟩ := X5.kept g1
  obtain ⟨a0, a1, a2, a3, a4, a5, lt, fr⟩ := X10.kept g1
  have G1 := gbTrans gW g1
  clear X5 X10 gW g1
  simp only at c0 c1 c2 c3 c4 c5
  go_wp2_with fail
  refine (rcheck_is rt true hr _).mono ?_
  rintro e w' ⟨rfl, rfl⟩
  go_wp2_with fail
  refine (righted_is 2 false rfl _).mono ?_
  rintro e w' ⟨rfl, rfl⟩
  go_wp2_with fail
  refine (badged_is 2 false rfl _).mono ?_
  rintro e w' ⟨rfl, rfl⟩
  go_wp2_with fail
  refine (guarded_is gd bt true hg _).mono ?_
  rintro e w' ⟨rfl, rfl⟩
  go_wp2
  exact bodyPost_ret (v := .tuple #[cv ⟨2, o, r, b, gd, bt⟩, .int .i64 0]) (by simp [results, Try.results16, go_sem, a0, a1, a2, a3, a4, a5]) rfl ⟨rfl, by repeat (first | with_reducible exact G1 | refine gbSetNew ?_ _ _ _ (by omega))⟩

set_option maxHeartbeats 1000000 in
theorem rd_frame (o r b g n rt bd gd bt r' : Int) (hr : M.ck rt = true)
    (HM : ∀ w, Calls Try.prog 32 #[.int .i64 r, .int .i64 rt] w fun e w' => e = .returned (.int .i64 r') ∧ w' = w)
    (HC : ∀ w, Calls Try.prog 14 #[cv ⟨6, o, r, b, g, n⟩] w fun e w' => e = .returned (.int .i64 0) ∧ w.grownBy w' none) (w : World) :
    Calls Try.prog 16 #[cv ⟨6, o, r, b, g, n⟩, .int .i64 rt, .int .u64 bd, .int .u64 gd, .int .i64 bt] w fun e w' => e = .returned (.tuple #[cv ⟨6, o, r', b, g, n⟩, .int .i64 0]) ∧ w.grownBy w' none := by
  obtain ⟨X5, X10, gW⟩ := boxes2 w ⟨6, o, r, b, g, n⟩ C.zero _ rfl
  go_enter Try.func16, Try.ntmps16
  go_wp2_with fail
  refine (HC _).mono ?_
  rintro e w1 ⟨rfl, g1⟩
  obtain ⟨c0, c1, c2, c3, c4, c5, clt, cfr⟩ := X5.kept g1
  obtain ⟨a0, a1, a2, a3, a4, a5, lt, fr⟩ := X10.kept g1
  have G1 := gbTrans gW g1
  clear X5 X10 gW g1
  simp only at c0 c1 c2 c3 c4 c5
  go_wp2_with fail
  refine (rcheck_is rt true hr _).mono ?_
  rintro e w' ⟨rfl, rfl⟩
  go_wp2_with fail
  refine (righted_is 6 true rfl _).mono ?_
  rintro e w' ⟨rfl, rfl⟩
  go_wp2_with fail
  refine (HM _).mono ?_
  rintro e w' ⟨rfl, rfl⟩
  go_wp2_with fail
  refine (badged_is 6 false rfl _).mono ?_
  rintro e w' ⟨rfl, rfl⟩
  go_wp2
  exact bodyPost_ret (v := .tuple #[cv ⟨6, o, r', b, g, n⟩, .int .i64 0]) (by simp [results, Try.results16, go_sem, a0, a1, a2, a3, a4, a5]) rfl ⟨rfl, by repeat (first | with_reducible exact G1 | refine gbSetNew ?_ _ _ _ (by omega))⟩

set_option maxHeartbeats 1000000 in
theorem rd_keep4 (o r b g n rt bd gd bt r' : Int) (hr : M.ck rt = true) (hb : (bd != 0) = false)
    (HM : ∀ w, Calls Try.prog 32 #[.int .i64 r, .int .i64 rt] w fun e w' => e = .returned (.int .i64 r') ∧ w' = w)
    (HC : ∀ w, Calls Try.prog 14 #[cv ⟨4, o, r, b, g, n⟩] w fun e w' => e = .returned (.int .i64 0) ∧ w.grownBy w' none) (w : World) :
    Calls Try.prog 16 #[cv ⟨4, o, r, b, g, n⟩, .int .i64 rt, .int .u64 bd, .int .u64 gd, .int .i64 bt] w fun e w' => e = .returned (.tuple #[cv ⟨4, o, r', b, g, n⟩, .int .i64 0]) ∧ w.grownBy w' none := by
  obtain ⟨X5, X10, gW⟩ := boxes2 w ⟨4, o, r, b, g, n⟩ C.zero _ rfl
  go_enter Try.func16, Try.ntmps16
  go_wp2_with fail
  refine (HC _).mono ?_
  rintro e w1 ⟨rfl, g1⟩
  obtain ⟨c0, c1, c2, c3, c4, c5, clt, cfr⟩ := X5.kept g1
  obtain ⟨a0, a1, a2, a3, a4, a5, lt, fr⟩ := X10.kept g1
  have G1 := gbTrans gW g1
  clear X5 X10 gW g1
  simp only at c0 c1 c2 c3 c4 c5
  go_wp2_with fail
  refine (rcheck_is rt true hr _).mono ?_
  rintro e w' ⟨rfl, rfl⟩
  go_wp2_with fail
  refine (righted_is 4 true rfl _).mono ?_
  rintro e w' ⟨rfl, rfl⟩
  go_wp2_with fail
  refine (HM _).mono ?_
  rintro e w' ⟨rfl, rfl⟩
  go_wp2_with fail
  refine (badged_is 4 true rfl _).mono ?_
  rintro e w' ⟨rfl, rfl⟩
  go_wp2
  exact bodyPost_ret (v := .tuple #[cv ⟨4, o, r', b, g, n⟩, .int .i64 0]) (by simp [results, Try.results16, go_sem, a0, a1, a2, a3, a4, a5]) rfl ⟨rfl, by repeat (first | with_reducible exact G1 | refine gbSetNew ?_ _ _ _ (by omega))⟩

set_option maxHeartbeats 1000000 in
theorem rd_state4 (o r b g n rt bd gd bt r' : Int) (hr : M.ck rt = true) (hb : (bd != 0) = true) (hc : (b != 0) = true)
    (HM : ∀ w, Calls Try.prog 32 #[.int .i64 r, .int .i64 rt] w fun e w' => e = .returned (.int .i64 r') ∧ w' = w)
    (HC : ∀ w, Calls Try.prog 14 #[cv ⟨4, o, r, b, g, n⟩] w fun e w' => e = .returned (.int .i64 0) ∧ w.grownBy w' none) (w : World) :
    Calls Try.prog 16 #[cv ⟨4, o, r, b, g, n⟩, .int .i64 rt, .int .u64 bd, .int .u64 gd, .int .i64 bt] w fun e w' => e = .returned (.tuple #[cv C.zero, .int .i64 8]) ∧ w.grownBy w' none := by
  obtain ⟨X5, X10, gW⟩ := boxes2 w ⟨4, o, r, b, g, n⟩ C.zero _ rfl
  go_enter Try.func16, Try.ntmps16
  go_wp2_with fail
  refine (HC _).mono ?_
  rintro e w1 ⟨rfl, g1⟩
  obtain ⟨c0, c1, c2, c3, c4, c5, clt, cfr⟩ := X5.kept g1
  obtain ⟨a0, a1, a2, a3, a4, a5, lt, fr⟩ := X10.kept g1
  have G1 := gbTrans gW g1
  clear X5 X10 gW g1
  simp only at c0 c1 c2 c3 c4 c5
  go_wp2_with fail
  refine (rcheck_is rt true hr _).mono ?_
  rintro e w' ⟨rfl, rfl⟩
  go_wp2_with fail
  refine (righted_is 4 true rfl _).mono ?_
  rintro e w' ⟨rfl, rfl⟩
  go_wp2_with fail
  refine (HM _).mono ?_
  rintro e w' ⟨rfl, rfl⟩
  go_wp2_with fail
  refine (badged_is 4 true rfl _).mono ?_
  rintro e w' ⟨rfl, rfl⟩
  go_wp2
  exact bodyPost_ret (v := .tuple #[cv C.zero, .int .i64 8]) (by simp [results, Try.results16, go_sem, a0, a1, a2, a3, a4, a5]) rfl ⟨rfl, by repeat (first | with_reducible exact G1 | refine gbSetNew ?_ _ _ _ (by omega))⟩

set_option maxHeartbeats 1000000 in
theorem rd_far4 (o r b g n rt bd gd bt r' : Int) (hr : M.ck rt = true) (hb : (bd != 0) = true) (hc : (b != 0) = false) (hd : ¬ bd < 268435456)
    (HM : ∀ w, Calls Try.prog 32 #[.int .i64 r, .int .i64 rt] w fun e w' => e = .returned (.int .i64 r') ∧ w' = w)
    (HC : ∀ w, Calls Try.prog 14 #[cv ⟨4, o, r, b, g, n⟩] w fun e w' => e = .returned (.int .i64 0) ∧ w.grownBy w' none) (w : World) :
    Calls Try.prog 16 #[cv ⟨4, o, r, b, g, n⟩, .int .i64 rt, .int .u64 bd, .int .u64 gd, .int .i64 bt] w fun e w' => e = .returned (.tuple #[cv C.zero, .int .i64 10]) ∧ w.grownBy w' none := by
  obtain ⟨X5, X10, gW⟩ := boxes2 w ⟨4, o, r, b, g, n⟩ C.zero _ rfl
  go_enter Try.func16, Try.ntmps16
  go_wp2_with fail
  refine (HC _).mono ?_
  rintro e w1 ⟨rfl, g1⟩
  obtain ⟨c0, c1, c2, c3, c4, c5, clt, cfr⟩ := X5.kept g1
  obtain ⟨a0, a1, a2, a3, a4, a5, lt, fr⟩ := X10.kept g1
  have G1 := gbTrans gW g1
  clear X5 X10 gW g1
  simp only at c0 c1 c2 c3 c4 c5
  go_wp2_with fail
  refine (rcheck_is rt true hr _).mono ?_
  rintro e w' ⟨rfl, rfl⟩
  go_wp2_with fail
  refine (righted_is 4 true rfl _).mono ?_
  rintro e w' ⟨rfl, rfl⟩
  go_wp2_with fail
  refine (HM _).mono ?_
  rintro e w' ⟨rfl, rfl⟩
  go_wp2_with fail
  refine (badged_is 4 true rfl _).mono ?_
  rintro e w' ⟨rfl, rfl⟩
  go_wp2
  exact bodyPost_ret (v := .tuple #[cv C.zero, .int .i64 10]) (by simp [results, Try.results16, go_sem, a0, a1, a2, a3, a4, a5]) rfl ⟨rfl, by repeat (first | with_reducible exact G1 | refine gbSetNew ?_ _ _ _ (by omega))⟩

set_option maxHeartbeats 1000000 in
theorem rd_new4 (o r b g n rt bd gd bt r' : Int) (hr : M.ck rt = true) (hb : (bd != 0) = true) (hc : (b != 0) = false) (hd : bd < 268435456)
    (HM : ∀ w, Calls Try.prog 32 #[.int .i64 r, .int .i64 rt] w fun e w' => e = .returned (.int .i64 r') ∧ w' = w)
    (HC : ∀ w, Calls Try.prog 14 #[cv ⟨4, o, r, b, g, n⟩] w fun e w' => e = .returned (.int .i64 0) ∧ w.grownBy w' none) (w : World) :
    Calls Try.prog 16 #[cv ⟨4, o, r, b, g, n⟩, .int .i64 rt, .int .u64 bd, .int .u64 gd, .int .i64 bt] w fun e w' => e = .returned (.tuple #[cv ⟨4, o, r', bd, g, n⟩, .int .i64 0]) ∧ w.grownBy w' none := by
  obtain ⟨X5, X10, gW⟩ := boxes2 w ⟨4, o, r, b, g, n⟩ C.zero _ rfl
  go_enter Try.func16, Try.ntmps16
  go_wp2_with fail
  refine (HC _).mono ?_
  rintro e w1 ⟨rfl, g1⟩
  obtain ⟨c0, c1, c2, c3, c4, c5, clt, cfr⟩ := X5.kept g1
  obtain ⟨a0, a1, a2, a3, a4, a5, lt, fr⟩ := X10.kept g1
  have G1 := gbTrans gW g1
  clear X5 X10 gW g1
  simp only at c0 c1 c2 c3 c4 c5
  go_wp2_with fail
  refine (rcheck_is rt true hr _).mono ?_
  rintro e w' ⟨rfl, rfl⟩
  go_wp2_with fail
  refine (righted_is 4 true rfl _).mono ?_
  rintro e w' ⟨rfl, rfl⟩
  go_wp2_with fail
  refine (HM _).mono ?_
  rintro e w' ⟨rfl, rfl⟩
  go_wp2_with fail
  refine (badged_is 4 true rfl _).mono ?_
  rintro e w' ⟨rfl, rfl⟩
  go_wp2
  exact bodyPost_ret (v := .tuple #[cv ⟨4, o, r', bd, g, n⟩, .int .i64 0]) (by simp [results, Try.results16, go_sem, a0, a1, a2, a3, a4, a5]) rfl ⟨rfl, by repeat (first | with_reducible exact G1 | refine gbSetNew ?_ _ _ _ (by omega))⟩

set_option maxHeartbeats 1000000 in
theorem rd_keep5 (o r b g n rt bd gd bt r' : Int) (hr : M.ck rt = true) (hb : (bd != 0) = false)
    (HM : ∀ w, Calls Try.prog 32 #[.int .i64 r, .int .i64 rt] w fun e w' => e = .returned (.int .i64 r') ∧ w' = w)
    (HC : ∀ w, Calls Try.prog 14 #[cv ⟨5, o, r, b, g, n⟩] w fun e w' => e = .returned (.int .i64 0) ∧ w.grownBy w' none) (w : World) :
    Calls Try.prog 16 #[cv ⟨5, o, r, b, g, n⟩, .int .i64 rt, .int .u64 bd, .int .u64 gd, .int .i64 bt] w fun e w' => e = .returned (.tuple #[cv ⟨5, o, r', b, g, n⟩, .int .i64 0]) ∧ w.grownBy w' none := by
  obtain ⟨X5, X10, gW⟩ := boxes2 w ⟨5, o, r, b, g, n⟩ C.zero _ rfl
  go_enter Try.func16, Try.ntmps16
  go_wp2_with fail
  refine (HC _).mono ?_
  rintro e w1 ⟨rfl, g1⟩
  obtain ⟨c0, c1, c2, c3, c4, c5, clt, cfr⟩ := X5.kept g1
  obtain ⟨a0, a1, a2, a3, a4, a5, lt, fr⟩ := X10.kept g1
  have G1 := gbTrans gW g1
  clear X5 X10 gW g1
  simp only at c0 c1 c2 c3 c4 c5
  go_wp2_with fail
  refine (rcheck_is rt true hr _).mono ?_
  rintro e w' ⟨rfl, rfl⟩
  go_wp2_with fail
  refine (righted_is 5 true rfl _).mono ?_
  rintro e w' ⟨rfl, rfl⟩
  go_wp2_with fail
  refine (HM _).mono ?_
  rintro e w' ⟨rfl, rfl⟩
  go_wp2_with fail
  refine (badged_is 5 true rfl _).mono ?_
  rintro e w' ⟨rfl, rfl⟩
  go_wp2
  exact bodyPost_ret (v := .tuple #[cv ⟨5, o, r', b, g, n⟩, .int .i64 0]) (by simp [results, Try.results16, go_sem, a0, a1, a2, a3, a4, a5]) rfl ⟨rfl, by repeat (first | with_reducible exact G1 | refine gbSetNew ?_ _ _ _ (by omega))⟩

set_option maxHeartbeats 1000000 in
theorem rd_state5 (o r b g n rt bd gd bt r' : Int) (hr : M.ck rt = true) (hb : (bd != 0) = true) (hc : (b != 0) = true)
    (HM : ∀ w, Calls Try.prog 32 #[.int .i64 r, .int .i64 rt] w fun e w' => e = .returned (.int .i64 r') ∧ w' = w)
    (HC : ∀ w, Calls Try.prog 14 #[cv ⟨5, o, r, b, g, n⟩] w fun e w' => e = .returned (.int .i64 0) ∧ w.grownBy w' none) (w : World) :
    Calls Try.prog 16 #[cv ⟨5, o, r, b, g, n⟩, .int .i64 rt, .int .u64 bd, .int .u64 gd, .int .i64 bt] w fun e w' => e = .returned (.tuple #[cv C.zero, .int .i64 8]) ∧ w.grownBy w' none := by
  obtain ⟨X5, X10, gW⟩ := boxes2 w ⟨5, o, r, b, g, n⟩ C.zero _ rfl
  go_enter Try.func16, Try.ntmps16
  go_wp2_with fail
  refine (HC _).mono ?_
  rintro e w1 ⟨rfl, g1⟩
  obtain ⟨c0, c1, c2, c3, c4, c5, clt, cfr⟩ := X5.kept g1
  obtain ⟨a0, a1, a2, a3, a4, a5, lt, fr⟩ := X10.kept g1
  have G1 := gbTrans gW g1
  clear X5 X10 gW g1
  simp only at c0 c1 c2 c3 c4 c5
  go_wp2_with fail
  refine (rcheck_is rt true hr _).mono ?_
  rintro e w' ⟨rfl, rfl⟩
  go_wp2_with fail
  refine (righted_is 5 true rfl _).mono ?_
  rintro e w' ⟨rfl, rfl⟩
  go_wp2_with fail
  refine (HM _).mono ?_
  rintro e w' ⟨rfl, rfl⟩
  go_wp2_with fail
  refine (badged_is 5 true rfl _).mono ?_
  rintro e w' ⟨rfl, rfl⟩
  go_wp2
  exact bodyPost_ret (v := .tuple #[cv C.zero, .int .i64 8]) (by simp [results, Try.results16, go_sem, a0, a1, a2, a3, a4, a5]) rfl ⟨rfl, by repeat (first | with_reducible exact G1 | refine gbSetNew ?_ _ _ _ (by omega))⟩

set_option maxHeartbeats 1000000 in
theorem rd_far5 (o r b g n rt bd gd bt r' : Int) (hr : M.ck rt = true) (hb : (bd != 0) = true) (hc : (b != 0) = false) (hd : ¬ bd < 268435456)
    (HM : ∀ w, Calls Try.prog 32 #[.int .i64 r, .int .i64 rt] w fun e w' => e = .returned (.int .i64 r') ∧ w' = w)
    (HC : ∀ w, Calls Try.prog 14 #[cv ⟨5, o, r, b, g, n⟩] w fun e w' => e = .returned (.int .i64 0) ∧ w.grownBy w' none) (w : World) :
    Calls Try.prog 16 #[cv ⟨5, o, r, b, g, n⟩, .int .i64 rt, .int .u64 bd, .int .u64 gd, .int .i64 bt] w fun e w' => e = .returned (.tuple #[cv C.zero, .int .i64 10]) ∧ w.grownBy w' none := by
  obtain ⟨X5, X10, gW⟩ := boxes2 w ⟨5, o, r, b, g, n⟩ C.zero _ rfl
  go_enter Try.func16, Try.ntmps16
  go_wp2_with fail
  refine (HC _).mono ?_
  rintro e w1 ⟨rfl, g1⟩
  obtain ⟨c0, c1, c2, c3, c4, c5, clt, cfr⟩ := X5.kept g1
  obtain ⟨a0, a1, a2, a3, a4, a5, lt, fr⟩ := X10.kept g1
  have G1 := gbTrans gW g1
  clear X5 X10 gW g1
  simp only at c0 c1 c2 c3 c4 c5
  go_wp2_with fail
  refine (rcheck_is rt true hr _).mono ?_
  rintro e w' ⟨rfl, rfl⟩
  go_wp2_with fail
  refine (righted_is 5 true rfl _).mono ?_
  rintro e w' ⟨rfl, rfl⟩
  go_wp2_with fail
  refine (HM _).mono ?_
  rintro e w' ⟨rfl, rfl⟩
  go_wp2_with fail
  refine (badged_is 5 true rfl _).mono ?_
  rintro e w' ⟨rfl, rfl⟩
  go_wp2
  exact bodyPost_ret (v := .tuple #[cv C.zero, .int .i64 10]) (by simp [results, Try.results16, go_sem, a0, a1, a2, a3, a4, a5]) rfl ⟨rfl, by repeat (first | with_reducible exact G1 | refine gbSetNew ?_ _ _ _ (by omega))⟩

set_option maxHeartbeats 1000000 in
theorem rd_new5 (o r b g n rt bd gd bt r' : Int) (hr : M.ck rt = true) (hb : (bd != 0) = true) (hc : (b != 0) = false) (hd : bd < 268435456)
    (HM : ∀ w, Calls Try.prog 32 #[.int .i64 r, .int .i64 rt] w fun e w' => e = .returned (.int .i64 r') ∧ w' = w)
    (HC : ∀ w, Calls Try.prog 14 #[cv ⟨5, o, r, b, g, n⟩] w fun e w' => e = .returned (.int .i64 0) ∧ w.grownBy w' none) (w : World) :
    Calls Try.prog 16 #[cv ⟨5, o, r, b, g, n⟩, .int .i64 rt, .int .u64 bd, .int .u64 gd, .int .i64 bt] w fun e w' => e = .returned (.tuple #[cv ⟨5, o, r', bd, g, n⟩, .int .i64 0]) ∧ w.grownBy w' none := by
  obtain ⟨X5, X10, gW⟩ := boxes2 w ⟨5, o, r, b, g, n⟩ C.zero _ rfl
  go_enter Try.func16, Try.ntmps16
  go_wp2_with fail
  refine (HC _).mono ?_
  rintro e w1 ⟨rfl, g1⟩
  obtain ⟨c0, c1, c2, c3, c4, c5, clt, cfr⟩ := X5.kept g1
  obtain ⟨a0, a1, a2, a3, a4, a5, lt, fr⟩ := X10.kept g1
  have G1 := gbTrans gW g1
  clear X5 X10 gW g1
  simp only at c0 c1 c2 c3 c4 c5
  go_wp2_with fail
  refine (rcheck_is rt true hr _).mono ?_
  rintro e w' ⟨rfl, rfl⟩
  go_wp2_with fail
  refine (righted_is 5 true rfl _).mono ?_
  rintro e w' ⟨rfl, rfl⟩
  go_wp2_with fail
  refine (HM _).mono ?_
  rintro e w' ⟨rfl, rfl⟩
  go_wp2_with fail
  refine (badged_is 5 true rfl _).mono ?_
  rintro e w' ⟨rfl, rfl⟩
  go_wp2
  exact bodyPost_ret (v := .tuple #[cv ⟨5, o, r', bd, g, n⟩, .int .i64 0]) (by simp [results, Try.results16, go_sem, a0, a1, a2, a3, a4, a5]) rfl ⟨rfl, by repeat (first | with_reducible exact G1 | refine gbSetNew ?_ _ _ _ (by omega))⟩


/-! ### Weaker -/
set_option maxHeartbeats 2000000 in
theorem rweaker_in (k o r b g n k' o' r' b' g' n' e1 e2 : Int) (v1 v2 v3 v4 v5 v6 v7 : Bool) (h1 : (e1 == 0) = v1) (h2 : (e2 == 0) = v2) (h3 : (k == k') = v3) (h4 : (o == o') = v4) (h6 : (b' == 0) = v6) (h7 : (b == b') = v7)
    (HA : ∀ w, Calls Try.prog 14 #[cv ⟨k, o, r, b, g, n⟩] w fun e w' => e = .returned (.int .i64 e1) ∧ w.grownBy w' none)
    (HB : ∀ w, Calls Try.prog 14 #[cv ⟨k', o', r', b', g', n'⟩] w fun e w' => e = .returned (.int .i64 e2) ∧ w.grownBy w' none)
    (HW : ∀ w, Calls Try.prog 35 #[.int .i64 r, .int .i64 r'] w fun e w' => e = .returned (.bool v5) ∧ w' = w) (w : World) :
    Calls Try.prog 18 #[cv ⟨k, o, r, b, g, n⟩, cv ⟨k', o', r', b', g', n'⟩] w fun e w' => e = .returned (.bool (v1 && v2 && v3 && v4 && v5 && (v6 || v7))) ∧ w.grownBy w' none := by
  obtain ⟨X0, Y0, gW⟩ := boxes2 w ⟨k, o, r, b, g, n⟩ ⟨k', o', r', b', g', n'⟩ _ rfl
  cases v1
  · go_enter Try.func18, Try.ntmps18
    go_wp2_with fail
    refine (HA _).mono ?_
    rintro e w1 ⟨rfl, g1⟩
    obtain ⟨c0, c1, c2, c3, c4, c5, _, _⟩ := X0.kept g1
    obtain ⟨d0, d1, d2, d3, d4, d5, _, _⟩ := Y0.kept g1
    simp only at c0 c1 c2 c3 c4 c5 d0 d1 d2 d3 d4 d5
    go_wp2
    go_ret
    exact ⟨ret_bool (by simp), gbTrans gW g1⟩
  · cases v2
    · go_enter Try.func18, Try.ntmps18
      go_wp2_with fail
      refine (HA _).mono ?_
      rintro e w1 ⟨rfl, g1⟩
      obtain ⟨c0, c1, c2, c3, c4, c5, _, _⟩ := X0.kept g1
      obtain ⟨d0, d1, d2, d3, d4, d5, _, _⟩ := Y0.kept g1
      simp only at c0 c1 c2 c3 c4 c5 d0 d1 d2 d3 d4 d5
      go_wp2_with fail
      refine (HB _).mono ?_
      rintro e w2 ⟨rfl, g2⟩
      clear c0 c1 c2 c3 c4 c5 d0 d1 d2 d3 d4 d5
      obtain ⟨c0, c1, c2, c3, c4, c5, _, _⟩ := (X0.kept g1).kept g2
      obtain ⟨d0, d1, d2, d3, d4, d5, _, _⟩ := (Y0.kept g1).kept g2
      simp only at c0 c1 c2 c3 c4 c5 d0 d1 d2 d3 d4 d5
      go_wp2
      go_ret
      exact ⟨ret_bool (by simp), gbTrans gW (gbTrans g1 g2)⟩
    · cases v3
      · go_enter Try.func18, Try.ntmps18
        go_wp2_with fail
        refine (HA _).mono ?_
        rintro e w1 ⟨rfl, g1⟩
        obtain ⟨c0, c1, c2, c3, c4, c5, _, _⟩ := X0.kept g1
        obtain ⟨d0, d1, d2, d3, d4, d5, _, _⟩ := Y0.kept g1
        simp only at c0 c1 c2 c3 c4 c5 d0 d1 d2 d3 d4 d5
        go_wp2_with fail
        refine (HB _).mono ?_
        rintro e w2 ⟨rfl, g2⟩
        clear c0 c1 c2 c3 c4 c5 d0 d1 d2 d3 d4 d5
        obtain ⟨c0, c1, c2, c3, c4, c5, _, _⟩ := (X0.kept g1).kept g2
        obtain ⟨d0, d1, d2, d3, d4, d5, _, _⟩ := (Y0.kept g1).kept g2
        simp only at c0 c1 c2 c3 c4 c5 d0 d1 d2 d3 d4 d5
        go_wp2
        go_ret
        exact ⟨ret_bool (by simp), gbTrans gW (gbTrans g1 g2)⟩
      · cases v4
        · go_enter Try.func18, Try.ntmps18
          go_wp2_with fail
          refine (HA _).mono ?_
          rintro e w1 ⟨rfl, g1⟩
          obtain ⟨c0, c1, c2, c3, c4, c5, _, _⟩ := X0.kept g1
          obtain ⟨d0, d1, d2, d3, d4, d5, _, _⟩ := Y0.kept g1
          simp only at c0 c1 c2 c3 c4 c5 d0 d1 d2 d3 d4 d5
          go_wp2_with fail
          refine (HB _).mono ?_
          rintro e w2 ⟨rfl, g2⟩
          clear c0 c1 c2 c3 c4 c5 d0 d1 d2 d3 d4 d5
          obtain ⟨c0, c1, c2, c3, c4, c5, _, _⟩ := (X0.kept g1).kept g2
          obtain ⟨d0, d1, d2, d3, d4, d5, _, _⟩ := (Y0.kept g1).kept g2
          simp only at c0 c1 c2 c3 c4 c5 d0 d1 d2 d3 d4 d5
          go_wp2
          go_ret
          exact ⟨ret_bool (by simp), gbTrans gW (gbTrans g1 g2)⟩
        · cases v5
          · go_enter Try.func18, Try.ntmps18
            go_wp2_with fail
            refine (HA _).mono ?_
            rintro e w1 ⟨rfl, g1⟩
            obtain ⟨c0, c1, c2, c3, c4, c5, _, _⟩ := X0.kept g1
            obtain ⟨d0, d1, d2, d3, d4, d5, _, _⟩ := Y0.kept g1
            simp only at c0 c1 c2 c3 c4 c5 d0 d1 d2 d3 d4 d5
            go_wp2_with fail
            refine (HB _).mono ?_
            rintro e w2 ⟨rfl, g2⟩
            clear c0 c1 c2 c3 c4 c5 d0 d1 d2 d3 d4 d5
            obtain ⟨c0, c1, c2, c3, c4, c5, _, _⟩ := (X0.kept g1).kept g2
            obtain ⟨d0, d1, d2, d3, d4, d5, _, _⟩ := (Y0.kept g1).kept g2
            simp only at c0 c1 c2 c3 c4 c5 d0 d1 d2 d3 d4 d5
            go_wp2_with fail
            refine (HW _).mono ?_
            rintro e w' ⟨rfl, rfl⟩
            go_wp2
            go_ret
            exact ⟨ret_bool (by simp), gbTrans gW (gbTrans g1 g2)⟩
          · cases v6
            all_goals
              go_enter Try.func18, Try.ntmps18
              go_wp2_with fail
              refine (HA _).mono ?_
              rintro e w1 ⟨rfl, g1⟩
              obtain ⟨c0, c1, c2, c3, c4, c5, _, _⟩ := X0.kept g1
              obtain ⟨d0, d1, d2, d3, d4, d5, _, _⟩ := Y0.kept g1
              simp only at c0 c1 c2 c3 c4 c5 d0 d1 d2 d3 d4 d5
              go_wp2_with fail
              refine (HB _).mono ?_
              rintro e w2 ⟨rfl, g2⟩
              clear c0 c1 c2 c3 c4 c5 d0 d1 d2 d3 d4 d5
              obtain ⟨c0, c1, c2, c3, c4, c5, _, _⟩ := (X0.kept g1).kept g2
              obtain ⟨d0, d1, d2, d3, d4, d5, _, _⟩ := (Y0.kept g1).kept g2
              simp only at c0 c1 c2 c3 c4 c5 d0 d1 d2 d3 d4 d5
              go_wp2_with fail
              refine (HW _).mono ?_
              rintro e w' ⟨rfl, rfl⟩
              go_wp2
              go_ret
              exact ⟨ret_bool (by simp), gbTrans gW (gbTrans g1 g2)⟩

end Go.Proofs.Ytkgjcolimceogaa
