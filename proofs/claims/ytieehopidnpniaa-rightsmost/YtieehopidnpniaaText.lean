/-
  THE CONTRACT of Text: rights in letters.
-/
import Derived.Test.YtieehopidnpniaaLeaf
namespace Go.Proofs.Ytieehopidnpniaa
open Go.RowKit

theorem conv_r (w : World) : (convert 21 9 (.int .i32 114)).run Try.prog w = .ok (.string ⟨#[114]⟩) w := by kernel_rfl
theorem conv_w (w : World) : (convert 21 9 (.int .i32 119)).run Try.prog w = .ok (.string ⟨#[119]⟩) w := by kernel_rfl
theorem conv_g (w : World) : (convert 21 9 (.int .i32 103)).run Try.prog w = .ok (.string ⟨#[103]⟩) w := by kernel_rfl
theorem next0 (w : World) (ty : TypeId) : (Instr.next (.pointer (some ⟨w.heap.size, 0, none⟩)) true ty).run Try.prog (w.iter ⟨#[114, 119, 103]⟩ 0) = .ok (.tuple #[.bool true, .int .i64 0, .int .i32 114]) (w.iter ⟨#[114, 119, 103]⟩ 1) :=
  run_next_ascii w ⟨#[114, 119, 103]⟩ 0 ty (by decide) (by decide)
theorem next1 (w : World) (ty : TypeId) : (Instr.next (.pointer (some ⟨w.heap.size, 0, none⟩)) true ty).run Try.prog (w.iter ⟨#[114, 119, 103]⟩ 1) = .ok (.tuple #[.bool true, .int .i64 1, .int .i32 119]) (w.iter ⟨#[114, 119, 103]⟩ 2) :=
  run_next_ascii w ⟨#[114, 119, 103]⟩ 1 ty (by decide) (by decide)
theorem next2 (w : World) (ty : TypeId) : (Instr.next (.pointer (some ⟨w.heap.size, 0, none⟩)) true ty).run Try.prog (w.iter ⟨#[114, 119, 103]⟩ 2) = .ok (.tuple #[.bool true, .int .i64 2, .int .i32 103]) (w.iter ⟨#[114, 119, 103]⟩ 3) :=
  run_next_ascii w ⟨#[114, 119, 103]⟩ 2 ty (by decide) (by decide)
theorem next3 (w : World) (ty : TypeId) : (Instr.next (.pointer (some ⟨w.heap.size, 0, none⟩)) true ty).run Try.prog (w.iter ⟨#[114, 119, 103]⟩ 3) = .ok (.tuple #[.bool false]) (w.iter ⟨#[114, 119, 103]⟩ 3) :=
  run_next_end w ⟨#[114, 119, 103]⟩ 3 ty (by decide)

theorem cat0 (x : ByteArray) : (⟨#[]⟩ : ByteArray) ++ x = x := by apply ByteArray.ext; simp [ByteArray.data_append]
theorem cat1 : (⟨#[114]⟩ : ByteArray) ++ (⟨#[119]⟩ : ByteArray) = ⟨#[114, 119]⟩ := by apply ByteArray.ext; simp [ByteArray.data_append]
theorem cat2 : (⟨#[114]⟩ : ByteArray) ++ (⟨#[103]⟩ : ByteArray) = ⟨#[114, 103]⟩ := by apply ByteArray.ext; simp [ByteArray.data_append]
theorem cat3 : (⟨#[119]⟩ : ByteArray) ++ (⟨#[103]⟩ : ByteArray) = ⟨#[119, 103]⟩ := by apply ByteArray.ext; simp [ByteArray.data_append]
theorem cat4 : (⟨#[114, 119]⟩ : ByteArray) ++ (⟨#[103]⟩ : ByteArray) = ⟨#[114, 119, 103]⟩ := by apply ByteArray.ext; simp [ByteArray.data_append]
theorem full1 : (⟨#[114]⟩ : ByteArray).toList.isEmpty = false := by kernel_rfl
theorem full2 : (⟨#[119]⟩ : ByteArray).toList.isEmpty = false := by kernel_rfl
theorem full3 : (⟨#[114, 119]⟩ : ByteArray).toList.isEmpty = false := by kernel_rfl
theorem full4 : (⟨#[103]⟩ : ByteArray).toList.isEmpty = false := by kernel_rfl
theorem full5 : (⟨#[114, 103]⟩ : ByteArray).toList.isEmpty = false := by kernel_rfl
theorem full6 : (⟨#[119, 103]⟩ : ByteArray).toList.isEmpty = false := by kernel_rfl
theorem full7 : (⟨#[114, 119, 103]⟩ : ByteArray).toList.isEmpty = false := by kernel_rfl

set_option maxHeartbeats 400000 in
theorem text_no (a : Int) (h : M.ck a = false) (w : World) : Calls Try.prog 14 #[.int .i64 a] w fun e w' => e = .returned (.tuple #[.string ⟨#[]⟩, .int .i64 1]) ∧ w.grownBy w' none := by
  go_enter Try.func14, Try.ntmps14
  go_wp2_with fail
  refine (check_is a false h _).mono ?_
  rintro e w' ⟨rfl, rfl⟩
  go_wp2
  go_ret2
  exact ⟨rfl, gbRefl _ _⟩

set_option maxHeartbeats 800000 in
theorem text_at0 (w : World) : Calls Try.prog 14 #[.int .i64 0] w fun e w' => e = .returned (.tuple #[.string (M.txt 0), .int .i64 0]) ∧ w.grownBy w' none := by
  have n0 := next0 w
  have n1 := next1 w
  have n2 := next2 w
  have n3 := next3 w
  have k0 := conv_r
  have k1 := conv_w
  have k2 := conv_g
  have e0 := cat0
  have e1 := cat1
  have e2 := cat2
  have e3 := cat3
  have e4 := cat4
  go_enter Try.func14, Try.ntmps14
  go_wp2_with fail
  refine (check_is _ true (by decide) _).mono ?_
  rintro e w' ⟨rfl, rfl⟩
  go_wp2
  refine wp_loop_rounds 4 ?_
  rw [rounds_succ]
  go_wp2_with fail
  refine (within_is _ _ false (by decide) _).mono ?_
  rintro e w' ⟨rfl, rfl⟩
  go_wp2
  rw [rounds_succ]
  go_wp2_with fail
  refine (within_is _ _ false (by decide) _).mono ?_
  rintro e w' ⟨rfl, rfl⟩
  go_wp2
  rw [rounds_succ]
  go_wp2_with fail
  refine (within_is _ _ false (by decide) _).mono ?_
  rintro e w' ⟨rfl, rfl⟩
  go_wp2
  rw [rounds_succ]
  go_wp2
  go_ret2
  exact ⟨rfl, gbAlloc _ _ _⟩

set_option maxHeartbeats 800000 in
theorem text_at1 (w : World) : Calls Try.prog 14 #[.int .i64 1] w fun e w' => e = .returned (.tuple #[.string (M.txt 1), .int .i64 0]) ∧ w.grownBy w' none := by
  have n0 := next0 w
  have n1 := next1 w
  have n2 := next2 w
  have n3 := next3 w
  have k0 := conv_r
  have k1 := conv_w
  have k2 := conv_g
  have e0 := cat0
  have e1 := cat1
  have e2 := cat2
  have e3 := cat3
  have e4 := cat4
  have f1 := full1
  go_enter Try.func14, Try.ntmps14
  go_wp2_with fail
  refine (check_is _ true (by decide) _).mono ?_
  rintro e w' ⟨rfl, rfl⟩
  go_wp2
  refine wp_loop_rounds 4 ?_
  rw [rounds_succ]
  go_wp2_with fail
  refine (within_is _ _ true (by decide) _).mono ?_
  rintro e w' ⟨rfl, rfl⟩
  go_wp2
  rw [rounds_succ]
  go_wp2_with fail
  refine (within_is _ _ false (by decide) _).mono ?_
  rintro e w' ⟨rfl, rfl⟩
  go_wp2
  rw [rounds_succ]
  go_wp2_with fail
  refine (within_is _ _ false (by decide) _).mono ?_
  rintro e w' ⟨rfl, rfl⟩
  go_wp2
  rw [rounds_succ]
  go_wp2
  go_ret2
  exact ⟨rfl, gbAlloc _ _ _⟩

set_option maxHeartbeats 800000 in
theorem text_at2 (w : World) : Calls Try.prog 14 #[.int .i64 2] w fun e w' => e = .returned (.tuple #[.string (M.txt 2), .int .i64 0]) ∧ w.grownBy w' none := by
  have n0 := next0 w
  have n1 := next1 w
  have n2 := next2 w
  have n3 := next3 w
  have k0 := conv_r
  have k1 := conv_w
  have k2 := conv_g
  have e0 := cat0
  have e1 := cat1
  have e2 := cat2
  have e3 := cat3
  have e4 := cat4
  have f2 := full2
  go_enter Try.func14, Try.ntmps14
  go_wp2_with fail
  refine (check_is _ true (by decide) _).mono ?_
  rintro e w' ⟨rfl, rfl⟩
  go_wp2
  refine wp_loop_rounds 4 ?_
  rw [rounds_succ]
  go_wp2_with fail
  refine (within_is _ _ false (by decide) _).mono ?_
  rintro e w' ⟨rfl, rfl⟩
  go_wp2
  rw [rounds_succ]
  go_wp2_with fail
  refine (within_is _ _ true (by decide) _).mono ?_
  rintro e w' ⟨rfl, rfl⟩
  go_wp2
  rw [rounds_succ]
  go_wp2_with fail
  refine (within_is _ _ false (by decide) _).mono ?_
  rintro e w' ⟨rfl, rfl⟩
  go_wp2
  rw [rounds_succ]
  go_wp2
  go_ret2
  exact ⟨rfl, gbAlloc _ _ _⟩

set_option maxHeartbeats 800000 in
theorem text_at3 (w : World) : Calls Try.prog 14 #[.int .i64 3] w fun e w' => e = .returned (.tuple #[.string (M.txt 3), .int .i64 0]) ∧ w.grownBy w' none := by
  have n0 := next0 w
  have n1 := next1 w
  have n2 := next2 w
  have n3 := next3 w
  have k0 := conv_r
  have k1 := conv_w
  have k2 := conv_g
  have e0 := cat0
  have e1 := cat1
  have e2 := cat2
  have e3 := cat3
  have e4 := cat4
  have f3 := full3
  go_enter Try.func14, Try.ntmps14
  go_wp2_with fail
  refine (check_is _ true (by decide) _).mono ?_
  rintro e w' ⟨rfl, rfl⟩
  go_wp2
  refine wp_loop_rounds 4 ?_
  rw [rounds_succ]
  go_wp2_with fail
  refine (within_is _ _ true (by decide) _).mono ?_
  rintro e w' ⟨rfl, rfl⟩
  go_wp2
  rw [rounds_succ]
  go_wp2_with fail
  refine (within_is _ _ true (by decide) _).mono ?_
  rintro e w' ⟨rfl, rfl⟩
  go_wp2
  rw [rounds_succ]
  go_wp2_with fail
  refine (within_is _ _ false (by decide) _).mono ?_
  rintro e w' ⟨rfl, rfl⟩
  go_wp2
  rw [rounds_succ]
  go_wp2
  go_ret2
  exact ⟨rfl, gbAlloc _ _ _⟩

set_option maxHeartbeats 800000 in
theorem text_at4 (w : World) : Calls Try.prog 14 #[.int .i64 4] w fun e w' => e = .returned (.tuple #[.string (M.txt 4), .int .i64 0]) ∧ w.grownBy w' none := by
  have n0 := next0 w
  have n1 := next1 w
  have n2 := next2 w
  have n3 := next3 w
  have k0 := conv_r
  have k1 := conv_w
  have k2 := conv_g
  have e0 := cat0
  have e1 := cat1
  have e2 := cat2
  have e3 := cat3
  have e4 := cat4
  have f4 := full4
  go_enter Try.func14, Try.ntmps14
  go_wp2_with fail
  refine (check_is _ true (by decide) _).mono ?_
  rintro e w' ⟨rfl, rfl⟩
  go_wp2
  refine wp_loop_rounds 4 ?_
  rw [rounds_succ]
  go_wp2_with fail
  refine (within_is _ _ false (by decide) _).mono ?_
  rintro e w' ⟨rfl, rfl⟩
  go_wp2
  rw [rounds_succ]
  go_wp2_with fail
  refine (within_is _ _ false (by decide) _).mono ?_
  rintro e w' ⟨rfl, rfl⟩
  go_wp2
  rw [rounds_succ]
  go_wp2_with fail
  refine (within_is _ _ true (by decide) _).mono ?_
  rintro e w' ⟨rfl, rfl⟩
  go_wp2
  rw [rounds_succ]
  go_wp2
  go_ret2
  exact ⟨rfl, gbAlloc _ _ _⟩

set_option maxHeartbeats 800000 in
theorem text_at5 (w : World) : Calls Try.prog 14 #[.int .i64 5] w fun e w' => e = .returned (.tuple #[.string (M.txt 5), .int .i64 0]) ∧ w.grownBy w' none := by
  have n0 := next0 w
  have n1 := next1 w
  have n2 := next2 w
  have n3 := next3 w
  have k0 := conv_r
  have k1 := conv_w
  have k2 := conv_g
  have e0 := cat0
  have e1 := cat1
  have e2 := cat2
  have e3 := cat3
  have e4 := cat4
  have f5 := full5
  go_enter Try.func14, Try.ntmps14
  go_wp2_with fail
  refine (check_is _ true (by decide) _).mono ?_
  rintro e w' ⟨rfl, rfl⟩
  go_wp2
  refine wp_loop_rounds 4 ?_
  rw [rounds_succ]
  go_wp2_with fail
  refine (within_is _ _ true (by decide) _).mono ?_
  rintro e w' ⟨rfl, rfl⟩
  go_wp2
  rw [rounds_succ]
  go_wp2_with fail
  refine (within_is _ _ false (by decide) _).mono ?_
  rintro e w' ⟨rfl, rfl⟩
  go_wp2
  rw [rounds_succ]
  go_wp2_with fail
  refine (within_is _ _ true (by decide) _).mono ?_
  rintro e w' ⟨rfl, rfl⟩
  go_wp2
  rw [rounds_succ]
  go_wp2
  go_ret2
  exact ⟨rfl, gbAlloc _ _ _⟩

set_option maxHeartbeats 800000 in
theorem text_at6 (w : World) : Calls Try.prog 14 #[.int .i64 6] w fun e w' => e = .returned (.tuple #[.string (M.txt 6), .int .i64 0]) ∧ w.grownBy w' none := by
  have n0 := next0 w
  have n1 := next1 w
  have n2 := next2 w
  have n3 := next3 w
  have k0 := conv_r
  have k1 := conv_w
  have k2 := conv_g
  have e0 := cat0
  have e1 := cat1
  have e2 := cat2
  have e3 := cat3
  have e4 := cat4
  have f6 := full6
  go_enter Try.func14, Try.ntmps14
  go_wp2_with fail
  refine (check_is _ true (by decide) _).mono ?_
  rintro e w' ⟨rfl, rfl⟩
  go_wp2
  refine wp_loop_rounds 4 ?_
  rw [rounds_succ]
  go_wp2_with fail
  refine (within_is _ _ false (by decide) _).mono ?_
  rintro e w' ⟨rfl, rfl⟩
  go_wp2
  rw [rounds_succ]
  go_wp2_with fail
  refine (within_is _ _ true (by decide) _).mono ?_
  rintro e w' ⟨rfl, rfl⟩
  go_wp2
  rw [rounds_succ]
  go_wp2_with fail
  refine (within_is _ _ true (by decide) _).mono ?_
  rintro e w' ⟨rfl, rfl⟩
  go_wp2
  rw [rounds_succ]
  go_wp2
  go_ret2
  exact ⟨rfl, gbAlloc _ _ _⟩

set_option maxHeartbeats 800000 in
theorem text_at7 (w : World) : Calls Try.prog 14 #[.int .i64 7] w fun e w' => e = .returned (.tuple #[.string (M.txt 7), .int .i64 0]) ∧ w.grownBy w' none := by
  have n0 := next0 w
  have n1 := next1 w
  have n2 := next2 w
  have n3 := next3 w
  have k0 := conv_r
  have k1 := conv_w
  have k2 := conv_g
  have e0 := cat0
  have e1 := cat1
  have e2 := cat2
  have e3 := cat3
  have e4 := cat4
  have f7 := full7
  go_enter Try.func14, Try.ntmps14
  go_wp2_with fail
  refine (check_is _ true (by decide) _).mono ?_
  rintro e w' ⟨rfl, rfl⟩
  go_wp2
  refine wp_loop_rounds 4 ?_
  rw [rounds_succ]
  go_wp2_with fail
  refine (within_is _ _ true (by decide) _).mono ?_
  rintro e w' ⟨rfl, rfl⟩
  go_wp2
  rw [rounds_succ]
  go_wp2_with fail
  refine (within_is _ _ true (by decide) _).mono ?_
  rintro e w' ⟨rfl, rfl⟩
  go_wp2
  rw [rounds_succ]
  go_wp2_with fail
  refine (within_is _ _ true (by decide) _).mono ?_
  rintro e w' ⟨rfl, rfl⟩
  go_wp2
  rw [rounds_succ]
  go_wp2
  go_ret2
  exact ⟨rfl, gbAlloc _ _ _⟩

theorem text_yes (A : Nat) (h : A < 8) (w : World) : Calls Try.prog 14 #[.int .i64 A] w fun e w' => e = .returned (.tuple #[.string (M.txt A), .int .i64 0]) ∧ w.grownBy w' none := by
  rcases M.lt8 h with rfl | rfl | rfl | rfl | rfl | rfl | rfl | rfl
  · exact text_at0 w
  · exact text_at1 w
  · exact text_at2 w
  · exact text_at3 w
  · exact text_at4 w
  · exact text_at5 w
  · exact text_at6 w
  · exact text_at7 w
end Go.Proofs.Ytieehopidnpniaa
