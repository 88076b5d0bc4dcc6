/-
  THE CONTRACTS of package span's Has, In, Apart and Halves.
-/
import Derived.Test.YtadllapdhdjpbaaLeaf
namespace Go.Proofs.Ytadllapdhdjpbaa
open Go.RowKit

theorem gbTwo (w : World) (o p : Obj) (r : Option Nat) : w.grownBy ((w.alloc o).alloc p) r := gbTrans (gbAlloc _ _ _) (gbAlloc _ _ _)
theorem boxTwo (w : World) (A B C D : Int) : Box ((w.alloc (.cells #[.int .i64 A, .int .i64 B] 23)).alloc (.cells #[.int .i64 C, .int .i64 D] 23)) w.heap.size A B ∧
    Box ((w.alloc (.cells #[.int .i64 A, .int .i64 B] 23)).alloc (.cells #[.int .i64 C, .int .i64 D] 23)) (w.heap.size + 1) C D :=
  ⟨(Box.made w A B).kept (gbAlloc _ _ _), by simpa using Box.made (w.alloc (.cells #[.int .i64 A, .int .i64 B] 23)) C D⟩

set_option maxHeartbeats 800000 in
theorem in_any (A B C D : Int) (w : World) :
    Calls Try.prog 18 #[sp A B, sp C D] w fun e w' => e = .returned (.bool (M.inn A B C D)) ∧ w.grownBy w' none := by
  have BB := boxTwo w A B C D
  obtain ⟨c0, c1⟩ := BB.1.all
  obtain ⟨d0, d1⟩ := BB.2.all
  cases h1 : M.rgt A B
  · have HR := fun w => right_is A B false h1 w
    have e : M.inn A B C D = false := by unfold M.inn; rw [h1]; rfl
    rw [e]
    clear h1 e
    go_enter Try.func18, Try.ntmps18
    go_wp2
    refine wp_region_grown (by kernel_rfl) (by kernel_rfl) fun _ => ?_
    repeat (go_big_quiet_step ((go_at_call 29; with_reducible exact callsGr (HR _))))
    refine wpQuiet_nil ?_
    rintro _ ⟨⟨w1, g1⟩, rfl⟩
    go_wp2
    go_ret
    exact ⟨rfl, gbTrans (gbTwo _ _ _ _) g1⟩
  · have HR := fun w => right_is A B true h1 w
    obtain ⟨a, b, m, rfl, rfl, hb, hm, hpw, m1, m2, m3, hr⟩ := M.rgt_nat h1
    have HE := fun w => end_any a b m w hb hm (by omega) (by omega)
    cases h2 : M.rgt C D
    · have HS := fun w => right_is C D false h2 w
      have e : M.inn a b C D = false := by unfold M.inn; rw [h1, h2]; rfl
      rw [e]
      clear h1 h2 e hm hpw hr HE
      go_enter Try.func18, Try.ntmps18
      go_wp2
      refine wp_region_grown (by kernel_rfl) (by kernel_rfl) fun _ => ?_
      repeat (go_big_quiet_step ((go_at_call 29; first | with_reducible exact callsGr (HR _) | with_reducible exact callsGr (HS _))))
      refine wpQuiet_nil ?_
      rintro _ ⟨⟨w1, g1⟩, rfl⟩
      go_wp2
      go_ret
      exact ⟨rfl, gbTrans (gbTwo _ _ _ _) g1⟩
    · have HS := fun w => right_is C D true h2 w
      obtain ⟨c, d, n, rfl, rfl, hd, hn, hpn, n1, n2, n3, hs⟩ := M.rgt_nat h2
      have HF := fun w => end_any c d n w hd hn (by omega) (by omega)
      have e : M.inn a b c d = (decide ((c : Int) ≤ (a : Int)) && decide ((a : Int) + (m : Int) ≤ (c : Int) + (n : Int))) := by unfold M.inn; rw [h1, h2, hpw, hpn]; rfl
      rw [e]
      clear h1 h2 e hm hpw hr hn hpn hs
      by_cases k : c ≤ a
      · have k' : decide ((c : Int) ≤ (a : Int)) = true := by simpa using k
        rw [k', Bool.true_and]
        go_enter Try.func18, Try.ntmps18
        go_wp2
        refine wp_region_grown (by kernel_rfl) (by kernel_rfl) fun _ => ?_
        repeat (go_big_quiet_step ((first | (go_at_call 29; first | with_reducible exact callsGr (HR _) | with_reducible exact callsGr (HS _)) | (go_at_call 27; first | with_reducible exact callsGr (HE _) | with_reducible exact callsGr (HF _)))))
        refine wpQuiet_nil ?_
        rintro _ ⟨⟨w1, g1⟩, rfl⟩
        go_wp2
        go_ret
        exact ⟨rfl, gbTrans (gbTwo _ _ _ _) g1⟩
      · have k' : decide ((c : Int) ≤ (a : Int)) = false := by simpa using k
        rw [k', Bool.false_and]
        go_enter Try.func18, Try.ntmps18
        go_wp2
        refine wp_region_grown (by kernel_rfl) (by kernel_rfl) fun _ => ?_
        repeat (go_big_quiet_step ((first | (go_at_call 29; first | with_reducible exact callsGr (HR _) | with_reducible exact callsGr (HS _)) | (go_at_call 27; first | with_reducible exact callsGr (HE _) | with_reducible exact callsGr (HF _)))))
        refine wpQuiet_nil ?_
        rintro _ ⟨⟨w1, g1⟩, rfl⟩
        go_wp2
        go_ret
        exact ⟨rfl, gbTrans (gbTwo _ _ _ _) g1⟩

set_option maxHeartbeats 800000 in
theorem apart_any (A B C D : Int) (w : World) :
    Calls Try.prog 30 #[sp A B, sp C D] w fun e w' => e = .returned (.bool (M.apt A B C D)) ∧ w.grownBy w' none := by
  have BB := boxTwo w A B C D
  obtain ⟨c0, c1⟩ := BB.1.all
  obtain ⟨d0, d1⟩ := BB.2.all
  cases h1 : M.rgt A B
  · have HR := fun w => right_is A B false h1 w
    have e : M.apt A B C D = false := by unfold M.apt; rw [h1]; rfl
    rw [e]
    clear h1 e
    go_enter Try.func30, Try.ntmps30
    go_wp2
    refine wp_region_grown (by kernel_rfl) (by kernel_rfl) fun _ => ?_
    repeat (go_big_quiet_step ((go_at_call 29; with_reducible exact callsGr (HR _))))
    refine wpQuiet_nil ?_
    rintro _ ⟨⟨w1, g1⟩, rfl⟩
    go_wp2
    go_ret
    exact ⟨rfl, gbTrans (gbTwo _ _ _ _) g1⟩
  · have HR := fun w => right_is A B true h1 w
    obtain ⟨a, b, m, rfl, rfl, hb, hm, hpw, m1, m2, m3, hr⟩ := M.rgt_nat h1
    have HE := fun w => end_any a b m w hb hm (by omega) (by omega)
    cases h2 : M.rgt C D
    · have HS := fun w => right_is C D false h2 w
      have e : M.apt a b C D = false := by unfold M.apt; rw [h1, h2]; rfl
      rw [e]
      clear h1 h2 e hm hpw hr HE
      go_enter Try.func30, Try.ntmps30
      go_wp2
      refine wp_region_grown (by kernel_rfl) (by kernel_rfl) fun _ => ?_
      repeat (go_big_quiet_step ((go_at_call 29; first | with_reducible exact callsGr (HR _) | with_reducible exact callsGr (HS _))))
      refine wpQuiet_nil ?_
      rintro _ ⟨⟨w1, g1⟩, rfl⟩
      go_wp2
      go_ret
      exact ⟨rfl, gbTrans (gbTwo _ _ _ _) g1⟩
    · have HS := fun w => right_is C D true h2 w
      obtain ⟨c, d, n, rfl, rfl, hd, hn, hpn, n1, n2, n3, hs⟩ := M.rgt_nat h2
      have HF := fun w => end_any c d n w hd hn (by omega) (by omega)
      have e : M.apt a b c d = (decide ((a : Int) + (m : Int) ≤ (c : Int)) || decide ((c : Int) + (n : Int) ≤ (a : Int))) := by unfold M.apt; rw [h1, h2, hpw, hpn]; rfl
      rw [e]
      clear h1 h2 e hm hpw hr hn hpn hs
      by_cases k : (a : Int) + (m : Int) ≤ (c : Int)
      · have k' : decide ((a : Int) + (m : Int) ≤ (c : Int)) = true := by simpa using k
        rw [k', Bool.true_or]
        go_enter Try.func30, Try.ntmps30
        go_wp2
        refine wp_region_grown (by kernel_rfl) (by kernel_rfl) fun _ => ?_
        repeat (go_big_quiet_step ((first | (go_at_call 29; first | with_reducible exact callsGr (HR _) | with_reducible exact callsGr (HS _)) | (go_at_call 27; first | with_reducible exact callsGr (HE _) | with_reducible exact callsGr (HF _)))))
        refine wpQuiet_nil ?_
        rintro _ ⟨⟨w1, g1⟩, rfl⟩
        go_wp2
        go_ret
        exact ⟨rfl, gbTrans (gbTwo _ _ _ _) g1⟩
      · have k' : decide ((a : Int) + (m : Int) ≤ (c : Int)) = false := by simpa using k
        rw [k', Bool.false_or]
        go_enter Try.func30, Try.ntmps30
        go_wp2
        refine wp_region_grown (by kernel_rfl) (by kernel_rfl) fun _ => ?_
        repeat (go_big_quiet_step ((first | (go_at_call 29; first | with_reducible exact callsGr (HR _) | with_reducible exact callsGr (HS _)) | (go_at_call 27; first | with_reducible exact callsGr (HE _) | with_reducible exact callsGr (HF _)))))
        refine wpQuiet_nil ?_
        rintro _ ⟨⟨w1, g1⟩, rfl⟩
        go_wp2
        go_ret
        exact ⟨rfl, gbTrans (gbTwo _ _ _ _) g1⟩

end Go.Proofs.Ytadllapdhdjpbaa
