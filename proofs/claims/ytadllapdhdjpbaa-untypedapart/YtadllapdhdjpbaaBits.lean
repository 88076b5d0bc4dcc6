/-
  THE CONTRACTS of Bits: package untyped's and the document's (donjonref06): the same plain function.
-/
import Derived.Test.YtadllapdhdjpbaaPlain
import Derived.Test.YtadllapdhdjpbaaLeaf
namespace Go.Proofs.Ytadllapdhdjpbaa
open Go.RowKit

theorem M.bts_ways (k n : Int) :
    (k = 2 ∧ n < 1 ∧ M.bts k n = (0, 1)) ∨ (k = 2 ∧ ¬ n < 1 ∧ 4 < n ∧ M.bts k n = (0, 1)) ∨ (k = 2 ∧ 1 ≤ n ∧ n ≤ 4 ∧ M.bts k n = (n + 1, 0)) ∨
    (k = 1 ∧ n < 0 ∧ M.bts k n = (0, 1)) ∨ (k = 1 ∧ ¬ n < 0 ∧ 16 < n ∧ M.bts k n = (0, 1)) ∨ (k = 1 ∧ 0 ≤ n ∧ n ≤ 16 ∧ M.bts k n = (n, 0)) ∨
    ((k = 3 ∨ k = 6 ∨ k = 7 ∨ k = 8) ∧ M.bts k n = (4, 0)) ∨ ((k = 4 ∨ k = 5) ∧ M.bts k n = (1, 0)) ∨
    (((k == 2) = false ∧ (k == 1) = false ∧ (k == 3) = false ∧ (k == 6) = false ∧ (k == 7) = false ∧ (k == 8) = false ∧ (k == 4) = false ∧ (k == 5) = false) ∧ M.bts k n = (0, 2)) := by
  unfold M.bts
  by_cases h2 : k = 2
  · rw [if_pos h2]
    by_cases c1 : n < 1
    · exact .inl ⟨h2, c1, by rw [if_pos (.inl c1)]⟩
    · by_cases c2 : 4 < n
      · exact .inr (.inl ⟨h2, c1, c2, by rw [if_pos (.inr c2)]⟩)
      · exact .inr (.inr (.inl ⟨h2, by omega, by omega, by rw [if_neg (by omega)]⟩))
  · rw [if_neg h2]
    by_cases h1 : k = 1
    · rw [if_pos h1]
      by_cases c1 : n < 0
      · exact .inr (.inr (.inr (.inl ⟨h1, c1, by rw [if_pos (.inl c1)]⟩)))
      · by_cases c2 : 16 < n
        · exact .inr (.inr (.inr (.inr (.inl ⟨h1, c1, c2, by rw [if_pos (.inr c2)]⟩))))
        · exact .inr (.inr (.inr (.inr (.inr (.inl ⟨h1, by omega, by omega, by rw [if_neg (by omega)]⟩)))))
    · rw [if_neg h1]
      by_cases h3 : k = 3 ∨ k = 6 ∨ k = 7 ∨ k = 8
      · exact .inr (.inr (.inr (.inr (.inr (.inr (.inl ⟨h3, by rw [if_pos h3]⟩))))))
      · rw [if_neg h3]
        by_cases h4 : k = 4 ∨ k = 5
        · exact .inr (.inr (.inr (.inr (.inr (.inr (.inr (.inl ⟨h4, by rw [if_pos h4]⟩)))))))
        · exact .inr (.inr (.inr (.inr (.inr (.inr (.inr (.inr ⟨⟨by simp; omega, by simp; omega, by simp; omega, by simp; omega, by simp; omega, by simp; omega, by simp; omega, by simp; omega⟩, by rw [if_neg h4]⟩)))))))


set_option maxHeartbeats 1000000 in
theorem bits_is (k n b e : Int) (h : M.bts k n = (b, e)) (w : World) :
    Calls Try.prog 8 #[.int .i64 k, .int .i64 n] w fun r w' => r = .returned (.tuple #[.int .i64 b, .int .i64 e]) ∧ w' = w := by
  rcases M.bts_ways k n with ⟨rfl, c1, q⟩ | ⟨rfl, c1, c2, q⟩ | ⟨rfl, c1, c2, q⟩ | ⟨rfl, c1, q⟩ | ⟨rfl, c1, c2, q⟩ | ⟨rfl, c1, c2, q⟩ | ⟨hk, q⟩ | ⟨hk, q⟩ | ⟨⟨k1, k2, k3, k4, k5, k6, k7, k8⟩, q⟩
  · rw [q, Prod.mk.injEq] at h; obtain ⟨rfl, rfl⟩ := h; clear q
    go_enter Try.func8, Try.ntmps8
    go_wp2
    go_ret2
    exact ⟨rfl, rfl⟩
  · rw [q, Prod.mk.injEq] at h; obtain ⟨rfl, rfl⟩ := h; clear q
    go_enter Try.func8, Try.ntmps8
    go_wp2
    go_ret2
    exact ⟨rfl, rfl⟩
  · rw [q, Prod.mk.injEq] at h; obtain ⟨rfl, rfl⟩ := h; clear q
    go_enter Try.func8, Try.ntmps8
    go_wp2
    go_ret2
    exact ⟨rfl, rfl⟩
  · rw [q, Prod.mk.injEq] at h; obtain ⟨rfl, rfl⟩ := h; clear q
    go_enter Try.func8, Try.ntmps8
    go_wp2
    go_ret2
    exact ⟨rfl, rfl⟩
  · rw [q, Prod.mk.injEq] at h; obtain ⟨rfl, rfl⟩ := h; clear q
    go_enter Try.func8, Try.ntmps8
    go_wp2
    go_ret2
    exact ⟨rfl, rfl⟩
  · rw [q, Prod.mk.injEq] at h; obtain ⟨rfl, rfl⟩ := h; clear q
    go_enter Try.func8, Try.ntmps8
    go_wp2
    go_ret2
    exact ⟨rfl, rfl⟩
  · rw [q, Prod.mk.injEq] at h; obtain ⟨rfl, rfl⟩ := h; clear q
    rcases hk with rfl | rfl | rfl | rfl
    all_goals
      go_enter Try.func8, Try.ntmps8
      go_wp2
      go_ret2
      exact ⟨rfl, rfl⟩
  · rw [q, Prod.mk.injEq] at h; obtain ⟨rfl, rfl⟩ := h; clear q
    rcases hk with rfl | rfl
    all_goals
      go_enter Try.func8, Try.ntmps8
      go_wp2
      go_ret2
      exact ⟨rfl, rfl⟩
  · rw [q, Prod.mk.injEq] at h; obtain ⟨rfl, rfl⟩ := h; clear q
    go_enter Try.func8, Try.ntmps8
    go_wp2
    go_ret2
    exact ⟨rfl, rfl⟩

set_option maxHeartbeats 1000000 in
theorem rbits_is (k n b e : Int) (h : M.bts k n = (b, e)) (w : World) :
    Calls Try.prog 9 #[.int .i64 k, .int .i64 n] w fun r w' => r = .returned (.tuple #[.int .i64 b, .int .i64 e]) ∧ w' = w := by
  rcases M.bts_ways k n with ⟨rfl, c1, q⟩ | ⟨rfl, c1, c2, q⟩ | ⟨rfl, c1, c2, q⟩ | ⟨rfl, c1, q⟩ | ⟨rfl, c1, c2, q⟩ | ⟨rfl, c1, c2, q⟩ | ⟨hk, q⟩ | ⟨hk, q⟩ | ⟨⟨k1, k2, k3, k4, k5, k6, k7, k8⟩, q⟩
  · rw [q, Prod.mk.injEq] at h; obtain ⟨rfl, rfl⟩ := h; clear q
    go_enter Try.func9, Try.ntmps9
    go_wp2
    go_ret2
    exact ⟨rfl, rfl⟩
  · rw [q, Prod.mk.injEq] at h; obtain ⟨rfl, rfl⟩ := h; clear q
    go_enter Try.func9, Try.ntmps9
    go_wp2
    go_ret2
    exact ⟨rfl, rfl⟩
  · rw [q, Prod.mk.injEq] at h; obtain ⟨rfl, rfl⟩ := h; clear q
    go_enter Try.func9, Try.ntmps9
    go_wp2
    go_ret2
    exact ⟨rfl, rfl⟩
  · rw [q, Prod.mk.injEq] at h; obtain ⟨rfl, rfl⟩ := h; clear q
    go_enter Try.func9, Try.ntmps9
    go_wp2
    go_ret2
    exact ⟨rfl, rfl⟩
  · rw [q, Prod.mk.injEq] at h; obtain ⟨rfl, rfl⟩ := h; clear q
    go_enter Try.func9, Try.ntmps9
    go_wp2
    go_ret2
    exact ⟨rfl, rfl⟩
  · rw [q, Prod.mk.injEq] at h; obtain ⟨rfl, rfl⟩ := h; clear q
    go_enter Try.func9, Try.ntmps9
    go_wp2
    go_ret2
    exact ⟨rfl, rfl⟩
  · rw [q, Prod.mk.injEq] at h; obtain ⟨rfl, rfl⟩ := h; clear q
    rcases hk with rfl | rfl | rfl | rfl
    all_goals
      go_enter Try.func9, Try.ntmps9
      go_wp2
      go_ret2
      exact ⟨rfl, rfl⟩
  · rw [q, Prod.mk.injEq] at h; obtain ⟨rfl, rfl⟩ := h; clear q
    rcases hk with rfl | rfl
    all_goals
      go_enter Try.func9, Try.ntmps9
      go_wp2
      go_ret2
      exact ⟨rfl, rfl⟩
  · rw [q, Prod.mk.injEq] at h; obtain ⟨rfl, rfl⟩ := h; clear q
    go_enter Try.func9, Try.ntmps9
    go_wp2
    go_ret2
    exact ⟨rfl, rfl⟩

end Go.Proofs.Ytadllapdhdjpbaa
