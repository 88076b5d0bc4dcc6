/-
  THE DOCUMENT'S SIDE (donjonref05): Derive and Weaker as the chapter says them.
-/
import Derived.Test.YtdnoidnpiaadaaaGreatG17
namespace Go.Proofs.YtdnoidnpiaadaaaGreat
set_option maxRecDepth 10000
open Go.RowKit

theorem rderive_is (k o r b g n rt bd gd bt : Int) (d : C) (f : Int) (h : M.drv ⟨k, o, r, b, g, n⟩ rt bd gd bt = (d, f)) (w : World) :
    Calls Tryz.prog 86 #[cv ⟨k, o, r, b, g, n⟩, .int .i64 rt, .int .u64 bd, .int .u64 gd, .int .i64 bt] w fun e w' => e = .returned (.tuple #[cv d, .int .i64 f]) ∧ w.grownBy w' none := by
  by_cases hs : M.src ⟨k, o, r, b, g, n⟩ = 0
  · obtain ⟨hc, k0, k1, k10, k11⟩ := M.src_ok hs
    simp only at k0 k1 k10 k11
    have HC := fun w => rchk_is k o r b g n 0 hc w
    have e0 : (k == 0) = false := by simpa using k0
    have e1 : (k == 1) = false := by simpa using k1
    have e10 : (k == 10) = false := by simpa using k10
    have e11 : (k == 11) = false := by simpa using k11
    unfold M.drv at h
    rw [if_pos hs] at h
    cases hr : M.ck rt
    · rw [hr, if_neg (by simp)] at h
      simp only [Prod.mk.injEq] at h
      obtain ⟨rfl, rfl⟩ := h
      exact rd_rights k o r b g n rt bd gd bt e0 e1 e10 e11 hr HC w
    · rw [hr, if_pos rfl] at h
      simp only at h
      have HM := fun w => rmask_any r rt w
      by_cases c4 : k = 4 ∨ k = 5
      · have v1 : M.rgd k = true := by rcases c4 with rfl | rfl <;> rfl
        have v2 : M.bgd k = true := by rcases c4 with rfl | rfl <;> rfl
        have c2 : ¬ k = 2 := by omega
        by_cases cb : bd = 0
        · rw [if_neg (by simp [cb]), if_neg c2, v1, if_pos rfl] at h
          simp only [Prod.mk.injEq] at h
          obtain ⟨rfl, rfl⟩ := h
          rcases c4 with rfl | rfl
          · exact rd_keep4 o r b g n rt bd gd bt _ hr (by simpa using cb) HM HC w
          · exact rd_keep5 o r b g n rt bd gd bt _ hr (by simpa using cb) HM HC w
        · rw [if_pos ⟨v2, cb⟩, v1, if_pos rfl] at h
          by_cases cc : b = 0
          · rw [if_neg (by simpa using cc), M.blw28] at h
            by_cases cd : bd < 268435456
            · rw [if_pos (by simpa using cd)] at h
              simp only [Prod.mk.injEq] at h
              obtain ⟨rfl, rfl⟩ := h
              rcases c4 with rfl | rfl
              · exact rd_new4 o r b g n rt bd gd bt _ hr (by simpa using cb) (by simpa using cc) cd HM HC w
              · exact rd_new5 o r b g n rt bd gd bt _ hr (by simpa using cb) (by simpa using cc) cd HM HC w
            · rw [if_neg (by simpa using cd)] at h
              simp only [Prod.mk.injEq] at h
              obtain ⟨rfl, rfl⟩ := h
              rcases c4 with rfl | rfl
              · exact rd_far4 o r b g n rt bd gd bt _ hr (by simpa using cb) (by simpa using cc) cd HM HC w
              · exact rd_far5 o r b g n rt bd gd bt _ hr (by simpa using cb) (by simpa using cc) cd HM HC w
          · rw [if_pos cc] at h
            simp only [Prod.mk.injEq] at h
            obtain ⟨rfl, rfl⟩ := h
            rcases c4 with rfl | rfl
            · exact rd_state4 o r b g n rt bd gd bt _ hr (by simpa using cb) (by simpa using cc) HM HC w
            · exact rd_state5 o r b g n rt bd gd bt _ hr (by simpa using cb) (by simpa using cc) HM HC w
      · have v2 : M.bgd k = false := by simp [M.bgd]; omega
        rw [if_neg (by simp [v2])] at h
        by_cases c2 : k = 2
        · subst c2
          rw [if_pos rfl, show (if M.rgd (2 : Int) = true then M.msk r rt else r) = r from rfl] at h
          cases hg : M.grd gd bt
          · rw [hg, if_neg (by simp)] at h
            simp only [Prod.mk.injEq] at h
            obtain ⟨rfl, rfl⟩ := h
            exact rd_node_no o r b g n rt bd gd bt hr hg HC w
          · rw [hg, if_pos rfl] at h
            simp only [Prod.mk.injEq] at h
            obtain ⟨rfl, rfl⟩ := h
            exact rd_node_yes o r b g n rt bd gd bt hr hg HC w
        · rw [if_neg c2] at h
          by_cases c6 : k = 6
          · subst c6
            rw [show (if M.rgd (6 : Int) = true then M.msk r rt else r) = M.msk r rt from rfl] at h
            simp only [Prod.mk.injEq] at h
            obtain ⟨rfl, rfl⟩ := h
            exact rd_frame o r b g n rt bd gd bt _ hr HM HC w
          · have v1 : M.rgd k = false := by simp [M.rgd]; omega
            rw [v1, if_neg (by simp)] at h
            simp only [Prod.mk.injEq] at h
            obtain ⟨rfl, rfl⟩ := h
            exact rd_plain k o r b g n rt bd gd bt e0 e1 e10 e11 hr v1 v2 (by simpa using c2) HC w
  · unfold M.drv at h
    rw [if_neg hs] at h
    simp only [Prod.mk.injEq] at h
    obtain ⟨rfl, rfl⟩ := h
    unfold M.src at hs ⊢
    by_cases hc : M.chk ⟨k, o, r, b, g, n⟩ = 0
    · have HC := fun w => rchk_is k o r b g n 0 hc w
      rw [if_pos hc] at hs ⊢
      simp only at hs ⊢
      by_cases k0 : k = 0
      · subst k0
        exact rd_null o r b g n rt bd gd bt HC w
      · rw [if_neg k0] at hs ⊢
        by_cases k1 : k = 1 ∨ k = 10 ∨ k = 11
        · rw [if_pos k1]
          rcases k1 with rfl | rfl | rfl
          · exact rd_kind1 o r b g n rt bd gd bt HC w
          · exact rd_kind10 o r b g n rt bd gd bt HC w
          · exact rd_kind11 o r b g n rt bd gd bt HC w
        · rw [if_neg k1] at hs; simp at hs
    · rw [if_neg hc]
      exact rd_check k o r b g n rt bd gd bt _ (by simpa using hc) (fun w => rchk_is k o r b g n _ rfl w) w

end Go.Proofs.YtdnoidnpiaadaaaGreat
