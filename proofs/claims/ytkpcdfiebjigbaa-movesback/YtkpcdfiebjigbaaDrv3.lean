/-
  THE CONTRACT of package cap's Derive.
-/
import Derived.Test.YtkpcdfiebjigbaaDrv2
namespace Go.Proofs.Ytkpcdfiebjigbaa
set_option maxRecDepth 10000
open Go.RowKit

theorem M.own_nonneg {c : C} (hb : 0 ≤ c.b) (hg : 0 ≤ c.g) : 0 ≤ (M.own c).b ∧ 0 ≤ (M.own c).g := by
  unfold M.own
  constructor
  · show 0 ≤ (if M.bgd c.k then c.b else 0)
    split <;> omega
  · show 0 ≤ (if c.k == 2 then c.g else 0)
    split <;> omega

theorem marked_is (k o r b g n bd gd bt : Int) (d : C) (f : Int) (hb : 0 ≤ b) (hbd : 0 ≤ bd) (hgd : 0 ≤ gd) (h : M.mrk ⟨k, o, r, b, g, n⟩ bd gd bt = (d, f)) (w : World) :
    Calls Try.prog 52 #[cv ⟨k, o, r, b, g, n⟩, .int .u64 bd, .int .u64 gd, .int .i64 bt] w fun e w' => e = .returned (.tuple #[cv d, .int .i64 f]) ∧ w.grownBy w' none := by
  have HO := fun w => own_any k o r bd gd bt w
  have hn := M.own_nonneg (c := ⟨k, o, r, bd, gd, bt⟩) hbd hgd
  unfold M.mrk M.lay at h
  simp only at h
  generalize M.own ⟨k, o, r, bd, gd, bt⟩ = q at HO hn h
  obtain ⟨k', o', r', b', g', n'⟩ := q
  obtain ⟨n1, n2⟩ := hn
  simp only at n1 n2 h
  by_cases c1 : b' = 0
  · subst c1
    rw [if_neg (by simp)] at h
    unfold M.lat at h
    rw [if_pos rfl] at h
    simp only at h
    have HC := fun w => check_any k' o' r' b g' n' hb n2 w
    by_cases c2 : M.chk ⟨k', o', r', b, g', n'⟩ = 0
    · rw [if_pos c2] at h
      rw [c2] at HC
      simp only [Prod.mk.injEq] at h
      obtain ⟨rfl, rfl⟩ := h
      exact marked_zyes k o r b g n bd gd bt k' o' r' g' n' HO HC w
    · rw [if_neg c2] at h
      simp only [Prod.mk.injEq] at h
      obtain ⟨rfl, rfl⟩ := h
      exact marked_zno k o r b g n bd gd bt k' o' r' g' n' _ (by simpa using c2) HO HC w
  · have e1 : (b' == 0) = false := by simpa using c1
    by_cases c3 : b = 0
    · subst c3
      rw [if_neg (by simp)] at h
      unfold M.lat at h
      rw [if_neg c1] at h
      have HC := fun w => check_any k' o' r' b' g' n' n1 n2 w
      by_cases c2 : M.chk ⟨k', o', r', b', g', n'⟩ = 0
      · rw [if_pos c2] at h
        rw [c2] at HC
        simp only [Prod.mk.injEq] at h
        obtain ⟨rfl, rfl⟩ := h
        exact marked_nyes k o r g n bd gd bt k' o' r' b' g' n' e1 HO HC w
      · rw [if_neg c2] at h
        simp only [Prod.mk.injEq] at h
        obtain ⟨rfl, rfl⟩ := h
        exact marked_nno k o r g n bd gd bt k' o' r' b' g' n' _ e1 (by simpa using c2) HO HC w
    · rw [if_pos ⟨c1, c3⟩] at h
      simp only [Prod.mk.injEq] at h
      obtain ⟨rfl, rfl⟩ := h
      exact marked_state k o r b g n bd gd bt k' o' r' b' g' n' e1 (by simpa using c3) HO w

theorem boxes2 (w : World) (c d : C) (W : World) (hW : (w.alloc (.cells #[.int .i64 c.k, .int .i64 c.o, .int .i64 c.r, .int .u64 c.b, .int .u64 c.g, .int .i64 c.n] 32)).alloc (.cells #[.int .i64 d.k, .int .i64 d.o, .int .i64 d.r, .int .u64 d.b, .int .u64 d.g, .int .i64 d.n] 32) = W) :
    Box W w.heap.size c ∧ Box W (w.heap.size + 1) d ∧ w.grownBy W none := by
  subst hW
  refine ⟨(Box.made w c).kept (gbAlloc _ _ _), ?_, gbAllocN (gbAlloc _ _ _) _⟩
  have h := Box.made (w.alloc (.cells #[.int .i64 c.k, .int .i64 c.o, .int .i64 c.r, .int .u64 c.b, .int .u64 c.g, .int .i64 c.n] 32)) d
  rw [show (w.alloc (.cells #[.int .i64 c.k, .int .i64 c.o, .int .i64 c.r, .int .u64 c.b, .int .u64 c.g, .int .i64 c.n] 32)).heap.size = w.heap.size + 1 by simp] at h
  exact h


set_option maxHeartbeats 1000000 in
theorem derive_src (k o r b g n rt bd gd bt v : Int) (hv : (v != 0) = true)
    (HS : ∀ w, Calls Try.prog 50 #[cv ⟨k, o, r, b, g, n⟩] w fun e w' => e = .returned (.int .i64 v) ∧ w.grownBy w' none) (w : World) :
    Calls Try.prog 33 #[cv ⟨k, o, r, b, g, n⟩, .int .i64 rt, .int .u64 bd, .int .u64 gd, .int .i64 bt] w fun e w' => e = .returned (.tuple #[cv C.zero, .int .i64 v]) ∧ w.grownBy w' none := by
  obtain ⟨X5, X10, gW⟩ := boxes2 w ⟨k, o, r, b, g, n⟩ C.zero _ rfl
  go_enter Try.func33, Try.ntmps33
  go_wp2_with fail
  refine (HS _).mono ?_
  rintro e w1 ⟨rfl, g1⟩
  obtain ⟨a0, a1, a2, a3, a4, a5, lt, fr⟩ := X10.kept g1
  have G1 := gbTrans gW g1
  clear X5 X10 gW g1
  go_wp2
  exact bodyPost_ret (v := .tuple #[cv C.zero, .int .i64 v]) (by simp [results, Try.results33, go_sem, a0, a1, a2, a3, a4, a5]) rfl ⟨rfl, by repeat (first | with_reducible exact G1 | refine gbSetNew ?_ _ _ _ (by omega))⟩

set_option maxHeartbeats 1000000 in
theorem derive_mask (k o r b g n rt bd gd bt v : Int) (d : C) (hv : (v != 0) = true)
    (HS : ∀ w, Calls Try.prog 50 #[cv ⟨k, o, r, b, g, n⟩] w fun e w' => e = .returned (.int .i64 0) ∧ w.grownBy w' none)
    (HM : ∀ w, Calls Try.prog 51 #[cv ⟨k, o, r, b, g, n⟩, .int .i64 rt] w fun e w' => e = .returned (.tuple #[cv d, .int .i64 v]) ∧ w.grownBy w' none) (w : World) :
    Calls Try.prog 33 #[cv ⟨k, o, r, b, g, n⟩, .int .i64 rt, .int .u64 bd, .int .u64 gd, .int .i64 bt] w fun e w' => e = .returned (.tuple #[cv C.zero, .int .i64 v]) ∧ w.grownBy w' none := by
  obtain ⟨k', o', r', b', g', n'⟩ := d
  obtain ⟨X5, X10, gW⟩ := boxes2 w ⟨k, o, r, b, g, n⟩ C.zero _ rfl
  go_enter Try.func33, Try.ntmps33
  go_wp2_with fail
  refine (HS _).mono ?_
  rintro e w1 ⟨rfl, g1⟩
  obtain ⟨a0, a1, a2, a3, a4, a5, _, _⟩ := X5.kept g1
  have Y10 := X10.kept g1
  have G1 := gbTrans gW g1
  clear X5 X10 gW g1
  go_wp2_with fail
  refine (HM _).mono ?_
  rintro e w2 ⟨rfl, g2⟩
  clear a0 a1 a2 a3 a4 a5
  have Z10 := Y10.kept g2
  have G2 := gbTrans G1 g2
  clear Y10 G1 g2
  go_upto_region 5 with fail
  obtain ⟨W3, hW3, _, h3⟩ := boxNew w2 ⟨k', o', r', b', g', n'⟩
  simp only at hW3
  rw [hW3]
  clear hW3
  obtain ⟨a0, a1, a2, a3, a4, a5, lt, fr⟩ := Z10.kept h3
  have G3 := gbTrans G2 h3
  clear Z10 G2 h3
  go_wp2
  exact bodyPost_ret (v := .tuple #[cv C.zero, .int .i64 v]) (by simp [results, Try.results33, go_sem, a0, a1, a2, a3, a4, a5]) rfl ⟨rfl, by repeat (first | with_reducible exact G3 | refine gbSetNew ?_ _ _ _ (by omega))⟩

set_option maxHeartbeats 1000000 in
theorem derive_yes (k o r b g n rt bd gd bt v : Int) (d q : C)
    (HS : ∀ w, Calls Try.prog 50 #[cv ⟨k, o, r, b, g, n⟩] w fun e w' => e = .returned (.int .i64 0) ∧ w.grownBy w' none)
    (HM : ∀ w, Calls Try.prog 51 #[cv ⟨k, o, r, b, g, n⟩, .int .i64 rt] w fun e w' => e = .returned (.tuple #[cv d, .int .i64 0]) ∧ w.grownBy w' none)
    (HK : ∀ w, Calls Try.prog 52 #[cv d, .int .u64 bd, .int .u64 gd, .int .i64 bt] w fun e w' => e = .returned (.tuple #[cv q, .int .i64 v]) ∧ w.grownBy w' none) (w : World) :
    Calls Try.prog 33 #[cv ⟨k, o, r, b, g, n⟩, .int .i64 rt, .int .u64 bd, .int .u64 gd, .int .i64 bt] w fun e w' => e = .returned (.tuple #[cv q, .int .i64 v]) ∧ w.grownBy w' none := by
  obtain ⟨k', o', r', b', g', n'⟩ := d
  obtain ⟨q0, q1, q2, q3, q4, q5⟩ := q
  obtain ⟨X5, X10, gW⟩ := boxes2 w ⟨k, o, r, b, g, n⟩ C.zero _ rfl
  go_enter Try.func33, Try.ntmps33
  go_wp2_with fail
  refine (HS _).mono ?_
  rintro e w1 ⟨rfl, g1⟩
  obtain ⟨a0, a1, a2, a3, a4, a5, _, _⟩ := X5.kept g1
  have Y10 := X10.kept g1
  have G1 := gbTrans gW g1
  clear X5 X10 gW g1
  go_wp2_with fail
  refine (HM _).mono ?_
  rintro e w2 ⟨rfl, g2⟩
  clear a0 a1 a2 a3 a4 a5
  have Z10 := Y10.kept g2
  have G2 := gbTrans G1 g2
  clear Y10 G1 g2
  go_wp2_with fail
  refine (HK _).mono ?_
  rintro e w3 ⟨rfl, g3⟩
  obtain ⟨a0, a1, a2, a3, a4, a5, lt, fr⟩ := (Z10.kept (gbAlloc _ _ none)).kept g3
  have G3 := gbTrans (gbAllocN G2 _) g3
  clear Z10 G2 g3
  go_wp2
  exact bodyPost_ret (v := .tuple #[cv ⟨q0, q1, q2, q3, q4, q5⟩, .int .i64 v]) (by simp [results, Try.results33, go_sem, a0, a1, a2, a3, a4, a5]) rfl ⟨rfl, by repeat (first | with_reducible exact G3 | refine gbSetNew ?_ _ _ _ (by omega))⟩

/-- Derive, step by step. -/
theorem derive_step (k o r b g n rt bd gd bt : Int) (d : C) (f : Int) (hb : 0 ≤ b) (hg : 0 ≤ g) (hbd : 0 ≤ bd) (hgd : 0 ≤ gd) (h : M.drp ⟨k, o, r, b, g, n⟩ rt bd gd bt = (d, f)) (w : World) :
    Calls Try.prog 33 #[cv ⟨k, o, r, b, g, n⟩, .int .i64 rt, .int .u64 bd, .int .u64 gd, .int .i64 bt] w fun e w' => e = .returned (.tuple #[cv d, .int .i64 f]) ∧ w.grownBy w' none := by
  unfold M.drp at h
  by_cases c1 : M.src ⟨k, o, r, b, g, n⟩ = 0
  · rw [if_pos c1] at h
    have HS := fun w => source_is k o r b g n 0 hb hg c1 w
    obtain ⟨⟨⟨k', o', r', b', g', n'⟩, f'⟩, hm⟩ : ∃ p, M.msd ⟨k, o, r, b, g, n⟩ rt = p := ⟨_, rfl⟩
    have HM := fun w => masked_is k o r b g n rt ⟨k', o', r', b', g', n'⟩ f' hm w
    rw [hm] at h
    simp only at h
    by_cases c2 : f' = 0
    · subst c2
      rw [if_pos rfl] at h
      have hb' : 0 ≤ b' := by
        unfold M.msd at hm
        cases x : M.ck rt
        · rw [x, if_neg (by simp)] at hm; simp at hm
        · rw [x, if_pos rfl] at hm; simp only [Prod.mk.injEq, C.mk.injEq] at hm; omega
      exact derive_yes k o r b g n rt bd gd bt f _ d HS HM (fun w => marked_is k' o' r' b' g' n' bd gd bt d f hb' hbd hgd h w) w
    · rw [if_neg c2] at h
      simp only [Prod.mk.injEq] at h
      obtain ⟨rfl, rfl⟩ := h
      exact derive_mask k o r b g n rt bd gd bt _ _ (by simpa using c2) HS HM w
  · rw [if_neg c1] at h
    simp only [Prod.mk.injEq] at h
    obtain ⟨rfl, rfl⟩ := h
    exact derive_src k o r b g n rt bd gd bt _ (by simpa using c1) (fun w => source_is k o r b g n _ hb hg rfl w) w
end Go.Proofs.Ytkpcdfiebjigbaa
