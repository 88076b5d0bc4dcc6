/-
  THE CONTRACTS of package cap's marked and Derive.
-/
import Derived.Test.YtdnoidnpiaadaaaGreatDrv1
import Derived.Deep.Cut
namespace Go.Proofs.YtdnoidnpiaadaaaGreat
set_option maxRecDepth 10000
open Go.RowKit

theorem boxes3 (w : World) (c d e : C) (W : World) (hW : ((w.alloc (.cells #[.int .i64 c.k, .int .i64 c.o, .int .i64 c.r, .int .u64 c.b, .int .u64 c.g, .int .i64 c.n] 25)).alloc (.cells #[.int .i64 d.k, .int .i64 d.o, .int .i64 d.r, .int .u64 d.b, .int .u64 d.g, .int .i64 d.n] 25)).alloc (.cells #[.int .i64 e.k, .int .i64 e.o, .int .i64 e.r, .int .u64 e.b, .int .u64 e.g, .int .i64 e.n] 25) = W) :
    Box W w.heap.size c ∧ Box W (w.heap.size + 1) d ∧ Box W (w.heap.size + 1 + 1) e ∧ w.grownBy W none := by
  subst hW
  refine ⟨((Box.made w c).kept (gbAlloc _ _ _)).kept (gbAlloc _ _ _), ?_, ?_, gbAllocN (gbAllocN (gbAlloc _ _ _) _) _⟩
  · have h := Box.made (w.alloc (.cells #[.int .i64 c.k, .int .i64 c.o, .int .i64 c.r, .int .u64 c.b, .int .u64 c.g, .int .i64 c.n] 25)) d
    rw [show (w.alloc (.cells #[.int .i64 c.k, .int .i64 c.o, .int .i64 c.r, .int .u64 c.b, .int .u64 c.g, .int .i64 c.n] 25)).heap.size = w.heap.size + 1 by simp] at h
    exact h.kept (gbAlloc _ _ _)
  · have h := Box.made ((w.alloc (.cells #[.int .i64 c.k, .int .i64 c.o, .int .i64 c.r, .int .u64 c.b, .int .u64 c.g, .int .i64 c.n] 25)).alloc (.cells #[.int .i64 d.k, .int .i64 d.o, .int .i64 d.r, .int .u64 d.b, .int .u64 d.g, .int .i64 d.n] 25)) e
    rw [show ((w.alloc (.cells #[.int .i64 c.k, .int .i64 c.o, .int .i64 c.r, .int .u64 c.b, .int .u64 c.g, .int .i64 c.n] 25)).alloc (.cells #[.int .i64 d.k, .int .i64 d.o, .int .i64 d.r, .int .u64 d.b, .int .u64 d.g, .int .i64 d.n] 25)).heap.size = w.heap.size + 1 + 1 by simp] at h
    exact h

/-- A block that is written over. -/
theorem Box.set1 {w : World} {x : Nat} {c : C} (h : Box w x c) (v : Int) : Box (w.setCell ⟨x, 3, none⟩ (.int .u64 v)) x ⟨c.k, c.o, c.r, v, c.g, c.n⟩ ∧ w.grownBy (w.setCell ⟨x, 3, none⟩ (.int .u64 v)) (some x) := by
  obtain ⟨a0, a1, a2, a3, a4, a5, lt, fr⟩ := h
  refine ⟨⟨?_, ?_, ?_, ?_, ?_, ?_, ?_, ?_⟩, gbSetCell _ _ _ _⟩
  · exact (World.cell?_setCell_other _ _ _ _ (by simp)).trans a0
  · exact (World.cell?_setCell_other _ _ _ _ (by simp)).trans a1
  · exact (World.cell?_setCell_other _ _ _ _ (by simp)).trans a2
  · exact World.cell?_setCell_same _ _ _ a3
  · exact (World.cell?_setCell_other _ _ _ _ (by simp)).trans a4
  · exact (World.cell?_setCell_other _ _ _ _ (by simp)).trans a5
  · simpa [World.setCell] using lt
  · intro i; simpa using fr i

set_option maxHeartbeats 1000000 in
theorem marked_zno (k o r b g n bd gd bt k' o' r' g' n' : Int) (v : Int) (hv : (v != 0) = true)
    (HO : ∀ w, Calls Tryz.prog 121 #[cv ⟨k, o, r, bd, gd, bt⟩] w fun e w' => e = .returned (cv ⟨k', o', r', 0, g', n'⟩) ∧ w.grownBy w' none)
    (HC : ∀ w, Calls Tryz.prog 89 #[cv ⟨k', o', r', b, g', n'⟩] w fun e w' => e = .returned (.int .i64 v) ∧ w.grownBy w' none)
    (w : World) :
    Calls Tryz.prog 114 #[cv ⟨k, o, r, b, g, n⟩, .int .u64 bd, .int .u64 gd, .int .i64 bt] w fun e w' => e = .returned (.tuple #[cv C.zero, .int .i64 v]) ∧ w.grownBy w' none := by
  go_enter Tryz.func114, Tryz.ntmps114
  go_wp2_with fail
  refine (HO _).mono ?_
  rintro e w1 ⟨rfl, g1⟩
  obtain ⟨X4, X8, X10, gW⟩ := boxes3 w ⟨k, o, r, b, g, n⟩ C.zero ⟨k, o, r, bd, gd, bt⟩ _ rfl
  have Y4 := X4.kept g1
  have Y8 := X8.kept g1
  have Y10 := X10.kept g1
  have G1 := gbTrans gW g1
  clear X4 X8 X10 gW g1
  obtain ⟨d0, d1, d2, d3, d4, d5, dl, df⟩ := id Y10
  go_upto_region 4 with fail
  clear d0 d1 d2 d3 d4 d5 dl df
  obtain ⟨W2, hW2, Z10, h2⟩ := Y10.put ⟨k', o', r', 0, g', n'⟩
  simp only at hW2
  rw [hW2]
  clear hW2
  have Z4 := Y4.keep h2 (by simp; omega)
  have Z8 := Y8.keep h2 (by simp)
  have G2 := gbNew (gbTrans (gbAny G1 _) h2) (by omega)
  clear Y4 Y8 Y10 G1 h2
  obtain ⟨a0, a1, a2, a3, a4, a5, _, _⟩ := Z4
  obtain ⟨d0, d1, d2, d3, d4, d5, dl, df⟩ := id Z10
  go_wp2_with fail
  refine (HC _).mono ?_
  rintro e w3 ⟨rfl, g3⟩
  clear a0 a1 a2 a3 a4 a5 d0 d1 d2 d3 d4 d5 dl df
  obtain ⟨Z10', h3⟩ := Z10.set1 b
  have V10 := Z10'.kept g3
  have V8 := (Z8.keep h3 (by simp)).kept g3
  have G3 := gbTrans (gbNew (gbTrans (gbAny G2 _) h3) (by omega)) g3
  clear Z10 Z10' Z8 h3 G2 g3
  obtain ⟨a0, a1, a2, a3, a4, a5, lt, fr⟩ := V8
  clear V10
  go_wp2
  exact bodyPost_ret (v := .tuple #[cv C.zero, .int .i64 v]) (by simp [results, Tryz.results114, go_sem, a0, a1, a2, a3, a4, a5]) rfl ⟨rfl, by repeat (first | with_reducible exact G3 | refine gbSetNew ?_ _ _ _ (by omega))⟩

set_option maxHeartbeats 1000000 in
theorem marked_zyes (k o r b g n bd gd bt k' o' r' g' n' : Int)
    (HO : ∀ w, Calls Tryz.prog 121 #[cv ⟨k, o, r, bd, gd, bt⟩] w fun e w' => e = .returned (cv ⟨k', o', r', 0, g', n'⟩) ∧ w.grownBy w' none)
    (HC : ∀ w, Calls Tryz.prog 89 #[cv ⟨k', o', r', b, g', n'⟩] w fun e w' => e = .returned (.int .i64 0) ∧ w.grownBy w' none)
    (w : World) :
    Calls Tryz.prog 114 #[cv ⟨k, o, r, b, g, n⟩, .int .u64 bd, .int .u64 gd, .int .i64 bt] w fun e w' => e = .returned (.tuple #[cv ⟨k', o', r', b, g', n'⟩, .int .i64 0]) ∧ w.grownBy w' none := by
  go_enter Tryz.func114, Tryz.ntmps114
  go_wp2_with fail
  refine (HO _).mono ?_
  rintro e w1 ⟨rfl, g1⟩
  obtain ⟨X4, X8, X10, gW⟩ := boxes3 w ⟨k, o, r, b, g, n⟩ C.zero ⟨k, o, r, bd, gd, bt⟩ _ rfl
  have Y4 := X4.kept g1
  have Y8 := X8.kept g1
  have Y10 := X10.kept g1
  have G1 := gbTrans gW g1
  clear X4 X8 X10 gW g1
  obtain ⟨d0, d1, d2, d3, d4, d5, dl, df⟩ := id Y10
  go_upto_region 4 with fail
  clear d0 d1 d2 d3 d4 d5 dl df
  obtain ⟨W2, hW2, Z10, h2⟩ := Y10.put ⟨k', o', r', 0, g', n'⟩
  simp only at hW2
  rw [hW2]
  clear hW2
  have Z4 := Y4.keep h2 (by simp; omega)
  have Z8 := Y8.keep h2 (by simp)
  have G2 := gbNew (gbTrans (gbAny G1 _) h2) (by omega)
  clear Y4 Y8 Y10 G1 h2
  obtain ⟨a0, a1, a2, a3, a4, a5, _, _⟩ := Z4
  obtain ⟨d0, d1, d2, d3, d4, d5, dl, df⟩ := id Z10
  go_wp2_with fail
  refine (HC _).mono ?_
  rintro e w3 ⟨rfl, g3⟩
  clear a0 a1 a2 a3 a4 a5 d0 d1 d2 d3 d4 d5 dl df
  obtain ⟨Z10', h3⟩ := Z10.set1 b
  have V10 := Z10'.kept g3
  have V8 := (Z8.keep h3 (by simp)).kept g3
  have G3 := gbTrans (gbNew (gbTrans (gbAny G2 _) h3) (by omega)) g3
  clear Z10 Z10' Z8 h3 G2 g3
  obtain ⟨a0, a1, a2, a3, a4, a5, lt, fr⟩ := V8
  obtain ⟨z0, z1, z2, z3, z4, z5, zt, zf⟩ := V10
  simp only at z0 z1 z2 z3 z4 z5
  go_wp2
  exact bodyPost_ret (v := .tuple #[cv ⟨k', o', r', b, g', n'⟩, .int .i64 0]) (by simp [results, Tryz.results114, go_sem, a0, a1, a2, a3, a4, a5]) rfl ⟨rfl, by repeat (first | with_reducible exact G3 | refine gbSetNew ?_ _ _ _ (by omega))⟩

set_option maxHeartbeats 1000000 in
theorem marked_nno (k o r g n bd gd bt k' o' r' b' g' n' : Int) (v : Int) (h1 : (b' == 0) = false) (hv : (v != 0) = true)
    (HO : ∀ w, Calls Tryz.prog 121 #[cv ⟨k, o, r, bd, gd, bt⟩] w fun e w' => e = .returned (cv ⟨k', o', r', b', g', n'⟩) ∧ w.grownBy w' none)
    (HC : ∀ w, Calls Tryz.prog 89 #[cv ⟨k', o', r', b', g', n'⟩] w fun e w' => e = .returned (.int .i64 v) ∧ w.grownBy w' none)
    (w : World) :
    Calls Tryz.prog 114 #[cv ⟨k, o, r, 0, g, n⟩, .int .u64 bd, .int .u64 gd, .int .i64 bt] w fun e w' => e = .returned (.tuple #[cv C.zero, .int .i64 v]) ∧ w.grownBy w' none := by
  go_enter Tryz.func114, Tryz.ntmps114
  go_wp2_with fail
  refine (HO _).mono ?_
  rintro e w1 ⟨rfl, g1⟩
  obtain ⟨X4, X8, X10, gW⟩ := boxes3 w ⟨k, o, r, 0, g, n⟩ C.zero ⟨k, o, r, bd, gd, bt⟩ _ rfl
  have Y4 := X4.kept g1
  have Y8 := X8.kept g1
  have Y10 := X10.kept g1
  have G1 := gbTrans gW g1
  clear X4 X8 X10 gW g1
  obtain ⟨d0, d1, d2, d3, d4, d5, dl, df⟩ := id Y10
  go_upto_region 4 with fail
  clear d0 d1 d2 d3 d4 d5 dl df
  obtain ⟨W2, hW2, Z10, h2⟩ := Y10.put ⟨k', o', r', b', g', n'⟩
  simp only at hW2
  rw [hW2]
  clear hW2
  have Z4 := Y4.keep h2 (by simp; omega)
  have Z8 := Y8.keep h2 (by simp)
  have G2 := gbNew (gbTrans (gbAny G1 _) h2) (by omega)
  clear Y4 Y8 Y10 G1 h2
  obtain ⟨a0, a1, a2, a3, a4, a5, _, _⟩ := Z4
  obtain ⟨d0, d1, d2, d3, d4, d5, dl, df⟩ := id Z10
  go_wp2_with fail
  refine (HC _).mono ?_
  rintro e w3 ⟨rfl, g3⟩
  clear a0 a1 a2 a3 a4 a5 d0 d1 d2 d3 d4 d5 dl df
  have V10 := Z10.kept g3
  have V8 := Z8.kept g3
  have G3 := gbTrans G2 g3
  clear Z10 Z8 G2 g3
  obtain ⟨a0, a1, a2, a3, a4, a5, lt, fr⟩ := V8
  clear V10
  go_wp2
  exact bodyPost_ret (v := .tuple #[cv C.zero, .int .i64 v]) (by simp [results, Tryz.results114, go_sem, a0, a1, a2, a3, a4, a5]) rfl ⟨rfl, by repeat (first | with_reducible exact G3 | refine gbSetNew ?_ _ _ _ (by omega))⟩

set_option maxHeartbeats 1000000 in
theorem marked_nyes (k o r g n bd gd bt k' o' r' b' g' n' : Int) (h1 : (b' == 0) = false)
    (HO : ∀ w, Calls Tryz.prog 121 #[cv ⟨k, o, r, bd, gd, bt⟩] w fun e w' => e = .returned (cv ⟨k', o', r', b', g', n'⟩) ∧ w.grownBy w' none)
    (HC : ∀ w, Calls Tryz.prog 89 #[cv ⟨k', o', r', b', g', n'⟩] w fun e w' => e = .returned (.int .i64 0) ∧ w.grownBy w' none)
    (w : World) :
    Calls Tryz.prog 114 #[cv ⟨k, o, r, 0, g, n⟩, .int .u64 bd, .int .u64 gd, .int .i64 bt] w fun e w' => e = .returned (.tuple #[cv ⟨k', o', r', b', g', n'⟩, .int .i64 0]) ∧ w.grownBy w' none := by
  go_enter Tryz.func114, Tryz.ntmps114
  go_wp2_with fail
  refine (HO _).mono ?_
  rintro e w1 ⟨rfl, g1⟩
  obtain ⟨X4, X8, X10, gW⟩ := boxes3 w ⟨k, o, r, 0, g, n⟩ C.zero ⟨k, o, r, bd, gd, bt⟩ _ rfl
  have Y4 := X4.kept g1
  have Y8 := X8.kept g1
  have Y10 := X10.kept g1
  have G1 := gbTrans gW g1
  clear X4 X8 X10 gW g1
  obtain ⟨d0, d1, d2, d3, d4, d5, dl, df⟩ := id Y10
  go_upto_region 4 with fail
  clear d0 d1 d2 d3 d4 d5 dl df
  obtain ⟨W2, hW2, Z10, h2⟩ := Y10.put ⟨k', o', r', b', g', n'⟩
  simp only at hW2
  rw [hW2]
  clear hW2
  have Z4 := Y4.keep h2 (by simp; omega)
  have Z8 := Y8.keep h2 (by simp)
  have G2 := gbNew (gbTrans (gbAny G1 _) h2) (by omega)
  clear Y4 Y8 Y10 G1 h2
  obtain ⟨a0, a1, a2, a3, a4, a5, _, _⟩ := Z4
  obtain ⟨d0, d1, d2, d3, d4, d5, dl, df⟩ := id Z10
  go_wp2_with fail
  refine (HC _).mono ?_
  rintro e w3 ⟨rfl, g3⟩
  clear a0 a1 a2 a3 a4 a5 d0 d1 d2 d3 d4 d5 dl df
  have V10 := Z10.kept g3
  have V8 := Z8.kept g3
  have G3 := gbTrans G2 g3
  clear Z10 Z8 G2 g3
  obtain ⟨a0, a1, a2, a3, a4, a5, lt, fr⟩ := V8
  obtain ⟨z0, z1, z2, z3, z4, z5, zt, zf⟩ := V10
  simp only at z0 z1 z2 z3 z4 z5
  go_wp2
  exact bodyPost_ret (v := .tuple #[cv ⟨k', o', r', b', g', n'⟩, .int .i64 0]) (by simp [results, Tryz.results114, go_sem, a0, a1, a2, a3, a4, a5]) rfl ⟨rfl, by repeat (first | with_reducible exact G3 | refine gbSetNew ?_ _ _ _ (by omega))⟩

set_option maxHeartbeats 1000000 in
theorem marked_state (k o r b g n bd gd bt k' o' r' b' g' n' : Int) (h1 : (b' == 0) = false) (h2 : (b != 0) = true)
    (HO : ∀ w, Calls Tryz.prog 121 #[cv ⟨k, o, r, bd, gd, bt⟩] w fun e w' => e = .returned (cv ⟨k', o', r', b', g', n'⟩) ∧ w.grownBy w' none)
    (w : World) :
    Calls Tryz.prog 114 #[cv ⟨k, o, r, b, g, n⟩, .int .u64 bd, .int .u64 gd, .int .i64 bt] w fun e w' => e = .returned (.tuple #[cv C.zero, .int .i64 8]) ∧ w.grownBy w' none := by
  go_enter Tryz.func114, Tryz.ntmps114
  go_wp2_with fail
  refine (HO _).mono ?_
  rintro e w1 ⟨rfl, g1⟩
  obtain ⟨X4, X8, X10, gW⟩ := boxes3 w ⟨k, o, r, b, g, n⟩ C.zero ⟨k, o, r, bd, gd, bt⟩ _ rfl
  have Y4 := X4.kept g1
  have Y8 := X8.kept g1
  have Y10 := X10.kept g1
  have G1 := gbTrans gW g1
  clear X4 X8 X10 gW g1
  obtain ⟨d0, d1, d2, d3, d4, d5, dl, df⟩ := id Y10
  go_upto_region 4 with fail
  clear d0 d1 d2 d3 d4 d5 dl df
  obtain ⟨W2, hW2, Z10, h9⟩ := Y10.put ⟨k', o', r', b', g', n'⟩
  simp only at hW2
  rw [hW2]
  clear hW2
  have Z4 := Y4.keep h9 (by simp; omega)
  have Z8 := Y8.keep h9 (by simp)
  have G2 := gbNew (gbTrans (gbAny G1 _) h9) (by omega)
  clear Y4 Y8 Y10 G1 h9
  obtain ⟨c0, c1, c2, c3, c4, c5, _, _⟩ := Z4
  obtain ⟨d0, d1, d2, d3, d4, d5, dl, df⟩ := Z10
  obtain ⟨a0, a1, a2, a3, a4, a5, lt, fr⟩ := Z8
  go_wp2
  exact bodyPost_ret (v := .tuple #[cv C.zero, .int .i64 8]) (by simp [results, Tryz.results114, go_sem, a0, a1, a2, a3, a4, a5]) rfl ⟨rfl, by repeat (first | with_reducible exact G2 | refine gbSetNew ?_ _ _ _ (by omega))⟩
end Go.Proofs.YtdnoidnpiaadaaaGreat

/-
  THE CONTRACT of package cap's Derive.
-/
namespace Go.Proofs.YtdnoidnpiaadaaaGreat
set_option maxRecDepth 10000
open Go.RowKit

theorem M.own_nonneg {c : C} (hb : 0 ≤ c.b) (hg : 0 ≤ c.g) : 0 ≤ (M.own c).b ∧ 0 ≤ (M.own c).g := by
  unfold M.own
  constructor
  · show 0 ≤ (if M.bgd c.k then c.b else 0)
    split <;> omega
  · show 0 ≤ (if c.k == 2 then c.g else 0)
    split <;> omega

theorem marked_is (k o r b g n bd gd bt : Int) (d : C) (f : Int) (hb : 0 ≤ b) (hbd : 0 ≤ bd) (hgd : 0 ≤ gd) (h : M.mrk ⟨k, o, r, b, g, n⟩ bd gd bt = (d, f)) (w : World) :
    Calls Tryz.prog 114 #[cv ⟨k, o, r, b, g, n⟩, .int .u64 bd, .int .u64 gd, .int .i64 bt] w fun e w' => e = .returned (.tuple #[cv d, .int .i64 f]) ∧ w.grownBy w' none := by
  have HO := fun w => own_any k o r bd gd bt w
  have hn := M.own_nonneg (c := ⟨k, o, r, bd, gd, bt⟩) hbd hgd
  unfold M.mrk M.lay at h
  simp only at h
  generalize M.own ⟨k, o, r, bd, gd, bt⟩ = q at HO hn h
  obtain ⟨k', o', r', b', g', n'⟩ := q
  obtain ⟨n1, n2⟩ := hn
  simp only at n1 n2 h
  by_cases c1 : b' = 0
  · subst c1
    rw [if_neg (by simp)] at h
    unfold M.lat at h
    rw [if_pos rfl] at h
    simp only at h
    have HC := fun w => check_any k' o' r' b g' n' hb n2 w
    by_cases c2 : M.chk ⟨k', o', r', b, g', n'⟩ = 0
    · rw [if_pos c2] at h
      rw [c2] at HC
      simp only [Prod.mk.injEq] at h
      obtain ⟨rfl, rfl⟩ := h
      exact marked_zyes k o r b g n bd gd bt k' o' r' g' n' HO HC w
    · rw [if_neg c2] at h
      simp only [Prod.mk.injEq] at h
      obtain ⟨rfl, rfl⟩ := h
      exact marked_zno k o r b g n bd gd bt k' o' r' g' n' _ (by simpa using c2) HO HC w
  · have e1 : (b' == 0) = false := by simpa using c1
    by_cases c3 : b = 0
    · subst c3
      rw [if_neg (by simp)] at h
      unfold M.lat at h
      rw [if_neg c1] at h
      have HC := fun w => check_any k' o' r' b' g' n' n1 n2 w
      by_cases c2 : M.chk ⟨k', o', r', b', g', n'⟩ = 0
      · rw [if_pos c2] at h
        rw [c2] at HC
        simp only [Prod.mk.injEq] at h
        obtain ⟨rfl, rfl⟩ := h
        exact marked_nyes k o r g n bd gd bt k' o' r' b' g' n' e1 HO HC w
      · rw [if_neg c2] at h
        simp only [Prod.mk.injEq] at h
        obtain ⟨rfl, rfl⟩ := h
        exact marked_nno k o r g n bd gd bt k' o' r' b' g' n' _ e1 (by simpa using c2) HO HC w
    · rw [if_pos ⟨c1, c3⟩] at h
      simp only [Prod.mk.injEq] at h
      obtain ⟨rfl, rfl⟩ := h
      exact marked_state k o r b g n bd gd bt k' o' r' b' g' n' e1 (by simpa using c3) HO w

theorem boxes2 (w : World) (c d : C) (W : World) (hW : (w.alloc (.cells #[.int .i64 c.k, .int .i64 c.o, .int .i64 c.r, .int .u64 c.b, .int .u64 c.g, .int .i64 c.n] 25)).alloc (.cells #[.int .i64 d.k, .int .i64 d.o, .int .i64 d.r, .int .u64 d.b, .int .u64 d.g, .int .i64 d.n] 25) = W) :
    Box W w.heap.size c ∧ Box W (w.heap.size + 1) d ∧ w.grownBy W none := by
  subst hW
  refine ⟨(Box.made w c).kept (gbAlloc _ _ _), ?_, gbAllocN (gbAlloc _ _ _) _⟩
  have h := Box.made (w.alloc (.cells #[.int .i64 c.k, .int .i64 c.o, .int .i64 c.r, .int .u64 c.b, .int .u64 c.g, .int .i64 c.n] 25)) d
  rw [show (w.alloc (.cells #[.int .i64 c.k, .int .i64 c.o, .int .i64 c.r, .int .u64 c.b, .int .u64 c.g, .int .i64 c.n] 25)).heap.size = w.heap.size + 1 by simp] at h
  exact h

set_option maxHeartbeats 1000000 in
theorem derive_src (k o r b g n rt bd gd bt v : Int) (hv : (v != 0) = true)
    (HS : ∀ w, Calls Tryz.prog 112 #[cv ⟨k, o, r, b, g, n⟩] w fun e w' => e = .returned (.int .i64 v) ∧ w.grownBy w' none) (w : World) :
    Calls Tryz.prog 85 #[cv ⟨k, o, r, b, g, n⟩, .int .i64 rt, .int .u64 bd, .int .u64 gd, .int .i64 bt] w fun e w' => e = .returned (.tuple #[cv C.zero, .int .i64 v]) ∧ w.grownBy w' none := by
  obtain ⟨X5, X10, gW⟩ := boxes2 w ⟨k, o, r, b, g, n⟩ C.zero _ rfl
  go_enter Tryz.func85, Tryz.ntmps85
  go_wp2_with fail
  refine (HS _).mono ?_
  rintro e w1 ⟨rfl, g1⟩
  obtain ⟨a0, a1, a2, a3, a4, a5, lt, fr⟩ := X10.kept g1
  have G1 := gbTrans gW g1
  clear X5 X10 gW g1
  go_wp2
  exact bodyPost_ret (v := .tuple #[cv C.zero, .int .i64 v]) (by simp [results, Tryz.results85, go_sem, a0, a1, a2, a3, a4, a5]) rfl ⟨rfl, by repeat (first | with_reducible exact G1 | refine gbSetNew ?_ _ _ _ (by omega))⟩

set_option maxHeartbeats 1000000 in
theorem derive_mask (k o r b g n rt bd gd bt v : Int) (d : C) (hv : (v != 0) = true)
    (HS : ∀ w, Calls Tryz.prog 112 #[cv ⟨k, o, r, b, g, n⟩] w fun e w' => e = .returned (.int .i64 0) ∧ w.grownBy w' none)
    (HM : ∀ w, Calls Tryz.prog 113 #[cv ⟨k, o, r, b, g, n⟩, .int .i64 rt] w fun e w' => e = .returned (.tuple #[cv d, .int .i64 v]) ∧ w.grownBy w' none) (w : World) :
    Calls Tryz.prog 85 #[cv ⟨k, o, r, b, g, n⟩, .int .i64 rt, .int .u64 bd, .int .u64 gd, .int .i64 bt] w fun e w' => e = .returned (.tuple #[cv C.zero, .int .i64 v]) ∧ w.grownBy w' none := by
  obtain ⟨k', o', r', b', g', n'⟩ := d
  obtain ⟨X5, X10, gW⟩ := boxes2 w ⟨k, o, r, b, g, n⟩ C.zero _ rfl
  go_enter Tryz.func85, Tryz.ntmps85
  go_wp2_with fail
  refine (HS _).mono ?_
  rintro e w1 ⟨rfl, g1⟩
  obtain ⟨a0, a1, a2, a3, a4, a5, _, _⟩ := X5.kept g1
  have Y10 := X10.kept g1
  have G1 := gbTrans gW g1
  clear X5 X10 gW g1
  go_wp2_with fail
  refine (HM _).mono ?_
  rintro e w2 ⟨rfl, g2⟩
  clear a0 a1 a2 a3 a4 a5
  have Z10 := Y10.kept g2
  have G2 := gbTrans G1 g2
  clear Y10 G1 g2
  go_upto_region 5 with fail
  obtain ⟨W3, hW3, _, h3⟩ := boxNew w2 ⟨k', o', r', b', g', n'⟩
  simp only at hW3
  rw [hW3]
  clear hW3
  obtain ⟨a0, a1, a2, a3, a4, a5, lt, fr⟩ := Z10.kept h3
  have G3 := gbTrans G2 h3
  clear Z10 G2 h3
  go_wp2
  exact bodyPost_ret (v := .tuple #[cv C.zero, .int .i64 v]) (by simp [results, Tryz.results85, go_sem, a0, a1, a2, a3, a4, a5]) rfl ⟨rfl, by repeat (first | with_reducible exact G3 | refine gbSetNew ?_ _ _ _ (by omega))⟩

set_option maxHeartbeats 1000000 in
theorem derive_yes (k o r b g n rt bd gd bt v : Int) (d q : C)
    (HS : ∀ w, Calls Tryz.prog 112 #[cv ⟨k, o, r, b, g, n⟩] w fun e w' => e = .returned (.int .i64 0) ∧ w.grownBy w' none)
    (HM : ∀ w, Calls Tryz.prog 113 #[cv ⟨k, o, r, b, g, n⟩, .int .i64 rt] w fun e w' => e = .returned (.tuple #[cv d, .int .i64 0]) ∧ w.grownBy w' none)
    (HK : ∀ w, Calls Tryz.prog 114 #[cv d, .int .u64 bd, .int .u64 gd, .int .i64 bt] w fun e w' => e = .returned (.tuple #[cv q, .int .i64 v]) ∧ w.grownBy w' none) (w : World) :
    Calls Tryz.prog 85 #[cv ⟨k, o, r, b, g, n⟩, .int .i64 rt, .int .u64 bd, .int .u64 gd, .int .i64 bt] w fun e w' => e = .returned (.tuple #[cv q, .int .i64 v]) ∧ w.grownBy w' none := by
  obtain ⟨k', o', r', b', g', n'⟩ := d
  obtain ⟨q0, q1, q2, q3, q4, q5⟩ := q
  obtain ⟨X5, X10, gW⟩ := boxes2 w ⟨k, o, r, b, g, n⟩ C.zero _ rfl
  go_enter Tryz.func85, Tryz.ntmps85
  go_wp2_with fail
  refine (HS _).mono ?_
  rintro e w1 ⟨rfl, g1⟩
  obtain ⟨a0, a1, a2, a3, a4, a5, _, _⟩ := X5.kept g1
  have Y10 := X10.kept g1
  have G1 := gbTrans gW g1
  clear X5 X10 gW g1
  go_wp2_with fail
  refine (HM _).mono ?_
  rintro e w2 ⟨rfl, g2⟩
  clear a0 a1 a2 a3 a4 a5
  have Z10 := Y10.kept g2
  have G2 := gbTrans G1 g2
  clear Y10 G1 g2
  go_wp2_with fail
  refine (HK _).mono ?_
  rintro e w3 ⟨rfl, g3⟩
  obtain ⟨a0, a1, a2, a3, a4, a5, lt, fr⟩ := (Z10.kept (gbAlloc _ _ none)).kept g3
  have G3 := gbTrans (gbAllocN G2 _) g3
  clear Z10 G2 g3
  go_wp2
  exact bodyPost_ret (v := .tuple #[cv ⟨q0, q1, q2, q3, q4, q5⟩, .int .i64 v]) (by simp [results, Tryz.results85, go_sem, a0, a1, a2, a3, a4, a5]) rfl ⟨rfl, by repeat (first | with_reducible exact G3 | refine gbSetNew ?_ _ _ _ (by omega))⟩

/-- Derive, step by step. -/
theorem derive_step (k o r b g n rt bd gd bt : Int) (d : C) (f : Int) (hb : 0 ≤ b) (hg : 0 ≤ g) (hbd : 0 ≤ bd) (hgd : 0 ≤ gd) (h : M.drp ⟨k, o, r, b, g, n⟩ rt bd gd bt = (d, f)) (w : World) :
    Calls Tryz.prog 85 #[cv ⟨k, o, r, b, g, n⟩, .int .i64 rt, .int .u64 bd, .int .u64 gd, .int .i64 bt] w fun e w' => e = .returned (.tuple #[cv d, .int .i64 f]) ∧ w.grownBy w' none := by
  unfold M.drp at h
  by_cases c1 : M.src ⟨k, o, r, b, g, n⟩ = 0
  · rw [if_pos c1] at h
    have HS := fun w => source_is k o r b g n 0 hb hg c1 w
    obtain ⟨⟨⟨k', o', r', b', g', n'⟩, f'⟩, hm⟩ : ∃ p, M.msd ⟨k, o, r, b, g, n⟩ rt = p := ⟨_, rfl⟩
    have HM := fun w => masked_is k o r b g n rt ⟨k', o', r', b', g', n'⟩ f' hm w
    rw [hm] at h
    simp only at h
    by_cases c2 : f' = 0
    · subst c2
      rw [if_pos rfl] at h
      have hb' : 0 ≤ b' := by
        unfold M.msd at hm
        cases x : M.ck rt
        · rw [x, if_neg (by simp)] at hm; simp at hm
        · rw [x, if_pos rfl] at hm; simp only [Prod.mk.injEq, C.mk.injEq] at hm; omega
      exact derive_yes k o r b g n rt bd gd bt f _ d HS HM (fun w => marked_is k' o' r' b' g' n' bd gd bt d f hb' hbd hgd h w) w
    · rw [if_neg c2] at h
      simp only [Prod.mk.injEq] at h
      obtain ⟨rfl, rfl⟩ := h
      exact derive_mask k o r b g n rt bd gd bt _ _ (by simpa using c2) HS HM w
  · rw [if_neg c1] at h
    simp only [Prod.mk.injEq] at h
    obtain ⟨rfl, rfl⟩ := h
    exact derive_src k o r b g n rt bd gd bt _ (by simpa using c1) (fun w => source_is k o r b g n _ hb hg rfl w) w
end Go.Proofs.YtdnoidnpiaadaaaGreat

/-
  THE CONTRACT of package cap's Weaker.
-/
namespace Go.Proofs.YtdnoidnpiaadaaaGreat
set_option maxRecDepth 10000
open Go.RowKit

end Go.Proofs.YtdnoidnpiaadaaaGreat

/-
  WHAT FOLLOWS (5.3), and the chapter's order of Derive's errors: no Go function in sight.
-/
namespace Go.Proofs.YtdnoidnpiaadaaaGreat
set_option maxRecDepth 10000
namespace M

/-- A right one, field by field. -/
theorem chk_iff {c : C} : chk c = 0 ↔ knd c.k = true ∧ bnd c = true ∧ fit c = true := by
  unfold chk
  cases knd c.k <;> cases bnd c <;> cases fit c <;> simp

theorem src_ok {c : C} (h : src c = 0) : chk c = 0 ∧ c.k ≠ 0 ∧ c.k ≠ 1 ∧ c.k ≠ 10 ∧ c.k ≠ 11 := by
  unfold src at h
  by_cases h0 : chk c = 0
  · rw [if_pos h0] at h
    by_cases h1 : c.k = 0
    · rw [if_pos h1] at h; simp at h
    · rw [if_neg h1] at h
      by_cases h2 : c.k = 1 ∨ c.k = 10 ∨ c.k = 11
      · rw [if_pos h2] at h; simp at h
      · exact ⟨h0, h1, by omega, by omega, by omega⟩
  · rw [if_neg h0] at h; exact absurd h h0

theorem msk_ck (a b : Int) : ck (msk a b) = true := by
  unfold msk
  by_cases h : (ck a && ck b) = true
  · rw [if_pos h]
    rw [Bool.and_eq_true] at h
    obtain ⟨A, rfl, hA⟩ := ck_nat h.1
    obtain ⟨B, rfl, hB⟩ := ck_nat h.2
    refine nat_ck ?_
    simp only [Int.toNat_natCast]
    exact Nat.lt_of_le_of_lt Nat.and_le_left hA
  · rw [if_neg h]; rfl
theorem msk_zero (b : Int) : msk 0 b = 0 := by
  unfold msk
  cases h : ck b
  · simp
  · simp

theorem blw0 (n : Int) : blw 0 n = true := by
  unfold blw
  have e : ((2 : Int) ^ n.toNat) = ((2 ^ n.toNat : Nat) : Int) := by simp
  have := Nat.two_pow_pos n.toNat
  rw [e, decide_eq_true_eq]
  omega

theorem bnd_iff {k o r b g n : Int} : bnd ⟨k, o, r, b, g, n⟩ = true ↔ 0 ≤ o ∧ o ≤ 63 ∧ ck r = true ∧ blw b 28 = true ∧ grd g n = true := by
  simp [bnd, and_assoc]
theorem grd0 : grd 0 0 = true := rfl

/-- What is marked, kind by kind. -/
theorem mrk_plain (k o r r' b g n bd gd bt : Int) (hk : k = 3 ∨ k = 6 ∨ k = 7 ∨ k = 8 ∨ k = 9) (hg : 0 ≤ g) (h : chk ⟨k, o, r, b, g, n⟩ = 0) (hr : ck r' = true) (hr0 : rgd k = false → r' = 0) :
    mrk ⟨k, o, r', b, g, n⟩ bd gd bt = (⟨k, o, r', b, g, n⟩, 0) := by
  obtain ⟨h1, h2, h3⟩ := chk_iff.1 h
  obtain ⟨o0, o1, hr1, hb, hgn⟩ := bnd_iff.1 h2
  have hx : b = 0 ∧ n = 0 := by
    rcases hk with rfl | rfl | rfl | rfl | rfl <;> simp [fit, bgd] at h3 <;> exact ⟨h3.1.2, h3.2⟩
  obtain ⟨rfl, rfl⟩ := hx
  have hg0 : g = 0 := by simp [grd, blw] at hgn; omega
  subst hg0
  have hl : lay ⟨k, o, r', 0, 0, 0⟩ bd gd bt = ⟨k, o, r', 0, 0, 0⟩ := by
    rcases hk with rfl | rfl | rfl | rfl | rfl
    · rw [hr0 rfl]; rfl
    · rfl
    · rw [hr0 rfl]; rfl
    · rw [hr0 rfl]; rfl
    · rw [hr0 rfl]; rfl
  have hc : chk ⟨k, o, r', 0, 0, 0⟩ = 0 := by
    refine chk_iff.2 ⟨h1, bnd_iff.2 ⟨o0, o1, hr, rfl, rfl⟩, ?_⟩
    rcases hk with rfl | rfl | rfl | rfl | rfl
    · rw [hr0 rfl]; simp [fit, nul]
    · simp [fit, nul, rgd]
    · rw [hr0 rfl]; simp [fit, nul]
    · rw [hr0 rfl]; simp [fit, nul]
    · rw [hr0 rfl]; simp [fit, nul]
  have hlat : lat ⟨k, o, r', 0, 0, 0⟩ ⟨k, o, r', 0, 0, 0⟩ = ⟨k, o, r', 0, 0, 0⟩ := rfl
  unfold mrk
  rw [hl, hlat, hc]
  simp

theorem mrk_node (o r b g n bd gd bt : Int) (h : chk ⟨2, o, r, b, g, n⟩ = 0) :
    mrk ⟨2, o, 0, b, g, n⟩ bd gd bt = if grd gd bt then (⟨2, o, 0, b, gd, bt⟩, 0) else (C.zero, 10) := by
  obtain ⟨h1, h2, h3⟩ := chk_iff.1 h
  obtain ⟨o0, o1, hr1, hb, hgn⟩ := bnd_iff.1 h2
  have hx : b = 0 := by simp [fit, bgd] at h3; exact h3.2
  subst hx
  have hl : lay ⟨2, o, 0, 0, g, n⟩ bd gd bt = ⟨2, o, 0, 0, gd, bt⟩ := rfl
  have hlat : lat ⟨2, o, 0, 0, g, n⟩ ⟨2, o, 0, 0, gd, bt⟩ = ⟨2, o, 0, 0, gd, bt⟩ := rfl
  have hc : chk ⟨2, o, 0, 0, gd, bt⟩ = if grd gd bt then 0 else 10 := by
    have hf : fit ⟨2, o, 0, 0, gd, bt⟩ = true := by simp [fit, nul]
    have hb2 : bnd ⟨2, o, 0, 0, gd, bt⟩ = grd gd bt := by simp [bnd, o0, o1, blw0, ck]
    unfold chk
    rw [hf, hb2]
    cases grd gd bt <;> rfl
  unfold mrk
  rw [hl, hlat, hc]
  cases grd gd bt <;> simp

theorem mrk_badged (k o r r' b g n bd gd bt : Int) (hk : k = 4 ∨ k = 5) (hg : 0 ≤ g) (h : chk ⟨k, o, r, b, g, n⟩ = 0) (hr : ck r' = true) :
    mrk ⟨k, o, r', b, g, n⟩ bd gd bt = if bd ≠ 0 then (if b ≠ 0 then (C.zero, 8) else if blw bd 28 then (⟨k, o, r', bd, g, n⟩, 0) else (C.zero, 10)) else (⟨k, o, r', b, g, n⟩, 0) := by
  obtain ⟨h1, h2, h3⟩ := chk_iff.1 h
  obtain ⟨o0, o1, hr1, hb, hgn⟩ := bnd_iff.1 h2
  have hx : n = 0 := by rcases hk with rfl | rfl <;> simp [fit, nul, rgd, bgd] at h3 <;> exact h3
  subst hx
  have hg0 : g = 0 := by simp [grd, blw] at hgn; omega
  subst hg0
  have hl : lay ⟨k, o, r', b, 0, 0⟩ bd gd bt = ⟨k, o, r', bd, 0, 0⟩ := by rcases hk with rfl | rfl <;> rfl
  have hc : ∀ x, chk ⟨k, o, r', x, 0, 0⟩ = if blw x 28 then 0 else 10 := by
    intro x
    have hf : fit ⟨k, o, r', x, 0, 0⟩ = true := by rcases hk with rfl | rfl <;> simp [fit, nul, rgd, bgd]
    have hb2 : bnd ⟨k, o, r', x, 0, 0⟩ = blw x 28 := by simp [bnd, o0, o1, hr, grd0]
    have hk2 : knd k = true := h1
    unfold chk
    rw [hf, hb2, hk2]
    cases blw x 28 <;> rfl
  unfold mrk
  rw [hl]
  by_cases e1 : bd = 0
  · subst e1
    have hlat : lat ⟨k, o, r', b, 0, 0⟩ ⟨k, o, r', 0, 0, 0⟩ = ⟨k, o, r', b, 0, 0⟩ := rfl
    rw [hlat, hc, hb]
    simp
  · have hlat : lat ⟨k, o, r', b, 0, 0⟩ ⟨k, o, r', bd, 0, 0⟩ = ⟨k, o, r', bd, 0, 0⟩ := by unfold lat; rw [if_neg e1]
    rw [hlat, hc]
    by_cases e2 : b = 0
    · simp only [e1, e2, ne_eq, not_true_eq_false, not_false_eq_true, and_false, if_false, if_true]
      cases blw bd 28 <;> simp
    · simp [e1, e2]

/-- Step by step, and in the chapter's order: the same. -/
theorem drp_drv (c : C) (rt bd gd bt : Int) (hg : 0 ≤ c.g) : drp c rt bd gd bt = drv c rt bd gd bt := by
  unfold drp drv
  by_cases h0 : src c = 0
  · rw [if_pos h0, if_pos h0]
    obtain ⟨h1, k0, k1, k10, k11⟩ := src_ok h0
    obtain ⟨hk, hbnd, hfit⟩ := chk_iff.1 h1
    unfold msd
    cases hr : ck rt
    · rfl
    · rw [if_pos rfl, if_pos rfl]
      rw [if_pos rfl]
      show mrk ⟨c.k, c.o, msk c.r rt, c.b, c.g, c.n⟩ bd gd bt = _
      obtain ⟨k, o, r, b, g, n⟩ := c
      simp only at hk k0 k1 k10 k11 hg ⊢
      have hm := msk_ck r rt
      have hkk : k = 2 ∨ (k = 4 ∨ k = 5) ∨ (k = 3 ∨ k = 6 ∨ k = 7 ∨ k = 8 ∨ k = 9) := by
        simp only [knd, Bool.and_eq_true, decide_eq_true_eq] at hk; omega
      have hr0 : rgd k = false → r = 0 := by
        intro e; simp [fit, e] at hfit; exact hfit.1.1.2
      rcases hkk with rfl | hk2 | hk2
      · have : r = 0 := hr0 rfl
        subst this
        rw [msk_zero, mrk_node o 0 b g n bd gd bt h1]
        simp [bgd, rgd]
      · rw [mrk_badged k o r _ b g n bd gd bt hk2 hg h1 hm]
        have e1 : bgd k = true := by rcases hk2 with rfl | rfl <;> rfl
        have e2 : rgd k = true := by rcases hk2 with rfl | rfl <;> rfl
        have e3 : ¬ k = 2 := by omega
        simp [e1, e2, e3]
      · rw [mrk_plain k o r _ b g n bd gd bt hk2 hg h1 hm (fun e => by rw [hr0 e, msk_zero])]
        have e1 : bgd k = false := by rcases hk2 with rfl | rfl | rfl | rfl | rfl <;> rfl
        have e3 : ¬ k = 2 := by omega
        rw [if_neg (by simp [e1]), if_neg e3]
        cases e2 : rgd k
        · rw [hr0 e2, msk_zero]; simp
        · simp
  · rw [if_neg h0, if_neg h0]

/-! ### What is derived is weaker -/
theorem wth_msk (a b : Int) (ha : ck a = true) (hb : ck b = true) : wth (msk a b) a = true := by
  obtain ⟨A, rfl, hA⟩ := ck_nat ha
  obtain ⟨B, rfl, hB⟩ := ck_nat hb
  have k : ∀ x : Fin 8, ∀ y : Fin 8, wth (msk (x.val : Int) (y.val : Int)) (x.val : Int) = true := by decide +kernel
  exact k ⟨A, hA⟩ ⟨B, hB⟩
theorem wth_self (a : Int) (ha : ck a = true) : wth a a = true := by
  obtain ⟨A, rfl, hA⟩ := ck_nat ha
  have k : ∀ x : Fin 8, wth (x.val : Int) (x.val : Int) = true := by decide +kernel
  exact k ⟨A, hA⟩
theorem wth_trans (a b c : Int) (h1 : wth a b = true) (h2 : wth b c = true) : wth a c = true := by
  have x1 := h1
  have x2 := h2
  unfold wth at x1 x2
  simp only [Bool.and_eq_true] at x1 x2
  obtain ⟨A, rfl, hA⟩ := ck_nat x1.1.1
  obtain ⟨B, rfl, hB⟩ := ck_nat x1.1.2
  obtain ⟨D, rfl, hD⟩ := ck_nat x2.1.2
  have k : ∀ x : Fin 8, ∀ y : Fin 8, ∀ z : Fin 8, wth (x.val : Int) (y.val : Int) = true → wth (y.val : Int) (z.val : Int) = true → wth (x.val : Int) (z.val : Int) = true := by decide +kernel
  exact k ⟨A, hA⟩ ⟨B, hB⟩ ⟨D, hD⟩ h1 h2

theorem chk_rights {c : C} (h : chk c = 0) : ck c.r = true := by
  obtain ⟨k, o, r, b, g, n⟩ := c
  exact (bnd_iff.1 (chk_iff.1 h).2.1).2.2.1

theorem mrk_right {c d : C} {bd gd bt : Int} (h : mrk c bd gd bt = (d, 0)) : chk d = 0 := by
  unfold mrk at h
  split at h
  · simp at h
  · split at h
    · simp only [Prod.mk.injEq, and_true] at h
      subst h
      assumption
    · rename_i h2
      simp only [Prod.mk.injEq] at h
      exact absurd h.2 h2

theorem drv_right {c d : C} {rt bd gd bt : Int} (hg : 0 ≤ c.g) (h : drv c rt bd gd bt = (d, 0)) : chk d = 0 := by
  rw [← drp_drv c rt bd gd bt hg] at h
  unfold drp at h
  split at h
  · split at h
    · exact mrk_right h
    · rename_i h2; simp only [Prod.mk.injEq] at h; exact absurd h.2 h2
  · rename_i h2; simp only [Prod.mk.injEq] at h; exact absurd h.2 h2

theorem drv_src {c d : C} {rt bd gd bt : Int} (h : drv c rt bd gd bt = (d, 0)) : src c = 0 := by
  unfold drv at h
  split at h
  · assumption
  · rename_i h2; simp only [Prod.mk.injEq] at h; exact absurd h.2 h2

/-- Its fields: kind and object are the same, rights are within, a badge stays. -/
theorem drv_fields {c d : C} {rt bd gd bt : Int} (h : drv c rt bd gd bt = (d, 0)) : d.k = c.k ∧ d.o = c.o ∧ wth d.r c.r = true ∧ (c.b = 0 ∨ c.b = d.b) := by
  have hs := drv_src h
  have hc := chk_rights (src_ok hs).1
  have hw : ck rt = true → wth (if rgd c.k then msk c.r rt else c.r) c.r = true := by
    intro hr
    split
    · exact wth_msk c.r rt hc hr
    · exact wth_self c.r hc
  unfold drv at h
  rw [if_pos hs] at h
  split at h
  · rename_i hr
    have hw := hw hr
    split at h
    · split at h
      · simp at h
      · rename_i hb
        split at h
        · simp only [Prod.mk.injEq, and_true] at h
          subst h
          exact ⟨rfl, rfl, hw, .inl (by omega)⟩
        · simp at h
    · split at h
      · split at h
        · simp only [Prod.mk.injEq, and_true] at h
          subst h
          exact ⟨rfl, rfl, hw, .inr rfl⟩
        · simp at h
      · simp only [Prod.mk.injEq, and_true] at h
        subst h
        exact ⟨rfl, rfl, hw, .inr rfl⟩
  · simp at h

theorem wkr_iff {a b : C} : wkr a b = true ↔ chk a = 0 ∧ chk b = 0 ∧ a.k = b.k ∧ a.o = b.o ∧ wth a.r b.r = true ∧ (b.b = 0 ∨ b.b = a.b) := by
  simp [wkr, and_assoc]

theorem drv_less {c d : C} {rt bd gd bt : Int} (hg : 0 ≤ c.g) (h : drv c rt bd gd bt = (d, 0)) : wkr d c = true := by
  obtain ⟨h1, h2, h3, h4⟩ := drv_fields h
  exact wkr_iff.2 ⟨drv_right hg h, (src_ok (drv_src h)).1, h1, h2, h3, h4⟩

theorem wkr_trans {a b c : C} (h1 : wkr a b = true) (h2 : wkr b c = true) : wkr a c = true := by
  obtain ⟨p1, p2, p3, p4, p5, p6⟩ := wkr_iff.1 h1
  obtain ⟨q1, q2, q3, q4, q5, q6⟩ := wkr_iff.1 h2
  exact wkr_iff.2 ⟨p1, q2, p3.trans q3, p4.trans q4, wth_trans _ _ _ p5 q5, by omega⟩

/-- A right one's badge and guard are not below nought where what comes in is not. -/
theorem drv_nonneg {c d : C} {rt bd gd bt f : Int} (hb : 0 ≤ c.b) (hg : 0 ≤ c.g) (hbd : 0 ≤ bd) (hgd : 0 ≤ gd) (h : drv c rt bd gd bt = (d, f)) : 0 ≤ d.b ∧ 0 ≤ d.g := by
  unfold drv at h
  split at h
  · split at h
    · split at h
      · split at h
        · simp only [Prod.mk.injEq] at h; obtain ⟨h, _⟩ := h; subst h; exact ⟨Int.le_refl 0, Int.le_refl 0⟩
        · split at h
          · simp only [Prod.mk.injEq] at h; obtain ⟨h, _⟩ := h; subst h; exact ⟨hbd, hg⟩
          · simp only [Prod.mk.injEq] at h; obtain ⟨h, _⟩ := h; subst h; exact ⟨Int.le_refl 0, Int.le_refl 0⟩
      · split at h
        · split at h
          · simp only [Prod.mk.injEq] at h; obtain ⟨h, _⟩ := h; subst h; exact ⟨hb, hgd⟩
          · simp only [Prod.mk.injEq] at h; obtain ⟨h, _⟩ := h; subst h; exact ⟨Int.le_refl 0, Int.le_refl 0⟩
        · simp only [Prod.mk.injEq] at h; obtain ⟨h, _⟩ := h; subst h; exact ⟨hb, hg⟩
    · simp only [Prod.mk.injEq] at h; obtain ⟨h, _⟩ := h; subst h; exact ⟨Int.le_refl 0, Int.le_refl 0⟩
  · simp only [Prod.mk.injEq] at h; obtain ⟨h, _⟩ := h; subst h; exact ⟨Int.le_refl 0, Int.le_refl 0⟩
end M

/-- Derive, as the chapter says it. -/
theorem derive_is (k o r b g n rt bd gd bt : Int) (d : C) (f : Int) (hb : 0 ≤ b) (hg : 0 ≤ g) (hbd : 0 ≤ bd) (hgd : 0 ≤ gd) (h : M.drv ⟨k, o, r, b, g, n⟩ rt bd gd bt = (d, f)) (w : World) :
    Calls Tryz.prog 85 #[cv ⟨k, o, r, b, g, n⟩, .int .i64 rt, .int .u64 bd, .int .u64 gd, .int .i64 bt] w fun e w' => e = .returned (.tuple #[cv d, .int .i64 f]) ∧ w.grownBy w' none :=
  derive_step k o r b g n rt bd gd bt d f hb hg hbd hgd ((M.drp_drv ⟨k, o, r, b, g, n⟩ rt bd gd bt hg).trans h) w
end Go.Proofs.YtdnoidnpiaadaaaGreat
