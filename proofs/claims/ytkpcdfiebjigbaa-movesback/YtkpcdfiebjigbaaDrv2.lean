/-
  THE CONTRACTS of package cap's marked and Derive.
-/
import Derived.Test.YtkpcdfiebjigbaaDrv1
import Derived.Deep.Cut
namespace Go.Proofs.Ytkpcdfiebjigbaa
set_option maxRecDepth 10000
open Go.RowKit

theorem boxes3 (w : World) (c d e : C) (W : World) (hW : ((w.alloc (.cells #[.int .i64 c.k, .int .i64 c.o, .int .i64 c.r, .int .u64 c.b, .int .u64 c.g, .int .i64 c.n] 32)).alloc (.cells #[.int .i64 d.k, .int .i64 d.o, .int .i64 d.r, .int .u64 d.b, .int .u64 d.g, .int .i64 d.n] 32)).alloc (.cells #[.int .i64 e.k, .int .i64 e.o, .int .i64 e.r, .int .u64 e.b, .int .u64 e.g, .int .i64 e.n] 32) = W) :
    Box W w.heap.size c ∧ Box W (w.heap.size + 1) d ∧ Box W (w.heap.size + 1 + 1) e ∧ w.grownBy W none := by
  subst hW
  refine ⟨((Box.made w c).kept (gbAlloc _ _ _)).kept (gbAlloc _ _ _), ?_, ?_, gbAllocN (gbAllocN (gbAlloc _ _ _) _) _⟩
  · have h := Box.made (w.alloc (.cells #[.int .i64 c.k, .int .i64 c.o, .int .i64 c.r, .int .u64 c.b, .int .u64 c.g, .int .i64 c.n] 32)) d
    rw [show (w.alloc (.cells #[.int .i64 c.k, .int .i64 c.o, .int .i64 c.r, .int .u64 c.b, .int .u64 c.g, .int .i64 c.n] 32)).heap.size = w.heap.size + 1 by simp] at h
    exact h.kept (gbAlloc _ _ _)
  · have h := Box.made ((w.alloc (.cells #[.int .i64 c.k, .int .i64 c.o, .int .i64 c.r, .int .u64 c.b, .int .u64 c.g, .int .i64 c.n] 32)).alloc (.cells #[.int .i64 d.k, .int .i64 d.o, .int .i64 d.r, .int .u64 d.b, .int .u64 d.g, .int .i64 d.n] 32)) e
    rw [show ((w.alloc (.cells #[.int .i64 c.k, .int .i64 c.o, .int .i64 c.r, .int .u64 c.b, .int .u64 c.g, .int .i64 c.n] 32)).alloc (.cells #[.int .i64 d.k, .int .i64 d.o, .int .i64 d.r, .int .u64 d.b, .int .u64 d.g, .int .i64 d.n] 32)).heap.size = w.heap.size + 1 + 1 by simp] at h
    exact h

/-- A block that is written over. -/
theorem Box.set1 {w : World} {x : Nat} {c : C} (h : Box w x c) (v : Int) : Box (w.setCell ⟨x, 3, none⟩ (.int .u64 v)) x ⟨c.k, c.o, c.r, v, c.g, c.n⟩ ∧ w.grownBy (w.setCell ⟨x, 3, none⟩ (.int .u64 v)) (some x) := by
  obtain ⟨a0, a1, a2, a3, a4, a5, lt, fr⟩ := h
  refine ⟨⟨?_, ?_, ?_, ?_, ?_, ?_, ?_, ?_⟩, gbSetCell _ _ _ _⟩
  · exact (World.cell?_setCell_other _ _ _ _ (by simp)).trans a0
  · exact (World.cell?_setCell_other _ _ _ _ (by simp)).trans a1
  · exact (World.cell?_setCell_other _ _ _ _ (by simp)).trans a2
  · exact World.cell?_setCell_same _ _ _ a3
  · exact (World.cell?_setCell_other _ _ _ _ (by simp)).trans a4
  · exact (World.cell?_setCell_other _ _ _ _ (by simp)).trans a5
  · simpa [World.setCell] using lt
  · intro i; simpa using fr i


set_option maxHeartbeats 1000000 in
theorem marked_zno (k o r b g n bd gd bt k' o' r' g' n' : Int) (v : Int) (hv : (v != 0) = true)
    (HO : ∀ w, Calls Try.prog 62 #[cv ⟨k, o, r, bd, gd, bt⟩] w fun e w' => e = .returned (cv ⟨k', o', r', 0, g', n'⟩) ∧ w.grownBy w' none)
    (HC : ∀ w, Calls Try.prog 46 #[cv ⟨k', o', r', b, g', n'⟩] w fun e w' => e = .returned (.int .i64 v) ∧ w.grownBy w' none)
    (w : World) :
    Calls Try.prog 52 #[cv ⟨k, o, r, b, g, n⟩, .int .u64 bd, .int .u64 gd, .int .i64 bt] w fun e w' => e = .returned (.tuple #[cv C.zero, .int .i64 v]) ∧ w.grownBy w' none := by
  go_enter Try.func52, Try.ntmps52
  go_wp2_with fail
  refine (HO _).mono ?_
  rintro e w1 ⟨rfl, g1⟩
  obtain ⟨X4, X8, X10, gW⟩ := boxes3 w ⟨k, o, r, b, g, n⟩ C.zero ⟨k, o, r, bd, gd, bt⟩ _ rfl
  have Y4 := X4.kept g1
  have Y8 := X8.kept g1
  have Y10 := X10.kept g1
  have G1 := gbTrans gW g1
  clear X4 X8 X10 gW g1
  obtain ⟨d0, d1, d2, d3, d4, d5, dl, df⟩ := id Y10
  go_upto_region 4 with fail
  clear d0 d1 d2 d3 d4 d5 dl df
  obtain ⟨W2, hW2, Z10, h2⟩ := Y10.put ⟨k', o', r', 0, g', n'⟩
  simp only at hW2
  rw [hW2]
  clear hW2
  have Z4 := Y4.keep h2 (by simp; omega)
  have Z8 := Y8.keep h2 (by simp)
  have G2 := gbNew (gbTrans (gbAny G1 _) h2) (by omega)
  clear Y4 Y8 Y10 G1 h2
  obtain ⟨a0, a1, a2, a3, a4, a5, _, _⟩ := Z4
  obtain ⟨d0, d1, d2, d3, d4, d5, dl, df⟩ := id Z10
  go_wp2_with fail
  refine (HC _).mono ?_
  rintro e w3 ⟨rfl, g3⟩
  clear a0 a1 a2 a3 a4 a5 d0 d1 d2 d3 d4 d5 dl df
  obtain ⟨Z10', h3⟩ := Z10.set1 b
  have V10 := Z10'.kept g3
  have V8 := (Z8.keep h3 (by simp)).kept g3
  have G3 := gbTrans (gbNew (gbTrans (gbAny G2 _) h3) (by omega)) g3
  clear Z10 Z10' Z8 h3 G2 g3
  obtain ⟨a0, a1, a2, a3, a4, a5, lt, fr⟩ := V8
  clear V10
  go_wp2
  exact bodyPost_ret (v := .tuple #[cv C.zero, .int .i64 v]) (by simp [results, Try.results52, go_sem, a0, a1, a2, a3, a4, a5]) rfl ⟨rfl, by repeat (first | with_reducible exact G3 | refine gbSetNew ?_ _ _ _ (by omega))⟩

set_option maxHeartbeats 1000000 in
theorem marked_zyes (k o r b g n bd gd bt k' o' r' g' n' : Int)
    (HO : ∀ w, Calls Try.prog 62 #[cv ⟨k, o, r, bd, gd, bt⟩] w fun e w' => e = .returned (cv ⟨k', o', r', 0, g', n'⟩) ∧ w.grownBy w' none)
    (HC : ∀ w, Calls Try.prog 46 #[cv ⟨k', o', r', b, g', n'⟩] w fun e w' => e = .returned (.int .i64 0) ∧ w.grownBy w' none)
    (w : World) :
    Calls Try.prog 52 #[cv ⟨k, o, r, b, g, n⟩, .int .u64 bd, .int .u64 gd, .int .i64 bt] w fun e w' => e = .returned (.tuple #[cv ⟨k', o', r', b, g', n'⟩, .int .i64 0]) ∧ w.grownBy w' none := by
  go_enter Try.func52, Try.ntmps52
  go_wp2_with fail
  refine (HO _).mono ?_
  rintro e w1 ⟨rfl, g1⟩
  obtain ⟨X4, X8, X10, gW⟩ := boxes3 w ⟨k, o, r, b, g, n⟩ C.zero ⟨k, o, r, bd, gd, bt⟩ _ rfl
  have Y4 := X4.kept g1
  have Y8 := X8.kept g1
  have Y10 := X10.kept g1
  have G1 := gbTrans gW g1
  clear X4 X8 X10 gW g1
  obtain ⟨d0, d1, d2, d3, d4, d5, dl, df⟩ := id Y10
  go_upto_region 4 with fail
  clear d0 d1 d2 d3 d4 d5 dl df
  obtain ⟨W2, hW2, Z10, h2⟩ := Y10.put ⟨k', o', r', 0, g', n'⟩
  simp only at hW2
  rw [hW2]
  clear hW2
  have Z4 := Y4.keep h2 (by simp; omega)
  have Z8 := Y8.keep h2 (by simp)
  have G2 := gbNew (gbTrans (gbAny G1 _) h2) (by omega)
  clear Y4 Y8 Y10 G1 h2
  obtain ⟨a0, a1, a2, a3, a4, a5, _, _⟩ := Z4
  obtain ⟨d0, d1, d2, d3, d4, d5, dl, df⟩ := id Z10
  go_wp2_with fail
  refine (HC _).mono ?_
  rintro e w3 ⟨rfl, g3⟩
  clear a0 a1 a2 a3 a4 a5 d0 d1 d2 d3 d4 d5 dl df
  obtain ⟨Z10', h3⟩ := Z10.set1 b
  have V10 := Z10'.kept g3
  have V8 := (Z8.keep h3 (by simp)).kept g3
  have G3 := gbTrans (gbNew (gbTrans (gbAny G2 _) h3) (by omega)) g3
  clear Z10 Z10' Z8 h3 G2 g3
  obtain ⟨a0, a1, a2, a3, a4, a5, lt, fr⟩ := V8
  obtain ⟨z0, z1, z2, z3, z4, z5, zt, zf⟩ := V10
  simp only at z0 z1 z2 z3 z4 z5
  go_wp2
  exact bodyPost_ret (v := .tuple #[cv ⟨k', o', r', b, g', n'⟩, .int .i64 0]) (by simp [results, Try.results52, go_sem, a0, a1, a2, a3, a4, a5]) rfl ⟨rfl, by repeat (first | with_reducible exact G3 | refine gbSetNew ?_ _ _ _ (by omega))⟩

set_option maxHeartbeats 1000000 in
theorem marked_nno (k o r g n bd gd bt k' o' r' b' g' n' : Int) (v : Int) (h1 : (b' == 0) = false) (hv : (v != 0) = true)
    (HO : ∀ w, Calls Try.prog 62 #[cv ⟨k, o, r, bd, gd, bt⟩] w fun e w' => e = .returned (cv ⟨k', o', r', b', g', n'⟩) ∧ w.grownBy w' none)
    (HC : ∀ w, Calls Try.prog 46 #[cv ⟨k', o', r', b', g', n'⟩] w fun e w' => e = .returned (.int .i64 v) ∧ w.grownBy w' none)
    (w : World) :
    Calls Try.prog 52 #[cv ⟨k, o, r, 0, g, n⟩, .int .u64 bd, .int .u64 gd, .int .i64 bt] w fun e w' => e = .returned (.tuple #[cv C.zero, .int .i64 v]) ∧ w.grownBy w' none := by
  go_enter Try.func52, Try.ntmps52
  go_wp2_with fail
  refine (HO _).mono ?_
  rintro e w1 ⟨rfl, g1⟩
  obtain ⟨X4, X8, X10, gW⟩ := boxes3 w ⟨k, o, r, 0, g, n⟩ C.zero ⟨k, o, r, bd, gd, bt⟩ _ rfl
  have Y4 := X4.kept g1
  have Y8 := X8.kept g1
  have Y10 := X10.kept g1
  have G1 := gbTrans gW g1
  clear X4 X8 X10 gW g1
  obtain ⟨d0, d1, d2, d3, d4, d5, dl, df⟩ := id Y10
  go_upto_region 4 with fail
  clear d0 d1 d2 d3 d4 d5 dl df
  obtain ⟨W2, hW2, Z10, h2⟩ := Y10.put ⟨k', o', r', b', g', n'⟩
  simp only at hW2
  rw [hW2]
  clear hW2
  have Z4 := Y4.keep h2 (by simp; omega)
  have Z8 := Y8.keep h2 (by simp)
  have G2 := gbNew (gbTrans (gbAny G1 _) h2) (by omega)
  clear Y4 Y8 Y10 G1 h2
  obtain ⟨a0, a1, a2, a3, a4, a5, _, _⟩ := Z4
  obtain ⟨d0, d1, d2, d3, d4, d5, dl, df⟩ := id Z10
  go_wp2_with fail
  refine (HC _).mono ?_
  rintro e w3 ⟨rfl, g3⟩
  clear a0 a1 a2 a3 a4 a5 d0 d1 d2 d3 d4 d5 dl df
  have V10 := Z10.kept g3
  have V8 := Z8.kept g3
  have G3 := gbTrans G2 g3
  clear Z10 Z8 G2 g3
  obtain ⟨a0, a1, a2, a3, a4, a5, lt, fr⟩ := V8
  clear V10
  go_wp2
  exact bodyPost_ret (v := .tuple #[cv C.zero, .int .i64 v]) (by simp [results, Try.results52, go_sem, a0, a1, a2, a3, a4, a5]) rfl ⟨rfl, by repeat (first | with_reducible exact G3 | refine gbSetNew ?_ _ _ _ (by omega))⟩

set_option maxHeartbeats 1000000 in
theorem marked_nyes (k o r g n bd gd bt k' o' r' b' g' n' : Int) (h1 : (b' == 0) = false)
    (HO : ∀ w, Calls Try.prog 62 #[cv ⟨k, o, r, bd, gd, bt⟩] w fun e w' => e = .returned (cv ⟨k', o', r', b', g', n'⟩) ∧ w.grownBy w' none)
    (HC : ∀ w, Calls Try.prog 46 #[cv ⟨k', o', r', b', g', n'⟩] w fun e w' => e = .returned (.int .i64 0) ∧ w.grownBy w' none)
    (w : World) :
    Calls Try.prog 52 #[cv ⟨k, o, r, 0, g, n⟩, .int .u64 bd, .int .u64 gd, .int .i64 bt] w fun e w' => e = .returned (.tuple #[cv ⟨k', o', r', b', g', n'⟩, .int .i64 0]) ∧ w.grownBy w' none := by
  go_enter Try.func52, Try.ntmps52
  go_wp2_with fail
  refine (HO _).mono ?_
  rintro e w1 ⟨rfl, g1⟩
  obtain ⟨X4, X8, X10, gW⟩ := boxes3 w ⟨k, o, r, 0, g, n⟩ C.zero ⟨k, o, r, bd, gd, bt⟩ _ rfl
  have Y4 := X4.kept g1
  have Y8 := X8.kept g1
  have Y10 := X10.kept g1
  have G1 := gbTrans gW g1
  clear X4 X8 X10 gW g1
  obtain ⟨d0, d1, d2, d3, d4, d5, dl, df⟩ := id Y10
  go_upto_region 4 with fail
  clear d0 d1 d2 d3 d4 d5 dl df
  obtain ⟨W2, hW2, Z10, h2⟩ := Y10.put ⟨k', o', r', b', g', n'⟩
  simp only at hW2
  rw [hW2]
  clear hW2
  have Z4 := Y4.keep h2 (by simp; omega)
  have Z8 := Y8.keep h2 (by simp)
  have G2 := gbNew (gbTrans (gbAny G1 _) h2) (by omega)
  clear Y4 Y8 Y10 G1 h2
  obtain ⟨a0, a1, a2, a3, a4, a5, _, _⟩ := Z4
  obtain ⟨d0, d1, d2, d3, d4, d5, dl, df⟩ := id Z10
  go_wp2_with fail
  refine (HC _).mono ?_
  rintro e w3 ⟨rfl, g3⟩
  clear a0 a1 a2 a3 a4 a5 d0 d1 d2 d3 d4 d5 dl df
  have V10 := Z10.kept g3
  have V8 := Z8.kept g3
  have G3 := gbTrans G2 g3
  clear Z10 Z8 G2 g3
  obtain ⟨a0, a1, a2, a3, a4, a5, lt, fr⟩ := V8
  obtain ⟨z0, z1, z2, z3, z4, z5, zt, zf⟩ := V10
  simp only at z0 z1 z2 z3 z4 z5
  go_wp2
  exact bodyPost_ret (v := .tuple #[cv ⟨k', o', r', b', g', n'⟩, .int .i64 0]) (by simp [results, Try.results52, go_sem, a0, a1, a2, a3, a4, a5]) rfl ⟨rfl, by repeat (first | with_reducible exact G3 | refine gbSetNew ?_ _ _ _ (by omega))⟩

set_option maxHeartbeats 1000000 in
theorem marked_state (k o r b g n bd gd bt k' o' r' b' g' n' : Int) (h1 : (b' == 0) = false) (h2 : (b != 0) = true)
    (HO : ∀ w, Calls Try.prog 62 #[cv ⟨k, o, r, bd, gd, bt⟩] w fun e w' => e = .returned (cv ⟨k', o', r', b', g', n'⟩) ∧ w.grownBy w' none)
    (w : World) :
    Calls Try.prog 52 #[cv ⟨k, o, r, b, g, n⟩, .int .u64 bd, .int .u64 gd, .int .i64 bt] w fun e w' => e = .returned (.tuple #[cv C.zero, .int .i64 8]) ∧ w.grownBy w' none := by
  go_enter Try.func52, Try.ntmps52
  go_wp2_with fail
  refine (HO _).mono ?_
  rintro e w1 ⟨rfl, g1⟩
  obtain ⟨X4, X8, X10, gW⟩ := boxes3 w ⟨k, o, r, b, g, n⟩ C.zero ⟨k, o, r, bd, gd, bt⟩ _ rfl
  have Y4 := X4.kept g1
  have Y8 := X8.kept g1
  have Y10 := X10.kept g1
  have G1 := gbTrans gW g1
  clear X4 X8 X10 gW g1
  obtain ⟨d0, d1, d2, d3, d4, d5, dl, df⟩ := id Y10
  go_upto_region 4 with fail
  clear d0 d1 d2 d3 d4 d5 dl df
  obtain ⟨W2, hW2, Z10, h9⟩ := Y10.put ⟨k', o', r', b', g', n'⟩
  simp only at hW2
  rw [hW2]
  clear hW2
  have Z4 := Y4.keep h9 (by simp; omega)
  have Z8 := Y8.keep h9 (by simp)
  have G2 := gbNew (gbTrans (gbAny G1 _) h9) (by omega)
  clear Y4 Y8 Y10 G1 h9
  obtain ⟨c0, c1, c2, c3, c4, c5, _, _⟩ := Z4
  obtain ⟨d0, d1, d2, d3, d4, d5, dl, df⟩ := Z10
  obtain ⟨a0, a1, a2, a3, a4, a5, lt, fr⟩ := Z8
  go_wp2
  exact bodyPost_ret (v := .tuple #[cv C.zero, .int .i64 8]) (by simp [results, Try.results52, go_sem, a0, a1, a2, a3, a4, a5]) rfl ⟨rfl, by repeat (first | with_reducible exact G2 | refine gbSetNew ?_ _ _ _ (by omega))⟩
end Go.Proofs.Ytkpcdfiebjigbaa
