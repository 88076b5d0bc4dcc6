/-
  THE CONTRACT of package span's Halves.
-/
import Derived.Test.YthjbihbaccnmcaaTells
import Derived.Deep.RegionHeld3
import Derived.Deep.DrawnRows
namespace Go.Proofs.Ythjbihbaccnmcaa
open Go.RowKit

theorem gbSetNew {w w1 : World} (h : w.grownBy w1 none) (b i : Nat) (v : Value) (hb : w.heap.size ≤ b) : w.grownBy (w1.setCell ⟨b, i, none⟩ v) none :=
  gbNew (gbTrans (gbAny h _) (gbSetCell _ _ _ _)) hb
theorem gbDrew {w w1 : World} (h : w.grownBy w1 none) : w.grownBy w1.drew none := gbTrans h (gbDrewN _ 1 none)
theorem gbAllocN {w w1 : World} (h : w.grownBy w1 none) (o : Obj) : w.grownBy (w1.alloc o) none := gbTrans h (gbAlloc _ _ _)

theorem boxThree (w : World) (A B : Int) : ∃ W, ((w.alloc (.cells #[.int .i64 A, .int .i64 B] 23)).alloc (.cells #[.int .i64 0, .int .i64 0] 23)).alloc (.cells #[.int .i64 0, .int .i64 0] 23) = W ∧
    Box W w.heap.size A B ∧ Box W (w.heap.size + 1) 0 0 ∧ Box W (w.heap.size + 1 + 1) 0 0 ∧ w.grownBy W none :=
  ⟨_, rfl, ((Box.made w A B).kept (gbAlloc _ _ _)).kept (gbAlloc _ _ _), (by simpa using Box.made (w.alloc (.cells #[.int .i64 A, .int .i64 B] 23)) 0 0 : Box _ (w.heap.size + 1) 0 0).kept (gbAlloc _ _ _),
    by simpa using Box.made ((w.alloc (.cells #[.int .i64 A, .int .i64 B] 23)).alloc (.cells #[.int .i64 0, .int .i64 0] 23)) 0 0, gbAllocN (gbAllocN (gbAllocN (gbRefl _ _) _) _) _⟩

set_option maxHeartbeats 800000 in
theorem halves_no (A B : Int) (w : World) (h : ¬ (M.rgt A B = true ∧ B ≠ 0)) :
    Calls Try.prog 9 #[sp A B] w fun e w' => e = .returned (.tuple #[sp 0 0, sp 0 0, .int .i64 1]) ∧ w.grownBy w' none := by
  obtain ⟨W, hW, X1, X2, X3, gW⟩ := boxThree w A B
  obtain ⟨v, hv⟩ : ∃ v, M.rgt A B = v := ⟨_, rfl⟩
  have HR := fun w => right_is A B v hv w
  have hv' : v = false ∨ v = true ∧ B = 0 := by
    rw [hv] at h
    cases v
    · exact .inl rfl
    · exact .inr ⟨rfl, Classical.byContradiction fun e => h ⟨rfl, e⟩⟩
  have x0 := X1.at0
  have x1 := X1.at1
  clear h hv
  rcases hv' with rfl | ⟨rfl, rfl⟩
  all_goals
    go_enter Try.func9, Try.ntmps9
    go_wp2_with fail
    refine (HR _).mono ?_
    rintro e w1 ⟨rfl, g1⟩
    have Y1 := X1.kept g1
    have Y2 := X2.kept g1
    have Y3 := X3.kept g1
    have a1 := Y1.at1
    have a2 := Y2.at0
    have a3 := Y2.at1
    have a4 := Y2.fr
    have a5 := Y2.fr1
    have a6 := Y3.at0
    have a7 := Y3.at1
    have a8 := Y3.fr
    have a9 := Y3.fr1
    clear hW
    go_wp2
    exact bodyPost_ret (v := .tuple #[sp 0 0, sp 0 0, .int .i64 1]) (by simp [results, Try.results9, go_sem, a2, a3, a6, a7]) rfl ⟨rfl, by repeat (first | exact gbTrans gW g1 | refine gbSetNew ?_ _ _ _ (by omega))⟩

theorem gcell {W w1 : World} (h : W.grownBy w1 none) (b o : Nat) (hb : b < W.heap.size) : w1.cell? ⟨b, o, none⟩ = W.cell? ⟨b, o, none⟩ := by
  cases e : W.cell? ⟨b, o, none⟩ with
  | some v => exact h.cell e (by simp)
  | none => unfold World.cell? at *; rw [h.block b hb (by simp)]; exact e
theorem gfroz {W w1 : World} (h : W.grownBy w1 none) (b o : Nat) (hb : b < W.heap.size) : w1.frozen? ⟨b, o, none⟩ = W.frozen? ⟨b, o, none⟩ := gbFrozen h hb (by simp)

theorem boxNew (w : World) (A B : Int) : ∃ W, w.alloc (.cells #[.int .i64 A, .int .i64 B] 23) = W ∧ Box W w.heap.size A B ∧ w.grownBy W none :=
  ⟨_, rfl, Box.made w A B, gbAlloc _ _ _⟩

theorem Box.set {w : World} {b : Nat} {A B : Int} (h : Box w b A B) (C D : Int) : Box ((w.setCell ⟨b, 0, none⟩ (.int .i64 C)).setCell ⟨b, 1, none⟩ (.int .i64 D)) b C D :=
  ⟨(World.cell?_setCell_other _ _ _ _ (by simp)).trans (World.cell?_setCell_same _ _ _ h.at0), World.cell?_setCell_same _ _ _ (u := .int .i64 B) ((World.cell?_setCell_other _ _ _ _ (by simp)).trans h.at1), by simpa [World.setCell] using h.lt, by simpa using h.fr, by simpa using h.fr1⟩

set_option maxHeartbeats 800000 in
theorem halves_yes (a b m n : Nat) (w : World) (hn : b + 1 = n) (hn3 : n ≤ 16) (hm : 2 ^ b = m) (h : M.rgt (a : Int) (n : Int) = true) :
    Calls Try.prog 9 #[sp a n] w fun e w' => e = .returned (.tuple #[sp a b, sp ((a : Int) + (m : Int)) b, .int .i64 0]) ∧ w.grownBy w' none := by
  have HR := fun w => right_is a n true h w
  have ha : a ≤ 65536 := by obtain ⟨x, y, z, e, _, _, _, _, _, _, h3, _⟩ := M.rgt_nat h; omega
  have HE := fun w => end_any a b m w (by omega) hm (by omega) (by omega)
  have hn1 : (n : Int) - 1 = (b : Int) := by omega
  have hn2 : 1 ≤ n := by omega
  obtain ⟨W, hW, X1, X2, X3, gW⟩ := boxThree w a n
  have x0 := X1.at0
  have x1 := X1.at1
  clear hn h hm
  go_enter Try.func9, Try.ntmps9
  go_wp2_with fail
  refine (HR _).mono ?_
  rintro e w1 ⟨rfl, g1⟩
  clear hW x0 x1
  have Y1 := X1.kept g1
  have y0 := Y1.at0
  have y1 := Y1.at1
  go_wp2
  obtain ⟨W2, hW2, Z4, g2⟩ := boxNew w1 a b
  rw [hW2]
  clear hW2
  have Z1 := Y1.kept g2
  have Z2 := (X2.kept g1).kept g2
  have Z3 := (X3.kept g1).kept g2
  have gZ := gbTrans (gbTrans gW g1) g2
  have l2 : w.heap.size + 1 + 1 < w1.heap.size := (X3.kept g1).lt
  clear y0 y1 Y1 X1 X2 X3 g1 gW
  have z1 := Z1.at1
  have z2 := Z4.at0
  have z3 := Z4.at1
  have l1 := Z1.lt
  have l4 := Z4.lt
  have hwb : IntKind.i64.wrap (b : Int) = (b : Int) := by rw [IntKind.wrap_i64]; omega
  go_region_held3 (fun w' => w'.cell? ⟨w1.heap.size, 0, none⟩ = some (.int .i64 a) ∧ w'.cell? ⟨w1.heap.size, 1, none⟩ = some (.int .i64 b) ∧ w'.cell? ⟨w.heap.size, 1, none⟩ = some (.int .i64 n))
    (first | exact ⟨z2, z3, z1⟩ | go_keep | exact ⟨(Z4.kept G3).at0, (Z4.kept G3).at1, (Z1.kept G3).at1⟩ | exact ⟨(Z4.kept (gbAllocN G3 _)).at0, (Z4.kept (gbAllocN G3 _)).at1, (Z1.kept (gbAllocN G3 _)).at1⟩ | exact ⟨(Z4.kept (gbSetNew (gbSetNew G3 _ _ _ (Nat.le_refl _)) _ _ _ (Nat.le_refl _))).at0, (Z4.kept (gbSetNew (gbSetNew G3 _ _ _ (Nat.le_refl _)) _ _ _ (Nat.le_refl _))).at1, (Z1.kept (gbSetNew (gbSetNew G3 _ _ _ (Nat.le_refl _)) _ _ _ (Nat.le_refl _))).at1⟩ | fail)
    ((go_at_call 27; refine (HE _).mono ?_; rintro e w3 ⟨rfl, g3⟩; have hc3 := gcell g3; have hf3 := gfroz g3; have G3 : W2.grownBy w3 none := (by first | exact gbTrans (gbDrewN W2 1 none) g3 | exact gbTrans (gbAllocN (gbDrewN W2 1 none) _) g3)))
  · obtain ⟨W3, hW3, V6, gV⟩ := boxNew w3 ((a : Int) + (m : Int)) b
    rw [hW3]
    rename_i hold
    clear hold hW3
    have l3 := G3.size
    have U2 := Z2.kept (gbTrans G3 gV)
    have U3 := Z3.kept (gbTrans G3 gV)
    have U4 := Z4.kept (gbTrans G3 gV)
    have gZ3 := gbTrans gZ (gbTrans G3 gV)
    clear Z1 Z2 Z3 Z4 z1 z2 z3 g2 g3
    have u0 := U4.at0
    have u1 := U4.at1
    have v0 := V6.at0
    have v1 := V6.at1
    have a2 := U2.at0
    have a3 := U2.at1
    have a4 := U2.fr
    have a5 := U2.fr1
    have a6 := U3.at0
    have a7 := U3.at1
    have a8 := U3.fr
    have a9 := U3.fr1
    have n1 : ¬ w.heap.size + 1 = w1.heap.size := by omega
    have n2 : ¬ w.heap.size + 1 + 1 = w1.heap.size := by omega
    have n3 : ¬ w.heap.size + 1 = w3.heap.size := by omega
    have n4 : ¬ w.heap.size + 1 + 1 = w3.heap.size := by omega
    go_wp2
    go_region_held3 (fun w' => w'.cell? ⟨w1.heap.size, 0, none⟩ = some (.int .i64 a) ∧ w'.cell? ⟨w1.heap.size, 1, none⟩ = some (.int .i64 b) ∧ w'.cell? ⟨w3.heap.size, 0, none⟩ = some (.int .i64 ((a : Int) + (m : Int))) ∧ w'.cell? ⟨w3.heap.size, 1, none⟩ = some (.int .i64 b)) (go_keep) (fail)
    all_goals
      go_wp2
      exact bodyPost_ret (v := .tuple #[sp a b, sp ((a : Int) + (m : Int)) b, .int .i64 0]) (by simp [results, Try.results9, go_sem, a2, a3, a6, a7]) rfl ⟨rfl, by repeat (first | exact gZ3 | refine gbDrew ?_ | refine gbSetNew ?_ _ _ _ (by omega))⟩
  · rename_i hold
    clear hold
    have V5 : Box w3 W2.heap.size 0 0 := (Box.made W2 0 0).kept (gbTrans (gbDrewN _ 1 none) g3)
    have V6 := V5.set ((a : Int) + (m : Int)) b
    have G4 : W2.grownBy ((w3.setCell ⟨W2.heap.size, 0, none⟩ (.int .i64 ((a : Int) + (m : Int)))).setCell ⟨W2.heap.size, 1, none⟩ (.int .i64 (b : Int))) none := gbSetNew (gbSetNew G3 _ _ _ (Nat.le_refl _)) _ _ _ (Nat.le_refl _)
    obtain ⟨W3, hW3⟩ : ∃ W3, (w3.setCell ⟨W2.heap.size, 0, none⟩ (.int .i64 ((a : Int) + (m : Int)))).setCell ⟨W2.heap.size, 1, none⟩ (.int .i64 (b : Int)) = W3 := ⟨_, rfl⟩
    rw [hW3] at V6 G4
    rw [hW3]
    clear hW3
    have l3 := G3.size
    have U2 := Z2.kept G4
    have U3 := Z3.kept G4
    have U4 := Z4.kept G4
    have gZ3 := gbTrans gZ G4
    clear Z1 Z2 Z3 Z4 z1 z2 z3 g2 g3
    have u0 := U4.at0
    have u1 := U4.at1
    have v0 := V6.at0
    have v1 := V6.at1
    have a2 := U2.at0
    have a3 := U2.at1
    have a4 := U2.fr
    have a5 := U2.fr1
    have a6 := U3.at0
    have a7 := U3.at1
    have a8 := U3.fr
    have a9 := U3.fr1
    have n1 : ¬ w.heap.size + 1 = w1.heap.size := by omega
    have n2 : ¬ w.heap.size + 1 + 1 = w1.heap.size := by omega
    have n3 : ¬ w.heap.size + 1 = W2.heap.size := by omega
    have n4 : ¬ w.heap.size + 1 + 1 = W2.heap.size := by omega
    go_wp2
    go_region_held3 (fun w' => w'.cell? ⟨w1.heap.size, 0, none⟩ = some (.int .i64 a) ∧ w'.cell? ⟨w1.heap.size, 1, none⟩ = some (.int .i64 b) ∧ w'.cell? ⟨W2.heap.size, 0, none⟩ = some (.int .i64 ((a : Int) + (m : Int))) ∧ w'.cell? ⟨W2.heap.size, 1, none⟩ = some (.int .i64 b)) (go_keep) (fail)
    all_goals
      go_wp2
      exact bodyPost_ret (v := .tuple #[sp a b, sp ((a : Int) + (m : Int)) b, .int .i64 0]) (by simp [results, Try.results9, go_sem, a2, a3, a6, a7]) rfl ⟨rfl, by repeat (first | exact gZ3 | refine gbDrew ?_ | refine gbSetNew ?_ _ _ _ (by omega))⟩

end Go.Proofs.Ythjbihbaccnmcaa
