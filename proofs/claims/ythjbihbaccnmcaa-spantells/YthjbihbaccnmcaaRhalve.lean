/-
  THE CONTRACTS of the document's Halves (donjonref03).
-/
import Derived.Test.YthjbihbaccnmcaaHalve
import Derived.Test.YthjbihbaccnmcaaRef
namespace Go.Proofs.Ythjbihbaccnmcaa
open Go.RowKit

set_option maxHeartbeats 800000 in
theorem rhalves_no (A B : Int) (w : World) (h : ¬ (M.rgt A B = true ∧ B ≠ 0)) :
    Calls Try.prog 10 #[sp A B] w fun e w' => e = .returned (.tuple #[sp 0 0, sp 0 0, .int .i64 1]) ∧ w.grownBy w' none := by
  obtain ⟨W, hW, X1, X2, X3, gW⟩ := boxThree w A B
  obtain ⟨v, hv⟩ : ∃ v, M.rgt A B = v := ⟨_, rfl⟩
  have HR := fun w => rright_is A B v hv w
  have hv' : v = false ∨ v = true ∧ B = 0 := by
    rw [hv] at h
    cases v
    · exact .inl rfl
    · exact .inr ⟨rfl, Classical.byContradiction fun e => h ⟨rfl, e⟩⟩
  have x0 := X1.at0
  have x1 := X1.at1
  clear h hv
  rcases hv' with rfl | ⟨rfl, rfl⟩
  all_goals
    go_enter Try.func10, Try.ntmps10
    go_wp2_with fail
    refine (HR _).mono ?_
    rintro e w1 ⟨rfl, g1⟩
    have Y1 := X1.kept g1
    have Y2 := X2.kept g1
    have Y3 := X3.kept g1
    have a1 := Y1.at1
    have a2 := Y2.at0
    have a3 := Y2.at1
    have a4 := Y2.fr
    have a5 := Y2.fr1
    have a6 := Y3.at0
    have a7 := Y3.at1
    have a8 := Y3.fr
    have a9 := Y3.fr1
    clear hW
    go_wp2
    exact bodyPost_ret (v := .tuple #[sp 0 0, sp 0 0, .int .i64 1]) (by simp [results, Try.results10, go_sem, a2, a3, a6, a7]) rfl ⟨rfl, by repeat (first | exact gbTrans gW g1 | refine gbSetNew ?_ _ _ _ (by omega))⟩

set_option maxHeartbeats 800000 in
theorem rhalves_yes (a b m n : Nat) (w : World) (hn : b + 1 = n) (hn3 : n ≤ 16) (hm : 2 ^ b = m) (h : M.rgt (a : Int) (n : Int) = true) :
    Calls Try.prog 10 #[sp a n] w fun e w' => e = .returned (.tuple #[sp a b, sp ((a : Int) + (m : Int)) b, .int .i64 0]) ∧ w.grownBy w' none := by
  have HR := fun w => rright_is a n true h w
  have ha : a ≤ 65536 := by obtain ⟨x, y, z, e, _, _, _, _, _, _, h3, _⟩ := M.rgt_nat h; omega
  have hp := M.pow_le16 b (by omega)
  have h2 := M.shl_val b m (by omega) hm
  rw [hm] at hp
  have hn1 : (n : Int) - 1 = (b : Int) := by omega
  have hn2 : 1 ≤ n := by omega
  obtain ⟨W, hW, X1, X2, X3, gW⟩ := boxThree w a n
  have x0 := X1.at0
  have x1 := X1.at1
  clear hn h hm
  go_enter Try.func10, Try.ntmps10
  go_wp2_with fail
  refine (HR _).mono ?_
  rintro e w1 ⟨rfl, g1⟩
  clear hW x0 x1
  have Y1 := X1.kept g1
  have Y2 := X2.kept g1
  have Y3 := X3.kept g1
  have y0 := Y1.at0
  have y1 := Y1.at1
  have a2 := Y2.at0
  have a3 := Y2.at1
  have a4 := Y2.fr
  have a5 := Y2.fr1
  have a6 := Y3.at0
  have a7 := Y3.at1
  have a8 := Y3.fr
  have a9 := Y3.fr1
  have l3 := Y3.lt
  have n1 : ¬ w.heap.size + 1 = w.heap.size := by omega
  have n2 : ¬ w.heap.size + 1 + 1 = w.heap.size := by omega
  have gZ := gbTrans gW g1
  have hw1 : IntKind.i64.wrap (2 ^ b) = (m : Int) := by have := h2; unfold wrap64 at this; rw [IntKind.wrap_i64]; omega
  have hw2 : IntKind.i64.wrap ((a : Int) + (m : Int)) = (a : Int) + (m : Int) := by rw [IntKind.wrap_i64]; omega
  go_wp2
  go_region_held3 (fun w' => w'.cell? ⟨w.heap.size, 0, none⟩ = some (.int .i64 a) ∧ w'.cell? ⟨w.heap.size, 1, none⟩ = some (.int .i64 n)) (go_keep) (fail)
  all_goals
    go_wp2
    exact bodyPost_ret (v := .tuple #[sp a b, sp ((a : Int) + (m : Int)) b, .int .i64 0]) (by simp [results, Try.results10, go_sem, a2, a3, a6, a7]) rfl ⟨rfl, by repeat (first | exact gZ | refine gbDrew ?_ | refine gbSetNew ?_ _ _ _ (by omega))⟩

end Go.Proofs.Ythjbihbaccnmcaa
