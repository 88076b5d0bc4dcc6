/-
  WHATEVER IS PUT, SET TO NOUGHT, COPIED AND READ: the walk of the law MemDoes.
-/
import Derived.Test.YtllglnomokebcaaBoth
namespace Go.Proofs.Ytllglnomokebcaa.memDoes
open Go.RowKit
set_option linter.unusedVariables false

/-- The five cells of an act. -/
def Act5 (w : World) (y : Addr) (K A B N V : Int) : Prop :=
  w.cell? y = some (.int .i64 K) ∧ w.cell? ⟨y.block, y.off + 1, none⟩ = some (.int .i64 A) ∧ w.cell? ⟨y.block, y.off + 2, none⟩ = some (.int .i64 B) ∧ w.cell? ⟨y.block, y.off + 3, none⟩ = some (.int .i64 N) ∧ w.cell? ⟨y.block, y.off + 4, none⟩ = some (.int .u64 V)

theorem fives {w : World} {g : Nat} {K A B N V : Int} (h : w.heap[g]? = some (.cells #[.int .i64 K, .int .i64 A, .int .i64 B, .int .i64 N, .int .u64 V] 32 (0, 0))) :
    w.cell? ⟨g, 0, none⟩ = some (.int .i64 K) ∧ w.cell? ⟨g, 1, none⟩ = some (.int .i64 A) ∧ w.cell? ⟨g, 2, none⟩ = some (.int .i64 B) ∧ w.cell? ⟨g, 3, none⟩ = some (.int .i64 N) ∧ w.cell? ⟨g, 4, none⟩ = some (.int .u64 V) := by
  simp [World.cell?, h]

set_option maxRecDepth 10000 in
set_option maxHeartbeats 4000000 in
theorem core (n : Nat) (a1 : Option Addr) (len1 cap1 : Nat) (w : World) (n1 : 64 ≤ n) (n2 : n ≤ 65536)
    (h1 : ∀ i, i < len1 → ∃ x K A B N V, a1 = some x ∧ Act5 w (x.add (i * 5)) K A B N V) :
    Calls Try.prog 3 #[.int .i64 n, .slice a1 len1 cap1] w fun e w' => e = .returned (.bool true) ∧ Below w.heap.size w w' := by
  have H1 := hideIt h1
  clear h1
  go_enter Try.func3, Try.ntmps3
  go_wp2_with fail
  refine (new_yes _ n n1 n2).mono ?_
  rintro e w1 ⟨p, b, rfl, hm1, hg1, hp, hb⟩
  go_wp2_with fail
  refine (rnew_yes _ n n1 n2).mono ?_
  rintro e w2 ⟨p', b', rfl, hr2, hg2, hp', hb'⟩
  have pl : p < w1.heap.size := (Array.getElem?_eq_some_iff.1 hm1.box).1
  have bl : b < w1.heap.size := hm1.row.lt
  have hm2 := hm1.keep hg2 (by simp) (by simp)
  have hB2 : Below w.heap.size w w2 := ((Below.refl w.heap.size w).grown hg1 (Nat.le_refl _) (by simp)).grown hg2 hg1.size (by simp)
  have ws : w.heap.size ≤ w1.heap.size := hg1.size
  go_wp2_with fail
  clear hm1 hg1 hg2
  generalize w1.heap.size = s at pl bl hp' hb' ws
  go_loopw [9] (fun i wr => ∃ (k : Nat) (f : Nat → Int), k ≤ 60 ∧ i = .int .i64 k ∧ MemAt wr p b n f ∧ RefAt wr p' b' n f ∧ Below w.heap.size w wr) (fun i _ => 60 - (intOf i).toNat)
  case atStart => exact ⟨0, fun _ => 0, by omega, rfl, hm2, hr2, hB2⟩
  case round =>
    obtain ⟨k, f, hk, rfl, hm, hr, hB⟩ := hrel
    by_cases c : k < len1 ∧ k < 60
    · obtain ⟨c1, c2⟩ := c
      obtain ⟨x, K, A, B, N, V, rfl, e0, e1, e2, e3, e4⟩ := H1.out k c1
      have e0 := argCell hB e0
      have e1 := argCell hB e1
      have e2 := argCell hB e2
      have e3 := argCell hB e3
      have e4 := argCell hB e4
      have hm0 := hm.keep (World.grownBy_alloc wr (.cells #[.int .i64 K, .int .i64 A, .int .i64 B, .int .i64 N, .int .u64 V] 32) none) (by simp) (by simp)
      have hr0 := hr.keep (World.grownBy_alloc wr (.cells #[.int .i64 K, .int .i64 A, .int .i64 B, .int .i64 N, .int .u64 V] 32) none) (by simp) (by simp)
      have hB0 := hB.alloc (o := .cells #[.int .i64 K, .int .i64 A, .int .i64 B, .int .i64 N, .int .u64 V] 32) hB.size
      have hO := Deep.blk_alloc_new wr (.cells #[.int .i64 K, .int .i64 A, .int .i64 B, .int .i64 N, .int .u64 V] 32)
      have pr : p < wr.heap.size := (Array.getElem?_eq_some_iff.1 hm.box).1
      have br : b < wr.heap.size := hm.row.lt
      have pr' : p' < wr.heap.size := (Array.getElem?_eq_some_iff.1 hr.box).1
      have br' : b' < wr.heap.size := hr.row.lt
      clear hm hr hB hm2 hr2 hB2
      by_cases k0 : K = 0
      · subst k0
        go_wp2_with fail
        refine (put_any _ p b n A V f hm0).mono ?_
        rintro e w3 ⟨rfl, hm3, hg3⟩
        have hr3 := hr0.keep hg3 (by simp; omega) (by simp; omega)
        have o3 := (hg3.block _ (Array.getElem?_eq_some_iff.1 hO).1 (by simp; omega)).trans hO
        have l3 := hg3.size
        have hB3 : Below w.heap.size w w3 := gbBelow hB0 hg3 (Nat.le_refl _) (fun k hk => by simp at hk; omega)
        obtain ⟨o30, o31, o32, o33, o34⟩ := fives o3
        go_wp2_with fail
        refine (rput_any _ p' b' n A V f hr3).mono ?_
        rintro e w4 ⟨rfl, hr4, hg4⟩
        have hm4 := hm3.keep hg4 (by simp; omega) (by simp; omega)
        have o4 := (hg4.block _ (Array.getElem?_eq_some_iff.1 o3).1 (by simp; omega)).trans o3
        have hB4 : Below w.heap.size w w4 := gbBelow hB3 hg4 (Nat.le_refl _) (fun k hk => by simp at hk; omega)
        obtain ⟨o40, o41, o42, o43, o44⟩ := fives o4
        go_wp2_with fail
        refine (get_any _ p b n B _ hm4).mono ?_
        rintro e w5 ⟨rfl, q5, rfl⟩
        go_wp2_with fail
        refine (rget_any _ p' b' n B _ (hr4.drewN q5)).mono ?_
        rintro e w6 ⟨rfl, q6, rfl⟩
        go_wp2
        go_roundw
        case rel => exact ⟨k + 1, _, by omega, by go_num, hm4.drewN _, hr4.drewN _, gbBelow hB4 (gbDrewN _ _ none) (Nat.le_refl _) (by simp)⟩
        case measure => simp [intOf]; omega
      by_cases k1 : K = 1
      · subst k1
        go_wp2_with fail
        refine (zero_any _ p b n A N f hm0).mono ?_
        rintro e w3 ⟨rfl, hm3, hg3⟩
        have hr3 := hr0.keep hg3 (by simp; omega) (by simp; omega)
        have o3 := (hg3.block _ (Array.getElem?_eq_some_iff.1 hO).1 (by simp; omega)).trans hO
        have l3 := hg3.size
        have hB3 : Below w.heap.size w w3 := gbBelow hB0 hg3 (Nat.le_refl _) (fun k hk => by simp at hk; omega)
        obtain ⟨o30, o31, o32, o33, o34⟩ := fives o3
        go_wp2_with fail
        refine (rzero_any _ p' b' n A N f hr3).mono ?_
        rintro e w4 ⟨rfl, hr4, hg4⟩
        have hm4 := hm3.keep hg4 (by simp; omega) (by simp; omega)
        have o4 := (hg4.block _ (Array.getElem?_eq_some_iff.1 o3).1 (by simp; omega)).trans o3
        have hB4 : Below w.heap.size w w4 := gbBelow hB3 hg4 (Nat.le_refl _) (fun k hk => by simp at hk; omega)
        obtain ⟨o40, o41, o42, o43, o44⟩ := fives o4
        go_wp2_with fail
        refine (get_any _ p b n B _ hm4).mono ?_
        rintro e w5 ⟨rfl, q5, rfl⟩
        go_wp2_with fail
        refine (rget_any _ p' b' n B _ (hr4.drewN q5)).mono ?_
        rintro e w6 ⟨rfl, q6, rfl⟩
        go_wp2
        go_roundw
        case rel => exact ⟨k + 1, _, by omega, by go_num, hm4.drewN _, hr4.drewN _, gbBelow hB4 (gbDrewN _ _ none) (Nat.le_refl _) (by simp)⟩
        case measure => simp [intOf]; omega
      by_cases k2 : K = 2
      · subst k2
        go_wp2_with fail
        refine (copy_any _ p b n A B N f hm0).mono ?_
        rintro e w3 ⟨rfl, hm3, hg3⟩
        have hr3 := hr0.keep hg3 (by simp; omega) (by simp; omega)
        have o3 := (hg3.block _ (Array.getElem?_eq_some_iff.1 hO).1 (by simp; omega)).trans hO
        have l3 := hg3.size
        have hB3 : Below w.heap.size w w3 := gbBelow hB0 hg3 (Nat.le_refl _) (fun k hk => by simp at hk; omega)
        obtain ⟨o30, o31, o32, o33, o34⟩ := fives o3
        go_wp2_with fail
        refine (rcopy_any _ p' b' n A B N f hr3).mono ?_
        rintro e w4 ⟨rfl, hr4, hg4⟩
        have hm4 := hm3.keep hg4 (by simp; omega) (by simp; omega)
        have o4 := (hg4.block _ (Array.getElem?_eq_some_iff.1 o3).1 (by simp; omega)).trans o3
        have hB4 : Below w.heap.size w w4 := gbBelow hB3 hg4 (Nat.le_refl _) (fun k hk => by simp at hk; omega)
        obtain ⟨o40, o41, o42, o43, o44⟩ := fives o4
        go_wp2_with fail
        refine (get_any _ p b n B _ hm4).mono ?_
        rintro e w5 ⟨rfl, q5, rfl⟩
        go_wp2_with fail
        refine (rget_any _ p' b' n B _ (hr4.drewN q5)).mono ?_
        rintro e w6 ⟨rfl, q6, rfl⟩
        go_wp2
        go_roundw
        case rel => exact ⟨k + 1, _, by omega, by go_num, hm4.drewN _, hr4.drewN _, gbBelow hB4 (gbDrewN _ _ none) (Nat.le_refl _) (by simp)⟩
        case measure => simp [intOf]; omega
      · go_wp2_with fail
        refine (read_any _ p b n A N f hm0).mono ?_
        rintro e w3 ⟨v3, rfl, hs3, ⟨x3, y3, z3, rfl⟩, hg3⟩
        have hm3 := hm0.keep hg3 (by simp) (by simp)
        have hr3 := hr0.keep hg3 (by simp) (by simp)
        have o3 := (hg3.block _ (Array.getElem?_eq_some_iff.1 hO).1 (by simp)).trans hO
        have hB3 : Below w.heap.size w w3 := gbBelow hB0 hg3 (Nat.le_refl _) (by simp)
        obtain ⟨o30, o31, o32, o33, o34⟩ := fives o3
        go_wp2_with fail
        refine (rread_any _ p' b' n A N f hr3).mono ?_
        rintro e w4 ⟨v4, rfl, hs4, ⟨x4, y4, z4, rfl⟩, hg4⟩
        have hm4 := hm3.keep hg4 (by simp) (by simp)
        have hr4 := hr3.keep hg4 (by simp) (by simp)
        have o4 := (hg4.block _ (Array.getElem?_eq_some_iff.1 o3).1 (by simp)).trans o3
        have hB4 : Below w.heap.size w w4 := gbBelow hB3 hg4 (Nat.le_refl _) (by simp)
        have hs3 := hs3.keep hg4
        go_wp2_with fail
        refine (same_sl _ _ _ _ _ _ hs3 hs4 (fun _ _ => rfl)).mono ?_
        rintro e w5 ⟨rfl, q4, rfl⟩
        obtain ⟨o40, o41, o42, o43, o44⟩ := fives o4
        have hm5 := hm4.drewN q4
        have hr5 := hr4.drewN q4
        have hB5 : Below w.heap.size w (w4.drewN q4) := gbBelow hB4 (gbDrewN _ q4 none) (Nat.le_refl _) (by simp)
        go_wp2_with fail
        refine (get_any _ p b n B _ hm5).mono ?_
        rintro e w5 ⟨rfl, q5, rfl⟩
        go_wp2_with fail
        refine (rget_any _ p' b' n B _ (hr4.drewN _)).mono ?_
        rintro e w6 ⟨rfl, q6, rfl⟩
        go_wp2
        go_roundw
        case rel => exact ⟨k + 1, _, by omega, by go_num, hm4.drewN _, hr4.drewN _, gbBelow hB4 (gbDrewN _ _ none) (Nat.le_refl _) (by simp)⟩
        case measure => simp [intOf]; omega
    · have hc' := hr.cell
      rcases (show ¬ k < len1 ∨ (k < len1 ∧ ¬ k < 60) by omega) with c1 | ⟨c1, c2⟩
      all_goals
        clear c
        go_wp2_with fail
        refine (read_yes _ p b n 0 n f hm (by omega)).mono ?_
        rintro e w3 ⟨g3, rfl, hr3, hg3, _⟩
        have hm3 := hm.keep hg3 (by simp) (by simp)
        have hc3 := hm3.cell
        have hq3 := hr.keep hg3 (by simp) (by simp)
        have hc4 := hq3.cell
        go_wp2_with fail
        refine (size_any _ p b n hc3).mono ?_
        rintro e w4 ⟨rfl, rfl⟩
        go_wp2_with fail
        refine (same_sl _ _ _ n _ f (Sl.ofRow hr3 n2) (Sl.ofRow hq3.row n2) (fun i _ => by rw [Nat.zero_add])).mono ?_
        rintro e w5 ⟨rfl, q, rfl⟩
        go_wp2
        go_ret
        exact ⟨rfl, gbBelow (gbBelow hB hg3 (Nat.le_refl _) (by simp)) (gbDrewN _ q none) (Nat.le_refl _) (by simp)⟩

set_option maxRecDepth 10000 in
set_option maxHeartbeats 2000000 in
theorem refused (n : Int) (a1 : Option Addr) (len1 cap1 : Nat) (w : World) (h : ¬ (64 ≤ n ∧ n ≤ 65536)) :
    Calls Try.prog 3 #[.int .i64 n, .slice a1 len1 cap1] w fun e w' => e = .returned (.bool true) ∧ Below w.heap.size w w' := by
  have H := hideIt h
  clear h
  go_enter Try.func3, Try.ntmps3
  go_wp2_with fail
  refine (new_no _ n H.out).mono ?_
  rintro e w1 ⟨rfl, rfl⟩
  go_wp2_with fail
  refine (rnew_no _ n H.out).mono ?_
  rintro e w2 ⟨rfl, rfl⟩
  go_wp2
  go_ret
  exact ⟨rfl, Below.refl _ _⟩

end Go.Proofs.Ytllglnomokebcaa.memDoes
