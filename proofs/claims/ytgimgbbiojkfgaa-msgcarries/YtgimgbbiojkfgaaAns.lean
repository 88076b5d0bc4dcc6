/-
  THE CONTRACT of package msg's Answer.
-/
import Derived.Test.YtgimgbbiojkfgaaArr
namespace Go.Proofs.Ytgimgbbiojkfgaa
set_option maxRecDepth 10000
open Go.RowKit
set_option linter.unusedVariables false

set_option maxHeartbeats 1000000 in
theorem answer_is (f V : Nat → Nat) (e : Int) (E : Nat) (hE : IntKind.u64.wrap e = (E : Int)) (x : Option Addr) (len cap k : Nat) (hk : Nat.min len 4 = k) (w : World) (L : Wl w x len V) :
    Calls Try.prog 16 #[rv f, .int .i64 e, .slice x len cap] w fun r w' => r = .returned (rv (cp (upd f 0 E) V k)) ∧ w.grownBy w' none := by
  have k4 : k ≤ 4 := hk ▸ Nat.min_le_right _ _
  have kl : k ≤ len := hk ▸ Nat.min_le_left _ _
  go_enter Try.func16, Try.ntmps16
  go_upto_region 1 with fail
  obtain ⟨W1, e1, A, g1, s1⟩ := arrNew w f 38
  rw [e1]
  clear e1
  obtain ⟨W2, e2, B, g2, s2⟩ := arrZero W1 38
  rw [e2]
  clear e2
  rw [s1] at B
  replace A := A.kept g2
  have G := gbTrans g1 g2
  clear g1 g2 s1 s2
  have a0 := A.eight.at0
  have af := A.fr 0
  go_upto_region 2 with fail
  obtain ⟨W3, e3, A3, g3⟩ : ∃ W, W2.setCell ⟨w.heap.size, 0, none⟩ (.int .u64 (E : Int)) = W ∧ RA W w.heap.size 38 (upd f 0 E) ∧ W2.grownBy W (some w.heap.size) := ⟨_, rfl, A.set 0 E, gbSetCell _ _ _ _⟩
  rw [e3]
  clear e3 a0 af A
  replace B := B.keep g3 (by simp)
  replace G := gbNew (gbTrans (gbAny G _) g3) (Nat.le_refl _)
  obtain ⟨W4, hrun, A4, g4⟩ := run_copy8 W3 3 w.heap.size 4 7 len cap k x 38 (upd f 0 E) V A3 hk (by omega) (fun j hj => by obtain ⟨y, h1, h2, _⟩ := (L.kept G) j (by omega); exact ⟨y, h1, h2⟩)
  go_upto_region 3 with fail
  replace B := B.keep g4 (by simp)
  replace G := gbNew (gbTrans (gbAny G _) g4) (Nat.le_refl _)
  clear hrun g3 g4 A3 L hE
  obtain ⟨h, hh⟩ : ∃ h, h = cp (upd f 0 E) V k := ⟨_, rfl⟩
  rw [← hh] at A4
  replace hh := hideIt hh
  obtain ⟨a0, a1, a2, a3, a4, a5, a6, a7⟩ := A4.eight
  obtain ⟨b0, b1, b2, b3, b4, b5, b6, b7⟩ := B.eight
  have bf := B.fr
  clear A4 B
  go_wp2
  exact bodyPost_ret (v := rv h) (by simp [results, Try.results16, go_sem, b0, b1, b2, b3, b4, b5, b6, b7]) rfl ⟨by rw [hh.out], by repeat (first | with_reducible exact G | refine gbSetNew ?_ _ _ _ (by omega))⟩
end Go.Proofs.Ytgimgbbiojkfgaa
