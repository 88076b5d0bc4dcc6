/- ThreadRight (20.3): whatever is done with right threads, what comes of it is right, and has the level, the domain and the place in its code that it had. For every input; no condition. -/
import Derived.Test.YtaojiojbpkldkaaRig
import Derived.Deep.Cut
import Derived.Deep.DeepCutAuto
import Derived.Deep.CutBlock
import Derived.Deep.CutRange
import Derived.Deep.LoopGhost
import Derived.Deep.RegionHeld3
import Derived.Test.YtaojiojbpkldkaaArgs
import Derived.ProofKit
import Derived.OpenShut
import Derived.ShutString
import Derived.ChangeOld
import Derived.Below
import Derived.Deep.Slices
namespace Go.Proofs.Ytaojiojbpkldkaa.threadRight
open Go.ChangeShapes Go.WideShapes Go.ChangeAt Go.RowKit
set_option linter.unusedVariables false

theorem own : ownKnob Try.prog.godebug = none := by kernel_rfl
theorem laidOut : laidOutB Try.prog = true := by kernel_rfl

theorem cellAside {w w' : World} {a : Addr} {v : Value} {y : Nat} (h : w.cell? a = some v) (g : w.grownBy w' (some y)) (l : a.block ≠ y) : w'.cell? a = some v :=
  g.cell h (by simpa using l)

set_option maxHeartbeats 4000000 in
set_option maxRecDepth 100000 in
theorem core (a0 a1 : Int) (x : Option Addr) (len cap : Nat) (xk : Option Addr) (lenk capk : Nat) (U0 U1 L D : Nat) (w : World)
    (p0 : IntKind.u64.wrap a0 = (U0 : Int)) (q0 : (U0 : Int) % 8 = (L : Int)) (hL : L < 8) (p1 : IntKind.u64.wrap a1 = (U1 : Int)) (q1 : (U1 : Int) % 4 = (D : Int)) (hD : D < 4)
    (H1 : ∀ w, Calls Try.prog 8 #[.int .i64 (L : Int), .int .i64 (D : Int)] w fun e w' => e = .returned (.tuple #[.agg (tc (tn L D)), .int .i64 0]) ∧ w.grownBy w' none)
    (hx : ∀ i, i < len → ∃ y q, x = some y ∧ El7 w (y.add (i * 7)) q ∧ q.b < 18446744073709551616)
    (hk : ∀ i, i < lenk → ∃ (y : Addr) (z : Int), xk = some y ∧ w.cell? (y.add i) = some (.int .i64 z)) :
    Calls Try.prog 3 #[.int .i64 a0, .int .i64 a1, .slice x len cap, .slice xk lenk capk] w fun e w' => e = .returned (.bool true) ∧ w.grownBy w' none := by
  have G := gbRefl w none
  replace hx := hideIt hx
  replace hk := hideIt hk
  have R0 := hideIt (tn77 L D hL hD)
  go_enter Try.func3, Try.ntmps3
  go_wp2_with fail
  refine (works_is _).mono ?_
  rintro e w0 ⟨rfl, g0⟩
  replace G := gbTrans G g0
  clear g0
  go_wp2_with fail
  refine (H1 _).mono ?_
  rintro e w1 ⟨rfl, g1⟩
  replace G := gbTrans G g1
  clear g1
  go_upto_region 4 with (first | (refine wpList_allocT rfl rfl ?_; intro V1 x1 X1 k1 l1) | (refine wpList_storeT rfl _ _ rfl rfl rfl X1 ?_; intro W1 B h1))
  have lx : w.heap.size ≤ x1 := Nat.le_trans G.size l1
  replace G := gbMade G k1 l1 h1
  clear k1 l1 h1 X1 p0 q0 p1 q1 H1
  have c7 := B.eight.at7
  have cf := B.fr
  go_upto_region 7 with fail
  obtain ⟨W2, e2, B2, g2⟩ := B.set7 77
  rw [e2]
  clear e2 c7 cf B
  replace G := gbNew (gbTrans (gbAny G _) g2) lx
  clear g2 hL hD
  go_wp2_with fail
  go_loopg [11] 50 (fun gk i wr => ∃ (j : Nat) (t : T), j + gk = 50 ∧ i = .int .i64 j ∧ w.grownBy wr none ∧ Hid (TB wr x1 t) ∧ Hid (Right t ∧ t.p = 77))
  case atStart => exact ⟨0, _, rfl, rfl, G, hideIt B2, hideIt ⟨R0.out, rfl⟩⟩
  case round =>
    clear B2 G R0
    obtain ⟨j, t, hj, rfl, G, B, R⟩ := hrel
    by_cases hlt : j < len ∧ j < lenk ∧ j < 50
    · obtain ⟨c1, c2, c3⟩ := hlt
      obtain ⟨y, q, rfl, E, uq⟩ := hx.out j c1
      obtain ⟨yk, z, rfl, hz⟩ := hk.out j c2
      have Ew := hideIt E
      replace E := hideIt (E.kept G)
      replace hz := cellKept hz G
      obtain ⟨U5, n, p5, q5, n5⟩ := mod5 z
      have hd1 : decide ((j : Int) < (len : Int)) = true := by simp; omega
      have hd2 : decide ((j : Int) < (lenk : Int)) = true := by simp; omega
      have hd3 : decide ((j : Int) < 50) = true := by simp; omega
      replace B := B.out
      go_upto_region 11 with (refine wpList_allocT rfl rfl ?_; intro W2 x2 X k2 l2)
      have xy : x1 ≠ x2 := apartT B l2
      have ly : w.heap.size ≤ x2 := Nat.le_trans G.size l2
      have lE : (y.add (j * 7)).block ≠ x2 := by
        have h := E.out.at0
        unfold World.cell? at h
        by_cases c : (y.add (j * 7)).block < wr.heap.size
        · omega
        · rw [Array.getElem?_eq_none (by omega)] at h; simp at h
      replace B := B.kept k2
      replace G := gbTrans G k2
      replace E := hideIt (E.out.kept k2)
      replace hz := cellKept hz k2
      clear k2 l2
      go_upto_block 2 with fail
      clear p5 q5 hz
      have B0 := hideIt B
      have X0 := hideIt X
      have R1 := R.out.1
      have ub := R1.b64
      go_cut [10] from 53 to 110 (fun s wc => ∃ (u : T) (v : Int), s = .int .i64 v ∧ Hid (TB wc x1 t) ∧ Hid (TB wc x2 u) ∧ w.grownBy wc none ∧ Hid (Fine t u v))
      case first =>
        clear B0 X0 hx hk
        have n5' : n = 0 ∨ n = 1 ∨ n = 2 ∨ n = 3 ∨ n = 4 := by omega
        clear n5
        rcases n5' with rfl | rfl | rfl | rfl | rfl
        · obtain ⟨u, v, h, F⟩ := fine_st R1
          replace F := hideIt F
          have H := start_is t u v ub h
          clear h R1 E
          go_wp2_with (refine wpList_loadT rfl _ rfl rfl B ?_)
          refine (H _).mono ?_
          rintro e w5 ⟨rfl, g5⟩
          replace G := gbTrans G g5
          replace B := B.kept g5
          replace X := X.kept g5
          clear g5
          go_wp2_with (refine wpList_storeT rfl _ _ rfl rfl rfl X ?_; intro W7 X7 h7)
          go_meet
          exact ⟨u, v, rfl, hideIt (B.aside h7 xy), hideIt X7, gbNew (gbTrans (gbAny G _) h7) ly, F⟩
        · have F := hideIt (fine_sp R1)
          have H := stop_is t _ rfl
          clear R1 E
          go_wp2_with (refine wpList_loadT rfl _ rfl rfl B ?_)
          refine (H _).mono ?_
          rintro e w5 ⟨rfl, g5⟩
          replace G := gbTrans G g5
          replace B := B.kept g5
          replace X := X.kept g5
          clear g5
          go_wp2_with (refine wpList_storeT rfl _ _ rfl rfl rfl X ?_; intro W7 X7 h7)
          go_meet
          exact ⟨M.sp t, 0, rfl, hideIt (B.aside h7 xy), hideIt X7, gbNew (gbTrans (gbAny G _) h7) ly, F⟩
        · obtain ⟨u, v, h, F⟩ := fine_bl R1 q.s q.o q.b q.c
          replace F := hideIt F
          have H := block_is t u q.s q.o q.b q.c v ub uq h
          obtain ⟨c0, c1', c2', c3', _⟩ := E.out
          have l0 := lE
          have l1 : (⟨(y.add (j * 7)).block, (y.add (j * 7)).off + 1, none⟩ : Addr).block ≠ x2 := lE
          have l2 : (⟨(y.add (j * 7)).block, (y.add (j * 7)).off + 2, none⟩ : Addr).block ≠ x2 := lE
          have l3 : (⟨(y.add (j * 7)).block, (y.add (j * 7)).off + 3, none⟩ : Addr).block ≠ x2 := lE
          clear h R1 E
          go_upto_region 19 with fail
          have g := gbDrew (gbRefl W2 none)
          refine wp_region_noPanic ?_
          refine wp_region_held_drew (S := fun w' => TB w' x1 t ∧ w'.cell? (y.add (j * 7)) = some (.int .i64 q.s) ∧ w'.cell? ⟨(y.add (j * 7)).block, (y.add (j * 7)).off + 1, none⟩ = some (.int .i64 q.o) ∧ w'.cell? ⟨(y.add (j * 7)).block, (y.add (j * 7)).off + 2, none⟩ = some (.int .u64 (q.b : Int)) ∧ w'.cell? ⟨(y.add (j * 7)).block, (y.add (j * 7)).off + 3, none⟩ = some (.bool q.c)) (by as_aux_lemma => kernel_rfl) (⟨B.kept g, cellKept c0 g, cellKept c1' g, cellKept c2' g, cellKept c3' g⟩) (fun hHeld => ?_)
          clear g
          refine wpAnyH_take (i := 0) (v := .agg (tc t)) (OpAt.arr (OpAt.head)) (by as_aux_lemma => kernel_rfl) (by as_aux_lemma => kernel_rfl) (by as_aux_lemma => kernel_rfl) (fun _ _ _ h => h) (Or.inl ⟨by rfl, fun w h => exec_loadT rfl rfl h.1⟩) (by assumption) ?are0
          try simp only [Act.put, List.setIfInBounds_toArray, List.set_cons_zero, List.set_cons_succ]
          refine wpAnyH_take (i := 1) (v := ?av1) (OpAt.arr (OpAt.tail (OpAt.head))) (by as_aux_lemma => kernel_rfl) (by as_aux_lemma => kernel_rfl) (by as_aux_lemma => kernel_rfl) (fun _ _ _ h => h) (Or.inl ⟨by rfl, ?ahy1⟩) (by assumption) ?are1
          case ahy1 => (intro w hSw; (try dsimp only at hSw); go_simp; (try with_reducible rfl))
          try simp only [Act.put, List.setIfInBounds_toArray, List.set_cons_zero, List.set_cons_succ]
          refine wpAnyH_take (i := 2) (v := ?av2) (OpAt.arr (OpAt.tail (OpAt.tail (OpAt.head)))) (by as_aux_lemma => kernel_rfl) (by as_aux_lemma => kernel_rfl) (by as_aux_lemma => kernel_rfl) (fun _ _ _ h => h) (Or.inl ⟨by rfl, ?ahy2⟩) (by assumption) ?are2
          case ahy2 => (intro w hSw; (try dsimp only at hSw); go_simp; (try with_reducible rfl))
          try simp only [Act.put, List.setIfInBounds_toArray, List.set_cons_zero, List.set_cons_succ]
          refine wpAnyH_take (i := 3) (v := ?av3) (OpAt.arr (OpAt.tail (OpAt.tail (OpAt.tail (OpAt.head))))) (by as_aux_lemma => kernel_rfl) (by as_aux_lemma => kernel_rfl) (by as_aux_lemma => kernel_rfl) (fun _ _ _ h => h) (Or.inl ⟨by rfl, ?ahy3⟩) (by assumption) ?are3
          case ahy3 => (intro w hSw; (try dsimp only at hSw); go_simp; (try with_reducible rfl))
          try simp only [Act.put, List.setIfInBounds_toArray, List.set_cons_zero, List.set_cons_succ]
          refine wpAnyH_take (i := 4) (v := ?av4) (OpAt.arr (OpAt.tail (OpAt.tail (OpAt.tail (OpAt.tail (OpAt.head)))))) (by as_aux_lemma => kernel_rfl) (by as_aux_lemma => kernel_rfl) (by as_aux_lemma => kernel_rfl) (fun _ _ _ h => h) (Or.inl ⟨by rfl, ?ahy4⟩) (by assumption) ?are4
          case ahy4 => (intro w hSw; (try dsimp only at hSw); go_simp; (try with_reducible rfl))
          try simp only [Act.put, List.setIfInBounds_toArray, List.set_cons_zero, List.set_cons_succ]
          refine wpAnyH_take (i := 5) (v := ?av5) (OpAt.arr (OpAt.tail (OpAt.tail (OpAt.tail (OpAt.tail (OpAt.tail (OpAt.head))))))) (by as_aux_lemma => kernel_rfl) (by as_aux_lemma => kernel_rfl) (by as_aux_lemma => kernel_rfl) (fun _ _ _ h => h) (Or.inl ⟨by rfl, ?ahy5⟩) (by assumption) ?are5
          case ahy5 => (intro w hSw; (try dsimp only at hSw); go_simp; (try with_reducible rfl))
          try simp only [Act.put, List.setIfInBounds_toArray, List.set_cons_zero, List.set_cons_succ]
          refine wpAnyH_take (i := 6) (v := ?av6) (OpAt.arr (OpAt.tail (OpAt.tail (OpAt.tail (OpAt.tail (OpAt.tail (OpAt.tail (OpAt.head)))))))) (by as_aux_lemma => kernel_rfl) (by as_aux_lemma => kernel_rfl) (by as_aux_lemma => kernel_rfl) (fun _ _ _ h => h) (Or.inl ⟨by rfl, ?ahy6⟩) (by assumption) ?are6
          case ahy6 => (intro w hSw; (try dsimp only at hSw); go_simp; (try with_reducible rfl))
          try simp only [Act.put, List.setIfInBounds_toArray, List.set_cons_zero, List.set_cons_succ]
          refine wpAnyH_take (i := 7) (v := ?av7) (OpAt.arr (OpAt.tail (OpAt.tail (OpAt.tail (OpAt.tail (OpAt.tail (OpAt.tail (OpAt.tail (OpAt.head))))))))) (by as_aux_lemma => kernel_rfl) (by as_aux_lemma => kernel_rfl) (by as_aux_lemma => kernel_rfl) (fun _ _ _ h => h) (Or.inl ⟨by rfl, ?ahy7⟩) (by assumption) ?are7
          case ahy7 => (intro w hSw; (try dsimp only at hSw); go_simp; (try with_reducible rfl))
          try simp only [Act.put, List.setIfInBounds_toArray, List.set_cons_zero, List.set_cons_succ]
          refine wpAnyH_take (i := 8) (v := ?av8) (OpAt.arr (OpAt.tail (OpAt.tail (OpAt.tail (OpAt.tail (OpAt.tail (OpAt.tail (OpAt.tail (OpAt.tail (OpAt.head)))))))))) (by as_aux_lemma => kernel_rfl) (by as_aux_lemma => kernel_rfl) (by as_aux_lemma => kernel_rfl) (fun _ _ _ h => h) (Or.inl ⟨by rfl, ?ahy8⟩) (by assumption) ?are8
          case ahy8 => (intro w hSw; (try dsimp only at hSw); go_simp; (try with_reducible rfl))
          try simp only [Act.put, List.setIfInBounds_toArray, List.set_cons_zero, List.set_cons_succ]
          refine wpAnyH_take (i := 9) (v := ?av9) (OpAt.arr (OpAt.tail (OpAt.tail (OpAt.tail (OpAt.tail (OpAt.tail (OpAt.tail (OpAt.tail (OpAt.tail (OpAt.tail (OpAt.head))))))))))) (by as_aux_lemma => kernel_rfl) (by as_aux_lemma => kernel_rfl) (by as_aux_lemma => kernel_rfl) (fun _ _ _ h => h) (Or.inl ⟨by rfl, ?ahy9⟩) (by assumption) ?are9
          case ahy9 => (intro w hSw; (try dsimp only at hSw); go_simp; (try with_reducible rfl))
          try simp only [Act.put, List.setIfInBounds_toArray, List.set_cons_zero, List.set_cons_succ]
          refine wpAnyH_take (i := 10) (v := ?av10) (OpAt.arr (OpAt.tail (OpAt.tail (OpAt.tail (OpAt.tail (OpAt.tail (OpAt.tail (OpAt.tail (OpAt.tail (OpAt.tail (OpAt.tail (OpAt.head)))))))))))) (by as_aux_lemma => kernel_rfl) (by as_aux_lemma => kernel_rfl) (by as_aux_lemma => kernel_rfl) (fun _ _ _ h => h) (Or.inl ⟨by rfl, ?ahy10⟩) (by assumption) ?are10
          case ahy10 => (intro w hSw; (try dsimp only at hSw); go_simp; (try with_reducible rfl))
          try simp only [Act.put, List.setIfInBounds_toArray, List.set_cons_zero, List.set_cons_succ]
          refine wpAnyH_take (i := 11) (v := ?av11) (OpAt.arr (OpAt.tail (OpAt.tail (OpAt.tail (OpAt.tail (OpAt.tail (OpAt.tail (OpAt.tail (OpAt.tail (OpAt.tail (OpAt.tail (OpAt.tail (OpAt.head))))))))))))) (by as_aux_lemma => kernel_rfl) (by as_aux_lemma => kernel_rfl) (by as_aux_lemma => kernel_rfl) (fun _ _ _ h => h) (Or.inl ⟨by rfl, ?ahy11⟩) (by assumption) ?are11
          case ahy11 => (intro w hSw; (try dsimp only at hSw); go_simp; (try with_reducible rfl))
          try simp only [Act.put, List.setIfInBounds_toArray, List.set_cons_zero, List.set_cons_succ]
          refine wpAnyH_take (i := 12) (v := ?av12) (OpAt.arr (OpAt.tail (OpAt.tail (OpAt.tail (OpAt.tail (OpAt.tail (OpAt.tail (OpAt.tail (OpAt.tail (OpAt.tail (OpAt.tail (OpAt.tail (OpAt.tail (OpAt.head)))))))))))))) (by as_aux_lemma => kernel_rfl) (by as_aux_lemma => kernel_rfl) (by as_aux_lemma => kernel_rfl) (fun _ _ _ h => h) (Or.inl ⟨by rfl, ?ahy12⟩) (by assumption) ?are12
          case ahy12 => (intro w hSw; (try dsimp only at hSw); go_simp; (try with_reducible rfl))
          try simp only [Act.put, List.setIfInBounds_toArray, List.set_cons_zero, List.set_cons_succ]
          refine wpAnyH_take (i := 13) (v := ?av13) (OpAt.arr (OpAt.tail (OpAt.tail (OpAt.tail (OpAt.tail (OpAt.tail (OpAt.tail (OpAt.tail (OpAt.tail (OpAt.tail (OpAt.tail (OpAt.tail (OpAt.tail (OpAt.tail (OpAt.head))))))))))))))) (by as_aux_lemma => kernel_rfl) (by as_aux_lemma => kernel_rfl) (by as_aux_lemma => kernel_rfl) (fun _ _ _ h => h) (Or.inl ⟨by rfl, ?ahy13⟩) (by assumption) ?are13
          case ahy13 => (intro w hSw; (try dsimp only at hSw); go_simp; (try with_reducible rfl))
          try simp only [Act.put, List.setIfInBounds_toArray, List.set_cons_zero, List.set_cons_succ]
          refine wpAnyH_take (i := 14) (v := ?av14) (OpAt.arr (OpAt.tail (OpAt.tail (OpAt.tail (OpAt.tail (OpAt.tail (OpAt.tail (OpAt.tail (OpAt.tail (OpAt.tail (OpAt.tail (OpAt.tail (OpAt.tail (OpAt.tail (OpAt.tail (OpAt.head)))))))))))))))) (by as_aux_lemma => kernel_rfl) (by as_aux_lemma => kernel_rfl) (by as_aux_lemma => kernel_rfl) (fun _ _ _ h => h) (Or.inl ⟨by rfl, ?ahy14⟩) (by assumption) ?are14
          case ahy14 => (intro w hSw; (try dsimp only at hSw); go_simp; (try with_reducible rfl))
          try simp only [Act.put, List.setIfInBounds_toArray, List.set_cons_zero, List.set_cons_succ]
          refine wpAnyH_take (i := 15) (v := ?av15) (OpAt.arr (OpAt.tail (OpAt.tail (OpAt.tail (OpAt.tail (OpAt.tail (OpAt.tail (OpAt.tail (OpAt.tail (OpAt.tail (OpAt.tail (OpAt.tail (OpAt.tail (OpAt.tail (OpAt.tail (OpAt.tail (OpAt.head))))))))))))))))) (by as_aux_lemma => kernel_rfl) (by as_aux_lemma => kernel_rfl) (by as_aux_lemma => kernel_rfl) (fun _ _ _ h => h) (Or.inl ⟨by rfl, ?ahy15⟩) (by assumption) ?are15
          case ahy15 => (intro w hSw; (try dsimp only at hSw); go_simp; (try with_reducible rfl))
          try simp only [Act.put, List.setIfInBounds_toArray, List.set_cons_zero, List.set_cons_succ]
          refine wpAnyH_take (i := 16) (v := ?av16) (OpAt.arr (OpAt.tail (OpAt.tail (OpAt.tail (OpAt.tail (OpAt.tail (OpAt.tail (OpAt.tail (OpAt.tail (OpAt.tail (OpAt.tail (OpAt.tail (OpAt.tail (OpAt.tail (OpAt.tail (OpAt.tail (OpAt.tail (OpAt.head)))))))))))))))))) (by as_aux_lemma => kernel_rfl) (by as_aux_lemma => kernel_rfl) (by as_aux_lemma => kernel_rfl) (fun _ _ _ h => h) (Or.inl ⟨by rfl, ?ahy16⟩) (by assumption) ?are16
          case ahy16 => (intro w hSw; (try dsimp only at hSw); go_simp; (try with_reducible rfl))
          try simp only [Act.put, List.setIfInBounds_toArray, List.set_cons_zero, List.set_cons_succ]
          refine wpAnyH_take (i := 17) (v := ?av17) (OpAt.arr (OpAt.tail (OpAt.tail (OpAt.tail (OpAt.tail (OpAt.tail (OpAt.tail (OpAt.tail (OpAt.tail (OpAt.tail (OpAt.tail (OpAt.tail (OpAt.tail (OpAt.tail (OpAt.tail (OpAt.tail (OpAt.tail (OpAt.tail (OpAt.head))))))))))))))))))) (by as_aux_lemma => kernel_rfl) (by as_aux_lemma => kernel_rfl) (by as_aux_lemma => kernel_rfl) (fun _ _ _ h => h) (Or.inl ⟨by rfl, ?ahy17⟩) (by assumption) ?are17
          case ahy17 => (intro w hSw; (try dsimp only at hSw); go_simp; (try with_reducible rfl))
          try simp only [Act.put, List.setIfInBounds_toArray, List.set_cons_zero, List.set_cons_succ]
          refine wpAnyH_take (i := 18) (v := ?av18) (OpAt.arr (OpAt.tail (OpAt.tail (OpAt.tail (OpAt.tail (OpAt.tail (OpAt.tail (OpAt.tail (OpAt.tail (OpAt.tail (OpAt.tail (OpAt.tail (OpAt.tail (OpAt.tail (OpAt.tail (OpAt.tail (OpAt.tail (OpAt.tail (OpAt.tail (OpAt.head)))))))))))))))))))) (by as_aux_lemma => kernel_rfl) (by as_aux_lemma => kernel_rfl) (by as_aux_lemma => kernel_rfl) (fun _ _ _ h => h) (Or.inl ⟨by rfl, ?ahy18⟩) (by assumption) ?are18
          case ahy18 => (intro w hSw; (try dsimp only at hSw); go_simp; (try with_reducible rfl))
          try simp only [Act.put, List.setIfInBounds_toArray, List.set_cons_zero, List.set_cons_succ]
          refine wpAnyH_take (i := 19) (v := ?av19) (OpAt.arr (OpAt.tail (OpAt.tail (OpAt.tail (OpAt.tail (OpAt.tail (OpAt.tail (OpAt.tail (OpAt.tail (OpAt.tail (OpAt.tail (OpAt.tail (OpAt.tail (OpAt.tail (OpAt.tail (OpAt.tail (OpAt.tail (OpAt.tail (OpAt.tail (OpAt.tail (OpAt.head))))))))))))))))))))) (by as_aux_lemma => kernel_rfl) (by as_aux_lemma => kernel_rfl) (by as_aux_lemma => kernel_rfl) (fun _ _ _ h => h) (Or.inl ⟨by rfl, ?ahy19⟩) (by assumption) ?are19
          case ahy19 => (intro w hSw; (try dsimp only at hSw); go_simp; (try with_reducible rfl))
          try simp only [Act.put, List.setIfInBounds_toArray, List.set_cons_zero, List.set_cons_succ]
          refine wpAnyH_take (i := 20) (v := ?av20) (OpAt.arr (OpAt.tail (OpAt.tail (OpAt.tail (OpAt.tail (OpAt.tail (OpAt.tail (OpAt.tail (OpAt.tail (OpAt.tail (OpAt.tail (OpAt.tail (OpAt.tail (OpAt.tail (OpAt.tail (OpAt.tail (OpAt.tail (OpAt.tail (OpAt.tail (OpAt.tail (OpAt.tail (OpAt.head)))))))))))))))))))))) (by as_aux_lemma => kernel_rfl) (by as_aux_lemma => kernel_rfl) (by as_aux_lemma => kernel_rfl) (fun _ _ _ h => h) (Or.inl ⟨by rfl, ?ahy20⟩) (by assumption) ?are20
          case ahy20 => (intro w hSw; (try dsimp only at hSw); go_simp; (try with_reducible rfl))
          try simp only [Act.put, List.setIfInBounds_toArray, List.set_cons_zero, List.set_cons_succ]
          refine wpAnyH_ready (rs := [21]) (by as_aux_lemma => kernel_rfl) (by simp) ?_
          refine AllReadyH.cons (OpAt.arr (OpAt.tail (OpAt.tail (OpAt.tail (OpAt.tail (OpAt.tail (OpAt.tail (OpAt.tail (OpAt.tail (OpAt.tail (OpAt.tail (OpAt.tail (OpAt.tail (OpAt.tail (OpAt.tail (OpAt.tail (OpAt.tail (OpAt.tail (OpAt.tail (OpAt.tail (OpAt.tail (OpAt.tail (OpAt.head))))))))))))))))))))))) (fun K hK => ?ast1) ?amo1
          case amo1 => exact AllReadyH.nil
          go_simp
          refine (H _).mono ?_
          rintro e w5 ⟨rfl, g5⟩
          (try go_wp2_with fail)
          have g6 := gbTrans (gbDrew (gbRefl W2 none)) g5
          refine hK.out _ _ ?asS1 (fun hHeld2 => ?arr1)
          case asS1 => ((try dsimp only); exact ⟨B.kept g6, cellKept c0 g6, cellKept c1' g6, cellKept c2' g6, cellKept c3' g6⟩)
          clear hK K hHeld
          try simp only [Act.put, List.setIfInBounds_toArray, List.set_cons_zero, List.set_cons_succ]
          refine wpAnyH_take (i := 22) (v := ?av22) (OpAt.arr (OpAt.tail (OpAt.tail (OpAt.tail (OpAt.tail (OpAt.tail (OpAt.tail (OpAt.tail (OpAt.tail (OpAt.tail (OpAt.tail (OpAt.tail (OpAt.tail (OpAt.tail (OpAt.tail (OpAt.tail (OpAt.tail (OpAt.tail (OpAt.tail (OpAt.tail (OpAt.tail (OpAt.tail (OpAt.tail (OpAt.head)))))))))))))))))))))))) (by as_aux_lemma => kernel_rfl) (by as_aux_lemma => kernel_rfl) (by as_aux_lemma => kernel_rfl) (fun _ _ _ h => h) (Or.inl ⟨by rfl, ?ahy22⟩) (by assumption) ?are22
          case ahy22 => (intro w hSw; (try dsimp only at hSw); go_simp; (try with_reducible rfl))
          try simp only [Act.put, List.setIfInBounds_toArray, List.set_cons_zero, List.set_cons_succ]
          refine wpAnyH_take (i := 23) (v := ?av23) (OpAt.arr (OpAt.tail (OpAt.tail (OpAt.tail (OpAt.tail (OpAt.tail (OpAt.tail (OpAt.tail (OpAt.tail (OpAt.tail (OpAt.tail (OpAt.tail (OpAt.tail (OpAt.tail (OpAt.tail (OpAt.tail (OpAt.tail (OpAt.tail (OpAt.tail (OpAt.tail (OpAt.tail (OpAt.tail (OpAt.tail (OpAt.tail (OpAt.head))))))))))))))))))))))))) (by as_aux_lemma => kernel_rfl) (by as_aux_lemma => kernel_rfl) (by as_aux_lemma => kernel_rfl) (fun _ _ _ h => h) (Or.inl ⟨by rfl, ?ahy23⟩) (by assumption) ?are23
          case ahy23 => (intro w hSw; (try dsimp only at hSw); go_simp; (try with_reducible rfl))
          try simp only [Act.put, List.setIfInBounds_toArray, List.set_cons_zero, List.set_cons_succ]
          refine wpAnyH_take (i := 24) (v := ?av24) (OpAt.arr (OpAt.tail (OpAt.tail (OpAt.tail (OpAt.tail (OpAt.tail (OpAt.tail (OpAt.tail (OpAt.tail (OpAt.tail (OpAt.tail (OpAt.tail (OpAt.tail (OpAt.tail (OpAt.tail (OpAt.tail (OpAt.tail (OpAt.tail (OpAt.tail (OpAt.tail (OpAt.tail (OpAt.tail (OpAt.tail (OpAt.tail (OpAt.tail (OpAt.head)))))))))))))))))))))))))) (by as_aux_lemma => kernel_rfl) (by as_aux_lemma => kernel_rfl) (by as_aux_lemma => kernel_rfl) (fun _ _ _ h => h) (Or.inl ⟨by rfl, ?ahy24⟩) (by assumption) ?are24
          case ahy24 => (intro w hSw; (try dsimp only at hSw); go_simp; (try with_reducible rfl))
          try simp only [Act.put, List.setIfInBounds_toArray, List.set_cons_zero, List.set_cons_succ]
          refine wpAnyH_ready (rs := [25]) (by as_aux_lemma => kernel_rfl) (by simp) ?_
          refine AllReadyH.cons (OpAt.arr (OpAt.tail (OpAt.tail (OpAt.tail (OpAt.tail (OpAt.tail (OpAt.tail (OpAt.tail (OpAt.tail (OpAt.tail (OpAt.tail (OpAt.tail (OpAt.tail (OpAt.tail (OpAt.tail (OpAt.tail (OpAt.tail (OpAt.tail (OpAt.tail (OpAt.tail (OpAt.tail (OpAt.tail (OpAt.tail (OpAt.tail (OpAt.tail (OpAt.tail (OpAt.head))))))))))))))))))))))))))) (fun K hK => ?ast2) ?amo2
          case amo2 => exact AllReadyH.nil
          rw [if_pos (by rfl)]
          replace X := X.kept g6
          replace B := B.kept g6
          replace G := gbTrans G g6
          refine wp_storeT _ _ rfl rfl rfl X ?_
          intro W7 X7 h7
          refine hK.out _ _ ?asS2 (fun hHeld3 => ?arr2)
          case asS2 => ((try dsimp only); exact ⟨B.aside h7 xy, cellAside (cellKept c0 g6) h7 l0, cellAside (cellKept c1' g6) h7 l1, cellAside (cellKept c2' g6) h7 l2, cellAside (cellKept c3' g6) h7 l3⟩)
          clear hK K hHeld2
          try simp only [Act.put]
          refine wpAnyH_take (i := 26) (v := ?av26) (OpAt.arr (OpAt.tail (OpAt.tail (OpAt.tail (OpAt.tail (OpAt.tail (OpAt.tail (OpAt.tail (OpAt.tail (OpAt.tail (OpAt.tail (OpAt.tail (OpAt.tail (OpAt.tail (OpAt.tail (OpAt.tail (OpAt.tail (OpAt.tail (OpAt.tail (OpAt.tail (OpAt.tail (OpAt.tail (OpAt.tail (OpAt.tail (OpAt.tail (OpAt.tail (OpAt.tail (OpAt.head)))))))))))))))))))))))))))) (by as_aux_lemma => kernel_rfl) (by as_aux_lemma => kernel_rfl) (by as_aux_lemma => kernel_rfl) (fun _ _ _ h => h) (Or.inl ⟨by rfl, ?ahy26⟩) (by assumption) ?are26
          case ahy26 => (intro w hSw; (try dsimp only at hSw); go_simp; (try with_reducible rfl))
          try simp only [Act.put, List.setIfInBounds_toArray, List.set_cons_zero, List.set_cons_succ]
          refine wpAnyH_done (by as_aux_lemma => kernel_rfl) ?_ _
          refine NoPanic.normal ?_
          go_wp2_with fail
          go_meet
          exact ⟨u, v, rfl, hideIt (B.aside h7 xy), hideIt X7, gbNew (gbTrans (gbAny G _) h7) ly, F⟩
        · obtain ⟨u, v, h, F⟩ := fine_wk R1 (upd nil8 0 (j : Int))
          replace F := hideIt F
          have H := wakeLit t u (j : Int) v ub h
          clear h R1 E
          go_wp2_with (refine wpList_loadT rfl _ rfl rfl B ?_)
          refine (H _).mono ?_
          rintro e w5 ⟨rfl, g5⟩
          replace G := gbTrans G g5
          replace B := B.kept g5
          replace X := X.kept g5
          clear g5
          go_wp2_with (refine wpList_storeT rfl _ _ rfl rfl rfl X ?_; intro W7 X7 h7)
          go_meet
          exact ⟨u, v, rfl, hideIt (B.aside h7 xy), hideIt X7, gbNew (gbTrans (gbAny G _) h7) ly, F⟩
        · obtain ⟨u, v, h, F⟩ := fine_ak R1 q.r
          replace F := hideIt F
          have H := ask_is t u q.r v ub h
          have c0 := E.out.at4
          have l0 : (⟨(y.add (j * 7)).block, (y.add (j * 7)).off + 4, none⟩ : Addr).block ≠ x2 := lE
          clear h R1 E
          go_upto_region 12 with fail
          have g := gbDrew (gbRefl W2 none)
          refine wp_region_noPanic ?_
          refine wp_region_held_drew (S := fun w' => TB w' x1 t ∧ w'.cell? ⟨(y.add (j * 7)).block, (y.add (j * 7)).off + 4, none⟩ = some (.int .i64 q.r)) (by as_aux_lemma => kernel_rfl) (⟨B.kept g, cellKept c0 g⟩) (fun hHeld => ?_)
          clear g
          refine wpAnyH_take (i := 0) (v := .agg (tc t)) (OpAt.arr (OpAt.head)) (by as_aux_lemma => kernel_rfl) (by as_aux_lemma => kernel_rfl) (by as_aux_lemma => kernel_rfl) (fun _ _ _ h => h) (Or.inl ⟨by rfl, fun w h => exec_loadT rfl rfl h.1⟩) (by assumption) ?bre0
          try simp only [Act.put, List.setIfInBounds_toArray, List.set_cons_zero, List.set_cons_succ]
          refine wpAnyH_take (i := 1) (v := ?bv1) (OpAt.arr (OpAt.tail (OpAt.head))) (by as_aux_lemma => kernel_rfl) (by as_aux_lemma => kernel_rfl) (by as_aux_lemma => kernel_rfl) (fun _ _ _ h => h) (Or.inl ⟨by rfl, ?bhy1⟩) (by assumption) ?bre1
          case bhy1 => (intro w hSw; (try dsimp only at hSw); go_simp; (try with_reducible rfl))
          try simp only [Act.put, List.setIfInBounds_toArray, List.set_cons_zero, List.set_cons_succ]
          refine wpAnyH_take (i := 2) (v := ?bv2) (OpAt.arr (OpAt.tail (OpAt.tail (OpAt.head)))) (by as_aux_lemma => kernel_rfl) (by as_aux_lemma => kernel_rfl) (by as_aux_lemma => kernel_rfl) (fun _ _ _ h => h) (Or.inl ⟨by rfl, ?bhy2⟩) (by assumption) ?bre2
          case bhy2 => (intro w hSw; (try dsimp only at hSw); go_simp; (try with_reducible rfl))
          try simp only [Act.put, List.setIfInBounds_toArray, List.set_cons_zero, List.set_cons_succ]
          refine wpAnyH_take (i := 3) (v := ?bv3) (OpAt.arr (OpAt.tail (OpAt.tail (OpAt.tail (OpAt.head))))) (by as_aux_lemma => kernel_rfl) (by as_aux_lemma => kernel_rfl) (by as_aux_lemma => kernel_rfl) (fun _ _ _ h => h) (Or.inl ⟨by rfl, ?bhy3⟩) (by assumption) ?bre3
          case bhy3 => (intro w hSw; (try dsimp only at hSw); go_simp; (try with_reducible rfl))
          try simp only [Act.put, List.setIfInBounds_toArray, List.set_cons_zero, List.set_cons_succ]
          refine wpAnyH_take (i := 4) (v := ?bv4) (OpAt.arr (OpAt.tail (OpAt.tail (OpAt.tail (OpAt.tail (OpAt.head)))))) (by as_aux_lemma => kernel_rfl) (by as_aux_lemma => kernel_rfl) (by as_aux_lemma => kernel_rfl) (fun _ _ _ h => h) (Or.inl ⟨by rfl, ?bhy4⟩) (by assumption) ?bre4
          case bhy4 => (intro w hSw; (try dsimp only at hSw); go_simp; (try with_reducible rfl))
          try simp only [Act.put, List.setIfInBounds_toArray, List.set_cons_zero, List.set_cons_succ]
          refine wpAnyH_take (i := 5) (v := ?bv5) (OpAt.arr (OpAt.tail (OpAt.tail (OpAt.tail (OpAt.tail (OpAt.tail (OpAt.head))))))) (by as_aux_lemma => kernel_rfl) (by as_aux_lemma => kernel_rfl) (by as_aux_lemma => kernel_rfl) (fun _ _ _ h => h) (Or.inl ⟨by rfl, ?bhy5⟩) (by assumption) ?bre5
          case bhy5 => (intro w hSw; (try dsimp only at hSw); go_simp; (try with_reducible rfl))
          try simp only [Act.put, List.setIfInBounds_toArray, List.set_cons_zero, List.set_cons_succ]
          refine wpAnyH_ready (rs := [6]) (by as_aux_lemma => kernel_rfl) (by simp) ?_
          refine AllReadyH.cons (OpAt.arr (OpAt.tail (OpAt.tail (OpAt.tail (OpAt.tail (OpAt.tail (OpAt.tail (OpAt.head)))))))) (fun K hK => ?bst1) ?bmo1
          case bmo1 => exact AllReadyH.nil
          go_simp
          refine (H _).mono ?_
          rintro e w5 ⟨rfl, g5⟩
          (try go_wp2_with fail)
          have g6 := gbTrans (gbDrew (gbRefl W2 none)) g5
          refine hK.out _ _ ?bsS1 (fun hHeld2 => ?brr1)
          case bsS1 => ((try dsimp only); exact ⟨B.kept g6, cellKept c0 g6⟩)
          clear hK K hHeld
          try simp only [Act.put, List.setIfInBounds_toArray, List.set_cons_zero, List.set_cons_succ]
          refine wpAnyH_take (i := 7) (v := ?bv7) (OpAt.arr (OpAt.tail (OpAt.tail (OpAt.tail (OpAt.tail (OpAt.tail (OpAt.tail (OpAt.tail (OpAt.head))))))))) (by as_aux_lemma => kernel_rfl) (by as_aux_lemma => kernel_rfl) (by as_aux_lemma => kernel_rfl) (fun _ _ _ h => h) (Or.inl ⟨by rfl, ?bhy7⟩) (by assumption) ?bre7
          case bhy7 => (intro w hSw; (try dsimp only at hSw); go_simp; (try with_reducible rfl))
          try simp only [Act.put, List.setIfInBounds_toArray, List.set_cons_zero, List.set_cons_succ]
          refine wpAnyH_take (i := 8) (v := ?bv8) (OpAt.arr (OpAt.tail (OpAt.tail (OpAt.tail (OpAt.tail (OpAt.tail (OpAt.tail (OpAt.tail (OpAt.tail (OpAt.head)))))))))) (by as_aux_lemma => kernel_rfl) (by as_aux_lemma => kernel_rfl) (by as_aux_lemma => kernel_rfl) (fun _ _ _ h => h) (Or.inl ⟨by rfl, ?bhy8⟩) (by assumption) ?bre8
          case bhy8 => (intro w hSw; (try dsimp only at hSw); go_simp; (try with_reducible rfl))
          try simp only [Act.put, List.setIfInBounds_toArray, List.set_cons_zero, List.set_cons_succ]
          refine wpAnyH_take (i := 9) (v := ?bv9) (OpAt.arr (OpAt.tail (OpAt.tail (OpAt.tail (OpAt.tail (OpAt.tail (OpAt.tail (OpAt.tail (OpAt.tail (OpAt.tail (OpAt.head))))))))))) (by as_aux_lemma => kernel_rfl) (by as_aux_lemma => kernel_rfl) (by as_aux_lemma => kernel_rfl) (fun _ _ _ h => h) (Or.inl ⟨by rfl, ?bhy9⟩) (by assumption) ?bre9
          case bhy9 => (intro w hSw; (try dsimp only at hSw); go_simp; (try with_reducible rfl))
          try simp only [Act.put, List.setIfInBounds_toArray, List.set_cons_zero, List.set_cons_succ]
          refine wpAnyH_ready (rs := [10]) (by as_aux_lemma => kernel_rfl) (by simp) ?_
          refine AllReadyH.cons (OpAt.arr (OpAt.tail (OpAt.tail (OpAt.tail (OpAt.tail (OpAt.tail (OpAt.tail (OpAt.tail (OpAt.tail (OpAt.tail (OpAt.tail (OpAt.head)))))))))))) (fun K hK => ?bst2) ?bmo2
          case bmo2 => exact AllReadyH.nil
          rw [if_pos (by rfl)]
          replace X := X.kept g6
          replace B := B.kept g6
          replace G := gbTrans G g6
          refine wp_storeT _ _ rfl rfl rfl X ?_
          intro W7 X7 h7
          refine hK.out _ _ ?bsS2 (fun hHeld3 => ?brr2)
          case bsS2 => ((try dsimp only); exact ⟨B.aside h7 xy, cellAside (cellKept c0 g6) h7 l0⟩)
          clear hK K hHeld2
          try simp only [Act.put]
          refine wpAnyH_take (i := 11) (v := ?bv11) (OpAt.arr (OpAt.tail (OpAt.tail (OpAt.tail (OpAt.tail (OpAt.tail (OpAt.tail (OpAt.tail (OpAt.tail (OpAt.tail (OpAt.tail (OpAt.tail (OpAt.head))))))))))))) (by as_aux_lemma => kernel_rfl) (by as_aux_lemma => kernel_rfl) (by as_aux_lemma => kernel_rfl) (fun _ _ _ h => h) (Or.inl ⟨by rfl, ?bhy11⟩) (by assumption) ?bre11
          case bhy11 => (intro w hSw; (try dsimp only at hSw); go_simp; (try with_reducible rfl))
          try simp only [Act.put, List.setIfInBounds_toArray, List.set_cons_zero, List.set_cons_succ]
          refine wpAnyH_done (by as_aux_lemma => kernel_rfl) ?_ _
          refine NoPanic.normal ?_
          go_wp2_with fail
          go_meet
          exact ⟨u, v, rfl, hideIt (B.aside h7 xy), hideIt X7, gbNew (gbTrans (gbAny G _) h7) ly, F⟩
      case rest =>
      clear B X B0 X0 G E R1
      obtain ⟨u, v, rfl, B, X, G, F⟩ := hcut
      rcases F.out with ⟨rfl, Ru, el, ed, ep⟩ | ⟨hv, rfl⟩
      · replace B := B.out
        replace X := X.out
        have HC := check_is u Ru.b64 0 Ru.ck
        replace Ru := hideIt Ru
        have e7 : u.p = 77 := by rw [ep]; exact R.out.2
        clear F ep
        go_wp2_with (refine wpList_loadT rfl _ rfl rfl X ?_)
        refine (HC _).mono ?_
        rintro e w9 ⟨rfl, g9⟩
        replace B := B.kept g9
        replace X := X.kept g9
        replace G := gbTrans G g9
        clear g9 HC
        have b5 := B.eight.at5
        have b6 := B.eight.at6
        have s5 : w9.cell? ⟨x2, 5, none⟩ = some (.int .i64 t.l) := by rw [← el]; exact X.eight.at5
        have s6 : w9.cell? ⟨x2, 6, none⟩ = some (.int .i64 t.d) := by rw [← ed]; exact X.eight.at6
        have s7 : w9.cell? ⟨x2, 7, none⟩ = some (.int .i64 77) := by rw [← e7]; exact X.eight.at7
        replace e7 := hideIt e7
        clear el ed
        go_upto_region 27 with fail
        clear b5 b6 s5 s6 s7
        go_wp2_with (first | (refine wpList_loadT rfl _ rfl rfl X ?_) | (refine wpList_storeT rfl _ _ rfl rfl rfl B ?_; intro W10 B10 h10))
        go_roundg (gk - 1)
        case rel => exact ⟨j + 1, u, by omega, by go_num, gbNew (gbTrans (gbAny G _) h10) lx, hideIt B10, hideIt ⟨Ru.out, e7.out⟩⟩
        case measure => omega
      · replace X := X.out
        have qe := eqGuardT
        have qs := fun w => run_neq_same w T0
        go_wp2_with (first | (refine wpList_loadT rfl _ rfl rfl X ?_) | (refine wpList_nilT rfl rfl ?_))
        go_roundg (gk - 1)
        case rel => exact ⟨j + 1, t, by omega, by go_num, G, B, R⟩
        case measure => omega
    · clear hx hk B R
      go_upto_region 8 with fail
      go_cut [43] from 30 to 43 (fun s wc => s = .bool false ∧ wc = wr)
      case first =>
        by_cases k1 : (j : Int) < (len : Int)
        · by_cases k2 : (j : Int) < (lenk : Int)
          · have k3 : ¬ (j : Int) < 50 := by omega
            go_wp2
            go_meet
            exact ⟨rfl, rfl⟩
          · go_wp2
            go_meet
            exact ⟨rfl, rfl⟩
        · go_wp2
          go_meet
          exact ⟨rfl, rfl⟩
      case rest =>
      obtain ⟨rfl, rfl⟩ := hcut
      clear hlt
      go_wp2
      go_ret
      exact ⟨rfl, G⟩

theorem walk (a0 a1 : Int) (x : Option Addr) (len cap : Nat) (xk : Option Addr) (lenk capk : Nat) (w : World)
    (hx : ∀ i, i < len → ∃ y q, x = some y ∧ El7 w (y.add (i * 7)) q ∧ q.b < 18446744073709551616)
    (hk : ∀ i, i < lenk → ∃ (y : Addr) (z : Int), xk = some y ∧ w.cell? (y.add i) = some (.int .i64 z)) :
    Calls Try.prog 3 #[.int .i64 a0, .int .i64 a1, .slice x len cap, .slice xk lenk capk] w fun e w' => e = .returned (.bool true) ∧ Below w.heap.size w w' := by
  refine endWalk ?_
  obtain ⟨U0, L, p0, q0, hL⟩ := mod8 a0
  obtain ⟨U1, D, p1, q1, hD⟩ := mod4 a1
  exact core a0 a1 x len cap xk lenk capk U0 U1 L D w p0 q0 hL p1 q1 hD (new_is L D _ _ (nw_right L D hL hD)) hx hk

set_option maxRecDepth 100000 in
theorem lifted (os : Os) (started : os.Started) (H : Type) (enc : TypeId × Value → H) :
    ReturnsInHanded {} Try.checked os 3 .any (Rows.threadRightSpec.pre6 enc Try.prog Try.f3 Rows.threadRightRow.domain false) (Rows.threadRightSpec.post enc Try.prog Try.f3 false true false false) := by
  refine returnsInHanded_of_change (C := Try.checked) own started (by kernel_rfl) Try.func3
    (ChangeSpec.witness6 (enc := enc) (C := Try.checked) false ⟨#[], #[.int .i64 0, .int .i64 0, .slice none 0 0, .slice none 0 0], []⟩ 8 (by kernel_rfl) (by kernel_rfl) (by kernel_rfl) (by kernel_rfl)) ?_
  intro W base args ds gs before hval0 hW hcnd _
  have hval : ∀ (j : Nat) t v, Try.f3.params[j]? = some t → args[j]? = some v → Value.okWide Try.prog W .any base t v := hval0
  have hW' := hW
  obtain ⟨p, q, hA0, hV, rfl, hfz, hnd⟩ := hW
  have hA : DataW.TrodAll enc Try.prog W 0 (fun _ => true) true Try.f3.params.toList args.toList ds p := hA0
  rw [Try.params3] at hA hval
  obtain ⟨v0, vs0, d0, ds0, p0, q0, hargs, rfl, rfl, h0, r0⟩ := trodAll_cons hA
  obtain ⟨v1, vs1, d1, ds1, p1, q1, rfl, rfl, rfl, h1, r1⟩ := trodAll_cons r0
  obtain ⟨v2, vs2, d2, ds2, p2, q2, rfl, rfl, rfl, h2, r2⟩ := trodAll_cons r1
  obtain ⟨v3, vs3, d3, ds3, p3, q3, rfl, rfl, rfl, h3, r3⟩ := trodAll_cons r2
  obtain ⟨rfl, rfl, rfl⟩ := trodAll_nil r3
  obtain rfl : args = #[v0, v1, v2, v3] := by cases args; simp_all
  obtain ⟨rfl, rfl⟩ := trodVars_none hV
  obtain ⟨a0, rfl, rfl, rfl, w0⟩ := open_int Try.underlying3 (hval 0 3 v0 rfl rfl) h0
  obtain ⟨a1, rfl, rfl, rfl, w1⟩ := open_int Try.underlying3 (hval 1 3 v1 rfl rfl) h1
  obtain ⟨x2, len2, cap2, rfl⟩ := okWide_slice Try.underlying22 (hval 2 22 v2 rfl rfl)
  have hx2 := opsArg h2
  have k2 := h2
  have lt2 : ∀ x ∈ p2, x.block < W.heap.size := by obtain ⟨m, hm⟩ := k2; exact DataW.trod_lt m _ _ _ hm
  obtain ⟨x3, len3, cap3, rfl⟩ := okWide_slice Try.underlying23 (hval 3 23 v3 rfl rfl)
  have hx3 := intsArg h3
  have k3 := h3
  have lt3 : ∀ x ∈ p3, x.block < W.heap.size := by obtain ⟨m, hm⟩ := k3; exact DataW.trod_lt m _ _ _ hm
  clear hA0 hval0
  refine (walk a0 a1 x2 len2 cap2 x3 len3 cap3 W hx2 hx3).mono fun e W' ⟨he, bel⟩ => ?_
  subst he
  exact ⟨_, rfl, _, _, _, [], _, [], hW', trodAll_mk1 (shut_bool Try.underlying4 _), (trodAll_cons_mk (shut_int Try.underlying3 w0) (trodAll_cons_mk (shut_int Try.underlying3 w1) (trodAll_cons_mk (Below.trod laidOut (by kernel_rfl) (of_decide_eq_true (by kernel_rfl)) k2 bel lt2) (trodAll_cons_mk (Below.trod laidOut (by kernel_rfl) (of_decide_eq_true (by kernel_rfl)) k3 bel lt3) trodAll_mk0)))), rfl, bel.frame _, fun h => by cases h⟩

theorem over : Rows.threadRightRow.holds Try.pinned (OpenSpec.ofChange Rows.threadRightSpec) :=
  OpenClaim.holds_of_wide 3 Try.f3 rfl rfl rfl rfl rfl rfl rfl ⟨rfl, rfl, rfl, rfl, rfl⟩ rfl rfl rfl rfl rfl (by kernel_rfl) Try.func3 (by kernel_rfl)
    (of_decide_eq_true (by kernel_rfl)) (by unfold Func.isWrapper; first | (rw [if_pos (by decide +kernel)]; kernel_rfl) | (rw [if_neg (by decide +kernel)]; exact ⟨rfl, rfl⟩))
    (fun os started H enc _ => lifted os started H enc)

theorem proved : Rows.ThreadRightSaid := over
end Go.Proofs.Ytaojiojbpkldkaa.threadRight
namespace Go.Proofs.Ytaojiojbpkldkaa
theorem threadRight_holds : Rows.ThreadRightSaid := threadRight.proved
#print axioms threadRight_holds
end Go.Proofs.Ytaojiojbpkldkaa
