/- WalkPages (13.3): all addresses of one page lie in one stretch of sixteen words, in order, or none lies anywhere. For every input; no condition. -/
import Derived.Test.YtgneacfiabpfmaaFacts
import Derived.Test.YtgneacfiabpfmaaArgs
import Derived.ProofKit
import Derived.OpenShut
import Derived.ShutString
import Derived.ChangeOld
import Derived.Below
import Derived.Deep.Slices
namespace Go.Proofs.Ytgneacfiabpfmaa.walkPages
open Go.ChangeShapes Go.WideShapes Go.ChangeAt Go.RowKit
set_option linter.unusedVariables false

theorem own : ownKnob Try.prog.godebug = none := by kernel_rfl
theorem laidOut : laidOutB Try.prog = true := by kernel_rfl

set_option maxHeartbeats 2000000 in
set_option maxRecDepth 10000 in
theorem core (a0 : Int) (x1 : Option Addr) (len1 cap1 : Nat) (a2 a3 : Int) (b4 : Bool) (n V k A : Nat) (w : World)
    (HM : ∀ w', w.grownBy w' none → Calls Try.prog 7 #[.int .i64 a0, .slice x1 len1 cap1] w' fun e w'' => ∃ p b q c F, e = .returned (.tuple #[.pointer (some ⟨p, 0, none⟩), .pointer (some ⟨q, 0, none⟩), .bool true]) ∧ Two w' w'' p b q c n F)
    (v1 : IntKind.u64.wrap a3 = (V : Int)) (v2 : (V : Int) % 256 = (k : Int)) (v3 : 16 * (k : Int) = (A : Int)) (kl : k < 256) (Al : A < 4096) (hA : Hid (A = 16 * k)) (n1 : n ≤ 320) :
    Calls Try.prog 5 #[.int .i64 a0, .slice x1 len1 cap1, .int .i64 a2, .int .i64 a3, .bool b4] w fun e w' => e = .returned (.bool true) ∧ w.grownBy w' none := by
  go_enter Try.func5, Try.ntmps5
  go_wp2_with fail
  refine (works_is _).mono ?_
  rintro e w1 ⟨rfl, g1⟩
  go_wp2_with fail
  refine (HM _ g1).mono ?_
  rintro e w2 ⟨p, b, q, c, F, rfl, T⟩
  obtain ⟨⟨x, f⟩, ht⟩ : ∃ y, M.to n F a2 (A : Int) b4 = y := ⟨_, rfl⟩
  have HT := to_is w2 p b n F a2 A b4 x f T.m ht
  rw [hA.out] at ht
  have HF := hideIt (M.to_page kl ht)
  have G2 := gbTrans g1 T.g
  have HM2 := hideIt T.m
  clear T g1 ht HM
  have HT2 : ∀ w', w2 = w' → Calls Try.prog 10 #[.pointer (some ⟨p, 0, none⟩), .int .i64 a2, .int .i64 A, .bool b4] w' fun e w'' => e = .returned (.tuple #[.int .i64 x, .int .i64 f]) ∧ w'.grownBy w'' none := fun w' e => e ▸ HT
  clear HT
  go_wp2_with fail
  refine (HT2 _ rfl).mono ?_
  rintro e w3 ⟨rfl, g3⟩
  clear HT2
  clear v1 v2 v3
  have HM3 := hideIt (HM2.out.kept g3)
  have G3 := gbTrans G2 g3
  clear HM2 G2 g3
  go_wp2_with fail
  go_loopw [17] (fun i wr => ∃ j : Nat, j ≤ 16 ∧ i = .int .i64 j ∧ w3.grownBy wr none) (fun i _ => 16 - (intOf i).toNat)
  case atStart => exact ⟨0, by omega, rfl, gbRefl _ _⟩
  case round =>
    obtain ⟨j, hj, rfl, gr⟩ := hrel
    by_cases l : j < 16
    · obtain ⟨B, hB, eB⟩ : ∃ B : Nat, Hid (B = 16 * k + j) ∧ (A : Int) + (j : Int) = (B : Int) := ⟨16 * k + j, hideIt rfl, by have := hA.out; omega⟩
      rcases HF.out with ⟨f0, h⟩ | ⟨rfl, Q, rfl, hQ, h⟩
      · have ht := h j l
        rw [← hB.out] at ht
        have HT := fun w' (g : wr.grownBy w' none) => to_is w' p b n F a2 B b4 _ _ (HM3.out.kept (gbTrans gr g)) ht
        have c1 : (f == 0) = false := by simp [f0]
        clear ht h f0
        go_wp2_with fail
        refine (HT _ (gbRefl _ _)).mono ?_
        rintro e w4 ⟨rfl, g4⟩
        go_wp2
        go_roundw
        case rel => exact ⟨j + 1, by omega, by go_num, gbTrans gr g4⟩
        case measure => simp [intOf]; omega
      · have ht := h j l
        rw [← hB.out] at ht
        obtain ⟨X, hX, eX⟩ : ∃ X : Nat, Hid (X = 16 * Q) ∧ ((16 * Q : Nat) : Int) = (X : Int) := ⟨16 * Q, hideIt rfl, rfl⟩
        obtain ⟨Y, hY, eY⟩ : ∃ Y : Nat, ((16 * Q + j : Nat) : Int) = (Y : Int) ∧ (X : Int) + (j : Int) = (Y : Int) := ⟨16 * Q + j, rfl, by have := hX.out; omega⟩
        rw [hY] at ht
        have HT := fun w' (g : wr.grownBy w' none) => to_is w' p b n F a2 B b4 _ _ (HM3.out.kept (gbTrans gr g)) ht
        have c1 : (X : Int) % 16 = 0 := by have := hX.out; omega
        have xl : X ≤ 320 := by have := hX.out; omega
        clear ht h hY hQ
        rw [eX]
        clear eX
        go_wp2_with fail
        refine (HT _ (gbRefl _ _)).mono ?_
        rintro e w4 ⟨rfl, g4⟩
        go_wp2
        go_roundw
        case rel => exact ⟨j + 1, by omega, by go_num, gbTrans gr g4⟩
        case measure => simp [intOf]; omega
    · go_wp2
      go_ret
      exact ⟨rfl, gbTrans G3 gr⟩

theorem walk (a0 : Int) (x1 : Option Addr) (len1 cap1 : Nat) (a2 a3 : Int) (b4 : Bool) (w : World) (hx1 : Ws w x1 len1) :
    Calls Try.prog 5 #[.int .i64 a0, .slice x1 len1 cap1, .int .i64 a2, .int .i64 a3, .bool b4] w fun e w' => e = .returned (.bool true) ∧ Below w.heap.size w w' := by
  refine endWalk ?_
  obtain ⟨U, n, u1, u2, n0, n1⟩ := sizeArg a0
  obtain ⟨V, k, v1, v2, v3⟩ := modArg a3 256 (by omega)
  exact core a0 x1 len1 cap1 a2 a3 b4 n V k (16 * k) w (fun w' g => made_is a0 n x1 len1 cap1 w' U u1 u2 n0 n1 (hx1.kept g)) v1 v2 (by omega) v3 (by omega) (hideIt rfl) n1

set_option maxRecDepth 100000 in
theorem lifted (os : Os) (started : os.Started) (H : Type) (enc : TypeId × Value → H) :
    ReturnsInHanded {} Try.checked os 5 .any (Rows.walkPagesSpec.pre6 enc Try.prog Try.f5 Rows.walkPagesRow.domain false) (Rows.walkPagesSpec.post enc Try.prog Try.f5 false true false false) := by
  refine returnsInHanded_of_change (C := Try.checked) own started (by kernel_rfl) Try.func5
    (ChangeSpec.witness6 (enc := enc) (C := Try.checked) false ⟨#[], #[.int .i64 0, .slice none 0 0, .int .i64 0, .int .i64 0, .bool false], []⟩ 8 (by kernel_rfl) (by kernel_rfl) (by kernel_rfl) (by kernel_rfl)) ?_
  intro W base args ds gs before hval0 hW hcnd _
  have hval : ∀ (j : Nat) t v, Try.f5.params[j]? = some t → args[j]? = some v → Value.okWide Try.prog W .any base t v := hval0
  have hW' := hW
  obtain ⟨p, q, hA0, hV, rfl, hfz, hnd⟩ := hW
  have hA : DataW.TrodAll enc Try.prog W 0 (fun _ => true) true Try.f5.params.toList args.toList ds p := hA0
  rw [Try.params5] at hA hval
  obtain ⟨v0, vs0, d0, ds0, p0, q0, hargs, rfl, rfl, h0, r0⟩ := trodAll_cons hA
  obtain ⟨v1, vs1, d1, ds1, p1, q1, rfl, rfl, rfl, h1, r1⟩ := trodAll_cons r0
  obtain ⟨v2, vs2, d2, ds2, p2, q2, rfl, rfl, rfl, h2, r2⟩ := trodAll_cons r1
  obtain ⟨v3, vs3, d3, ds3, p3, q3, rfl, rfl, rfl, h3, r3⟩ := trodAll_cons r2
  obtain ⟨v4, vs4, d4, ds4, p4, q4, rfl, rfl, rfl, h4, r4⟩ := trodAll_cons r3
  obtain ⟨rfl, rfl, rfl⟩ := trodAll_nil r4
  obtain rfl : args = #[v0, v1, v2, v3, v4] := by cases args; simp_all
  obtain ⟨rfl, rfl⟩ := trodVars_none hV
  obtain ⟨a0, rfl, rfl, rfl, w0⟩ := open_int Try.underlying3 (hval 0 3 v0 rfl rfl) h0
  obtain ⟨x1, len1, cap1, rfl⟩ := okWide_slice Try.underlying22 (hval 1 22 v1 rfl rfl)
  have hx1 := wordsArg h1
  have k1 := h1
  have lt1 : ∀ x ∈ p1, x.block < W.heap.size := by obtain ⟨m, hm⟩ := k1; exact DataW.trod_lt m _ _ _ hm
  obtain ⟨a2, rfl, rfl, rfl, w2⟩ := open_int Try.underlying3 (hval 2 3 v2 rfl rfl) h2
  obtain ⟨a3, rfl, rfl, rfl, w3⟩ := open_int Try.underlying3 (hval 3 3 v3 rfl rfl) h3
  obtain ⟨b4, rfl, rfl, rfl⟩ := open_bool Try.underlying4 (hval 4 4 v4 rfl rfl) h4
  clear hA0 hval0
  refine (walk a0 x1 len1 cap1 a2 a3 b4 W hx1).mono fun e W' ⟨he, bel⟩ => ?_
  subst he
  exact ⟨_, rfl, _, _, _, [], _, [], hW', trodAll_mk1 (shut_bool Try.underlying4 _), (trodAll_cons_mk (shut_int Try.underlying3 w0) (trodAll_cons_mk (Below.trod laidOut (by kernel_rfl) (of_decide_eq_true (by kernel_rfl)) k1 bel lt1) (trodAll_cons_mk (shut_int Try.underlying3 w2) (trodAll_cons_mk (shut_int Try.underlying3 w3) (trodAll_cons_mk (shut_bool Try.underlying4 _) trodAll_mk0))))), rfl, bel.frame _, fun h => by cases h⟩

theorem over : Rows.walkPagesRow.holds Try.pinned (OpenSpec.ofChange Rows.walkPagesSpec) :=
  OpenClaim.holds_of_wide 5 Try.f5 rfl rfl rfl rfl rfl rfl rfl ⟨rfl, rfl, rfl, rfl, rfl⟩ rfl rfl rfl rfl rfl (by kernel_rfl) Try.func5 (by kernel_rfl)
    (of_decide_eq_true (by kernel_rfl)) (by unfold Func.isWrapper; first | (rw [if_pos (by decide +kernel)]; kernel_rfl) | (rw [if_neg (by decide +kernel)]; exact ⟨rfl, rfl⟩))
    (fun os started H enc _ => lifted os started H enc)

theorem proved : Rows.WalkPagesSaid := over
end Go.Proofs.Ytgneacfiabpfmaa.walkPages
namespace Go.Proofs.Ytgneacfiabpfmaa
theorem walkPages_holds : Rows.WalkPagesSaid := walkPages.proved
#print axioms walkPages_holds
end Go.Proofs.Ytgneacfiabpfmaa
