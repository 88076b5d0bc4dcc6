/- WalkStores (13.3): what is stored at an address whose page is neither the directory nor its table is loaded from it; no other word of memory is changed. For every input; no condition. -/
import Derived.Test.YtgneacfiabpfmaaFacts
import Derived.Test.YtgneacfiabpfmaaArgs
import Derived.ProofKit
import Derived.OpenShut
import Derived.ShutString
import Derived.ChangeOld
import Derived.Below
import Derived.Deep.Slices
namespace Go.Proofs.Ytgneacfiabpfmaa.walkStores
open Go.ChangeShapes Go.WideShapes Go.ChangeAt Go.RowKit
set_option linter.unusedVariables false

theorem own : ownKnob Try.prog.godebug = none := by kernel_rfl
theorem laidOut : laidOutB Try.prog = true := by kernel_rfl

theorem ld_of {n : Nat} {F : Nat → Nat} {dir a : Int} {v X : Nat} (h : M.to n F dir a true = ((X : Int), 0)) (h2 : M.to n (M.sw n F dir a v) dir a false = ((X : Int), 0)) : M.ld n (M.sw n F dir a v) dir a = (v, 0) := by
  unfold M.ld
  rw [h2, if_pos rfl]
  simp only [M.sw, h, Prod.mk.injEq, and_true]
  simp

theorem sw_no {n : Nat} {F : Nat → Nat} {dir a : Int} {v : Nat} {x f : Int} (h : M.to n F dir a true = (x, f)) (hf : f ≠ 0) (i : Nat) : M.sw n F dir a v i = F i := by
  simp [M.sw, h, hf]
theorem sw_yes {n : Nat} {F : Nat → Nat} {dir a : Int} {v X : Nat} (h : M.to n F dir a true = ((X : Int), 0)) (i : Nat) : M.sw n F dir a v i = if i = X then v else F i := by
  simp [M.sw, h]

/-- What the law's loop sees: two rows of n words. -/
structure Rw (w : World) (g1 g2 n : Nat) (F G : Nat → Nat) : Prop where
  one : w.rowIs g1 41 n (fun i => .int .u64 (F i : Int))
  two : w.rowIs g2 41 n (fun i => .int .u64 (G i : Int))
theorem Rw.kept {w w' : World} {g1 g2 n : Nat} {F G : Nat → Nat} (h : Rw w g1 g2 n F G) (g : w.grownBy w' none) : Rw w' g1 g2 n F G :=
  ⟨Y2.rowKeep h.one g (by simp), Y2.rowKeep h.two g (by simp)⟩

set_option maxHeartbeats 2000000 in
set_option maxRecDepth 10000 in
theorem core (a0 : Int) (x1 : Option Addr) (len1 cap1 : Nat) (a2 a3 : Int) (v n V A : Nat) (w : World)
    (HM : ∀ w', w.grownBy w' none → Calls Try.prog 7 #[.int .i64 a0, .slice x1 len1 cap1] w' fun e w'' => ∃ p b q c F, e = .returned (.tuple #[.pointer (some ⟨p, 0, none⟩), .pointer (some ⟨q, 0, none⟩), .bool true]) ∧ Two w' w'' p b q c n F)
    (v1 : IntKind.u64.wrap a3 = (V : Int)) (v2 : (V : Int) % 4096 = (A : Int)) (Al : A < 4096) (n1 : n ≤ 320) (vl : v < 18446744073709551616) :
    Calls Try.prog 4 #[.int .i64 a0, .slice x1 len1 cap1, .int .i64 a2, .int .i64 a3, .int .u64 (v : Int)] w fun e w' => e = .returned (.bool true) ∧ w.grownBy w' none := by
  go_enter Try.func4, Try.ntmps4
  go_wp2_with fail
  refine (works_is _).mono ?_
  rintro e w1 ⟨rfl, g1⟩
  go_wp2_with fail
  refine (HM _ g1).mono ?_
  rintro e w2 ⟨p, b, q, c, F, rfl, T⟩
  obtain ⟨⟨x, f⟩, ht⟩ : ∃ y, M.to n F a2 (A : Int) true = y := ⟨_, rfl⟩
  replace ht := hideIt ht
  have G2 := gbTrans g1 T.g
  have m2 := hideIt T.m
  have hb : w.heap.size ≤ b := Nat.le_trans g1.size T.b0
  clear T g1 HM
  go_wp2_with fail
  refine (words_is _ p b n F m2.out).mono ?_
  rintro e w3 ⟨r1, rfl, hr1, g3, hl1⟩
  clear v1 v2
  have bl := m2.out.blt
  have m3 := hideIt (m2.out.kept g3)
  have G3 := gbTrans G2 g3
  have ne1 : ¬ r1 = b := by omega
  clear bl m2 G2 g3 hl1
  go_wp2_with fail
  refine (to_is _ p b n F a2 A true x f m3.out ht.out).mono ?_
  rintro e w4 ⟨rfl, g4⟩
  have m4 := hideIt (m3.out.kept g4)
  have G4 := gbTrans G3 g4
  have hr4 := Y2.rowKeep hr1 g4 (by simp)
  clear m3 G3 g4 hr1
  go_wp2_with fail
  refine (store_is _ p b n F a2 A v x f m4.out vl ht.out).mono ?_
  rintro e w5 ⟨rfl, m5, g5⟩
  replace m5 := hideIt m5
  have G5 := gbNew (gbTrans (gbAny G4 _) g5) hb
  have hr5 := Y2.rowKeep hr4 g5 (by simpa using ne1)
  clear m4 G4 g5 hr4
  go_wp2_with fail
  refine (words_is _ p b n _ m5.out).mono ?_
  rintro e w6 ⟨r2, rfl, hr6, g6, hl2⟩
  have m6 := hideIt (m5.out.kept g6)
  have G6 := gbTrans G5 g6
  have R6 : Rw w6 r1 r2 n F (M.sw n F a2 (A : Int) v) := ⟨Y2.rowKeep hr5 g6 (by simp), hr6⟩
  replace R6 := hideIt R6
  clear m5 G5 g6 hr5 hr6 hl2 ne1
  have HG : Hid (∀ i, ((F i : Int) != (M.sw n F a2 (A : Int) v i : Int)) = true → f = 0 ∧ x = (i : Int)) := hideIt (fun i h => by
    by_cases c : f = 0
    · subst c
      obtain ⟨X, rfl, hX⟩ := M.to_lt ht.out
      rw [sw_yes ht.out] at h
      by_cases d : i = X
      · exact ⟨rfl, by rw [d]⟩
      · rw [if_neg d] at h
        simp at h
    · rw [sw_no ht.out c] at h
      simp at h)
  go_wp2_with fail
  go_loopw [19] (fun i wr => ∃ j : Nat, j ≤ n ∧ i = .int .i64 j ∧ w6.grownBy wr none) (fun i _ => n - (intOf i).toNat)
  case atStart => exact ⟨0, by omega, rfl, gbRefl _ _⟩
  case round =>
    obtain ⟨j, hj, rfl, gr⟩ := hrel
    by_cases l : j < n
    · have e1 := (R6.out.kept gr).one.cell l
      have e2 := (R6.out.kept gr).two.cell l
      obtain ⟨z, hz⟩ : ∃ z, ((F j : Int) != (M.sw n F a2 (A : Int) v j : Int)) = z := ⟨_, rfl⟩
      cases z
      · go_wp2
        go_quiet (fail)
        go_wp2
        go_roundw
        case rel => exact ⟨j + 1, by omega, by go_num, gbTrans gr (gbDrewN _ _ _)⟩
        case measure => simp [intOf]; omega
      · obtain ⟨rfl, rfl⟩ := HG.out j hz
        go_wp2
        go_quiet (fail)
        go_wp2
        go_roundw
        case rel => exact ⟨j + 1, by omega, by go_num, gbTrans gr (gbDrewN _ _ _)⟩
        case measure => simp [intOf]; omega
    · clear HG
      have R7 := hideIt (R6.out.kept gr)
      have m7 := hideIt (m6.out.kept gr)
      have G7 := gbTrans G6 gr
      clear R6 m6 G6 gr
      by_cases c : f = 0
      · subst c
        obtain ⟨X, rfl, hX⟩ := M.to_lt ht.out
        have e2 := R7.out.two.cell hX
        rw [sw_yes ht.out, if_pos rfl] at e2
        obtain ⟨⟨y, g⟩, ht2⟩ : ∃ y, M.to n (M.sw n F a2 (A : Int) v) a2 (A : Int) false = y := ⟨_, rfl⟩
        have HT := fun w' (k : wr.grownBy w' none) => to_is w' p b n _ a2 A false y g (m7.out.kept k) ht2
        by_cases d : g = 0 ∧ y = (X : Int)
        · obtain ⟨rfl, rfl⟩ := d
          have hl := ld_of ht.out ht2
          have HL := fun w' (k : wr.grownBy w' none) => load_is w' p b n _ a2 A v 0 (m7.out.kept k) hl
          clear ht2 hl ht
          go_wp2_with fail
          refine (HT _ (gbRefl _ _)).mono ?_
          rintro e w8 ⟨rfl, g8⟩
          go_wp2_with ((go_at_call 15; refine (HL _ g8).mono ?_; rintro e w9 ⟨rfl, g9⟩))
          · go_ret
            exact ⟨rfl, gbTrans G7 g8⟩
          · go_ret
            exact ⟨rfl, gbTrans (gbTrans G7 g8) g9⟩
        · have d' : (g != 0) = true ∨ ((g != 0) = false ∧ (y != (X : Int)) = true) := by
            by_cases e : g = 0
            · exact .inr ⟨by simp [e], by simp; exact fun h => d ⟨e, h⟩⟩
            · exact .inl (by simp [e])
          clear d ht2 ht
          rcases d' with d | ⟨d, d2⟩
          all_goals
            go_wp2_with fail
            refine (HT _ (gbRefl _ _)).mono ?_
            rintro e w8 ⟨rfl, g8⟩
            go_wp2
            all_goals go_ret
            all_goals exact ⟨rfl, gbTrans G7 g8⟩
      · have c1 : (f != 0) = true := by simp [c]
        clear ht c
        go_wp2
        go_ret
        exact ⟨rfl, G7⟩

theorem walk (a0 : Int) (x1 : Option Addr) (len1 cap1 : Nat) (a2 a3 : Int) (a4 : Int) (w4 : (Lit.int .u64 a4).wf = true) (w : World) (hx1 : Ws w x1 len1) :
    Calls Try.prog 4 #[.int .i64 a0, .slice x1 len1 cap1, .int .i64 a2, .int .i64 a3, .int .u64 a4] w fun e w' => e = .returned (.bool true) ∧ Below w.heap.size w w' := by
  refine endWalk ?_
  have u4 := u64_wf w4
  obtain ⟨v, rfl⟩ : ∃ v : Nat, a4 = v := ⟨a4.toNat, by have := u4.1; omega⟩
  obtain ⟨U, n, u1, u2, n0, n1⟩ := sizeArg a0
  obtain ⟨V, k, v1, v2, v3⟩ := modArg a3 4096 (by omega)
  exact core a0 x1 len1 cap1 a2 a3 v n V k w (fun w' g => made_is a0 n x1 len1 cap1 w' U u1 u2 n0 n1 (hx1.kept g)) v1 v2 v3 n1 (by have := u4.2; omega)

set_option maxRecDepth 100000 in
theorem lifted (os : Os) (started : os.Started) (H : Type) (enc : TypeId × Value → H) :
    ReturnsInHanded {} Try.checked os 4 .any (Rows.walkStoresSpec.pre6 enc Try.prog Try.f4 Rows.walkStoresRow.domain false) (Rows.walkStoresSpec.post enc Try.prog Try.f4 false true false false) := by
  refine returnsInHanded_of_change (C := Try.checked) own started (by kernel_rfl) Try.func4
    (ChangeSpec.witness6 (enc := enc) (C := Try.checked) false ⟨#[], #[.int .i64 0, .slice none 0 0, .int .i64 0, .int .i64 0, .int .u64 0], []⟩ 8 (by kernel_rfl) (by kernel_rfl) (by kernel_rfl) (by kernel_rfl)) ?_
  intro W base args ds gs before hval0 hW hcnd _
  have hval : ∀ (j : Nat) t v, Try.f4.params[j]? = some t → args[j]? = some v → Value.okWide Try.prog W .any base t v := hval0
  have hW' := hW
  obtain ⟨p, q, hA0, hV, rfl, hfz, hnd⟩ := hW
  have hA : DataW.TrodAll enc Try.prog W 0 (fun _ => true) true Try.f4.params.toList args.toList ds p := hA0
  rw [Try.params4] at hA hval
  obtain ⟨v0, vs0, d0, ds0, p0, q0, hargs, rfl, rfl, h0, r0⟩ := trodAll_cons hA
  obtain ⟨v1, vs1, d1, ds1, p1, q1, rfl, rfl, rfl, h1, r1⟩ := trodAll_cons r0
  obtain ⟨v2, vs2, d2, ds2, p2, q2, rfl, rfl, rfl, h2, r2⟩ := trodAll_cons r1
  obtain ⟨v3, vs3, d3, ds3, p3, q3, rfl, rfl, rfl, h3, r3⟩ := trodAll_cons r2
  obtain ⟨v4, vs4, d4, ds4, p4, q4, rfl, rfl, rfl, h4, r4⟩ := trodAll_cons r3
  obtain ⟨rfl, rfl, rfl⟩ := trodAll_nil r4
  obtain rfl : args = #[v0, v1, v2, v3, v4] := by cases args; simp_all
  obtain ⟨rfl, rfl⟩ := trodVars_none hV
  obtain ⟨a0, rfl, rfl, rfl, w0⟩ := open_int Try.underlying3 (hval 0 3 v0 rfl rfl) h0
  obtain ⟨x1, len1, cap1, rfl⟩ := okWide_slice Try.underlying22 (hval 1 22 v1 rfl rfl)
  have hx1 := wordsArg h1
  have k1 := h1
  have lt1 : ∀ x ∈ p1, x.block < W.heap.size := by obtain ⟨m, hm⟩ := k1; exact DataW.trod_lt m _ _ _ hm
  obtain ⟨a2, rfl, rfl, rfl, w2⟩ := open_int Try.underlying3 (hval 2 3 v2 rfl rfl) h2
  obtain ⟨a3, rfl, rfl, rfl, w3⟩ := open_int Try.underlying3 (hval 3 3 v3 rfl rfl) h3
  obtain ⟨a4, rfl, rfl, rfl, w4⟩ := open_int Try.underlying41 (hval 4 41 v4 rfl rfl) h4
  clear hA0 hval0
  refine (walk a0 x1 len1 cap1 a2 a3 a4 w4 W hx1).mono fun e W' ⟨he, bel⟩ => ?_
  subst he
  exact ⟨_, rfl, _, _, _, [], _, [], hW', trodAll_mk1 (shut_bool Try.underlying4 _), (trodAll_cons_mk (shut_int Try.underlying3 w0) (trodAll_cons_mk (Below.trod laidOut (by kernel_rfl) (of_decide_eq_true (by kernel_rfl)) k1 bel lt1) (trodAll_cons_mk (shut_int Try.underlying3 w2) (trodAll_cons_mk (shut_int Try.underlying3 w3) (trodAll_cons_mk (shut_int Try.underlying41 w4) trodAll_mk0))))), rfl, bel.frame _, fun h => by cases h⟩

theorem over : Rows.walkStoresRow.holds Try.pinned (OpenSpec.ofChange Rows.walkStoresSpec) :=
  OpenClaim.holds_of_wide 4 Try.f4 rfl rfl rfl rfl rfl rfl rfl ⟨rfl, rfl, rfl, rfl, rfl⟩ rfl rfl rfl rfl rfl (by kernel_rfl) Try.func4 (by kernel_rfl)
    (of_decide_eq_true (by kernel_rfl)) (by unfold Func.isWrapper; first | (rw [if_pos (by decide +kernel)]; kernel_rfl) | (rw [if_neg (by decide +kernel)]; exact ⟨rfl, rfl⟩))
    (fun os started H enc _ => lifted os started H enc)

theorem proved : Rows.WalkStoresSaid := over
end Go.Proofs.Ytgneacfiabpfmaa.walkStores
namespace Go.Proofs.Ytgneacfiabpfmaa
theorem walkStores_holds : Rows.WalkStoresSaid := walkStores.proved
#print axioms walkStores_holds
end Go.Proofs.Ytgneacfiabpfmaa
