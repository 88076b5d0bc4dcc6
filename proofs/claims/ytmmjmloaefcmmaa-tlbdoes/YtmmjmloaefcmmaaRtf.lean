/-
  THE DOCUMENT's SIDE: the contract of donjonref14's Fill.
-/
import Derived.Test.YtmmjmloaefcmmaaRtg
namespace Go.Proofs.Ytmmjmloaefcmmaa
set_option maxRecDepth 10000
open Go.RowKit
set_option linter.unusedVariables false

set_option maxHeartbeats 1000000 in
theorem rfill_no1 (w : World) (t : Nat) (s p : Int) (v o : Bool) (a : Int) (h : (M.nr s && M.np p) = false) :
    Calls Try.prog 14 #[.pointer (some ⟨t, 0, none⟩), .int .i64 s, .int .i64 p, ev ⟨v, o, a⟩] w fun e w' => e = .returned (.int .i64 1) ∧ w.grownBy w' none := by
  have G := gbAlloc w (.cells #[.bool v, .bool o, .int .i64 a] 35) none
  by_cases c1 : M.nr s = true
  · have c2 : M.np p = false := by rw [c1] at h; simpa using h
    by_cases c3 : p < 0
    · go_enter Try.func14, Try.ntmps14
      go_wp2_with fail
      refine (number_is s true c1 _).mono ?_
      rintro e w1 ⟨rfl, rfl⟩
      go_wp2
      go_ret
      exact ⟨rfl, G⟩
    · have c4 : 255 < p := by
        simp only [M.np] at c2
        by_cases c : 255 < p
        · exact c
        · rw [decide_eq_true (by omega), decide_eq_true (by omega)] at c2; cases c2
      clear c2
      go_enter Try.func14, Try.ntmps14
      go_wp2_with fail
      refine (number_is s true c1 _).mono ?_
      rintro e w1 ⟨rfl, rfl⟩
      go_wp2
      go_ret
      exact ⟨rfl, G⟩
  · have c1 : M.nr s = false := by simpa using c1
    go_enter Try.func14, Try.ntmps14
    go_wp2_with fail
    refine (number_is s false c1 _).mono ?_
    rintro e w1 ⟨rfl, rfl⟩
    go_wp2
    go_ret
    exact ⟨rfl, G⟩

set_option maxHeartbeats 1000000 in
theorem rfill_no10 (w : World) (t : Nat) (s p : Int) (v o : Bool) (a : Int) (h1 : M.nr s = true) (h2 : M.np p = true) (h : (v && M.ce ⟨v, o, a⟩ == 0) = false) :
    Calls Try.prog 14 #[.pointer (some ⟨t, 0, none⟩), .int .i64 s, .int .i64 p, ev ⟨v, o, a⟩] w fun e w' => e = .returned (.int .i64 10) ∧ w.grownBy w' none := by
  have G := gbAlloc w (.cells #[.bool v, .bool o, .int .i64 a] 35) none
  have X : Box (w.alloc (.cells #[.bool v, .bool o, .int .i64 a] 35)) w.heap.size ⟨v, o, a⟩ := Box.made w ⟨v, o, a⟩ _
  obtain ⟨⟨x, f⟩, hp⟩ : ∃ q, M.pk ⟨v, o, a⟩ = q := ⟨_, rfl⟩
  have HP := fun w => rpack_is v o a x f hp w
  have hf : f = M.ce ⟨v, o, a⟩ := by
    unfold M.pk at hp
    split at hp
    · simp only [Prod.mk.injEq] at hp; omega
    · simp only [Prod.mk.injEq] at hp; exact hp.2.symm
  rw [← hf] at h
  have p0 : ¬ p < 0 := by simp only [M.np, Bool.and_eq_true, decide_eq_true_eq] at h2; omega
  have p1 : ¬ 255 < p := by simp only [M.np, Bool.and_eq_true, decide_eq_true_eq] at h2; omega
  clear hp hf h2
  cases v
  · go_enter Try.func14, Try.ntmps14
    go_wp2_with fail
    refine (number_is s true h1 _).mono ?_
    rintro e w1 ⟨rfl, rfl⟩
    go_wp2_with fail
    refine (HP _).mono ?_
    rintro e w1 ⟨rfl, g1⟩
    obtain ⟨a0, a1, a2⟩ := (X.kept g1).at'
    simp only at a0 a1 a2
    go_wp2
    go_ret
    exact ⟨rfl, gbTrans G g1⟩
  · have hf0 : (f != 0) = true := by simpa using h
    go_enter Try.func14, Try.ntmps14
    go_wp2_with fail
    refine (number_is s true h1 _).mono ?_
    rintro e w1 ⟨rfl, rfl⟩
    go_wp2_with fail
    refine (HP _).mono ?_
    rintro e w1 ⟨rfl, g1⟩
    obtain ⟨a0, a1, a2⟩ := (X.kept g1).at'
    simp only at a0 a1 a2
    go_wp2
    go_ret
    exact ⟨rfl, gbTrans G g1⟩

set_option maxHeartbeats 4000000 in
theorem rfill_yes {w0 w : World} {O : Nat → Prop} {t : Nat} {L : List K} (h : Tr w0 w O t L) (s p : Int) (v o : Bool) (a : Int) (hf : M.kfe s p ⟨v, o, a⟩ = 0) :
    Calls Try.prog 14 #[.pointer (some ⟨t, 0, none⟩), .int .i64 s, .int .i64 p, ev ⟨v, o, a⟩] w fun e w' => e = .returned (.int .i64 0) ∧ Tr w0 w' (wide O w w') t (M.kput L s p ⟨v, o, a⟩) ∧ Fr O w w' := by
  obtain ⟨h1, h2, h3, h4⟩ := M.kfe_ok hf
  simp only at h3
  subst h3
  have HG := hideIt (h.gd.kput hf)
  have G := gbAlloc w (.cells #[.bool true, .bool o, .int .i64 a] 35) none
  have X : Box (w.alloc (.cells #[.bool true, .bool o, .int .i64 a] 35)) w.heap.size ⟨true, o, a⟩ := Box.made w ⟨true, o, a⟩ _
  obtain ⟨⟨x, f⟩, hp⟩ : ∃ q, M.pk ⟨true, o, a⟩ = q := ⟨_, rfl⟩
  have HP := fun w => rpack_is true o a x f hp w
  have hf0 : f = 0 := by
    unfold M.pk at hp
    rw [if_pos h4] at hp
    simp only [Prod.mk.injEq] at hp; exact hp.2.symm
  subst hf0
  have hxO : ¬ O w.heap.size := fun e => by have := (h.lo _ e).2; omega
  have HT := hideIt h
  have p0 : ¬ p < 0 := by simp only [M.np, Bool.and_eq_true, decide_eq_true_eq] at h2; omega
  have p1 : ¬ 255 < p := by simp only [M.np, Bool.and_eq_true, decide_eq_true_eq] at h2; omega
  clear hp hf h4 h h2
  go_enter Try.func14, Try.ntmps14
  go_wp2_with fail
  refine (number_is s true h1 _).mono ?_
  rintro e w1 ⟨rfl, rfl⟩
  go_wp2_with fail
  refine (HP _).mono ?_
  rintro e w1 ⟨rfl, g1⟩
  have X1 := X.kept g1
  have G1 := gbTrans G g1
  obtain ⟨a0, a1, a2⟩ := X1.at'
  simp only at a0 a1 a2
  clear X G HP h1 g1
  go_wp2_with fail
  refine (rdrop_is (HT.out.kept G1) s p).mono ?_
  rintro e w2 ⟨rfl, T2, F2⟩
  have hx1 : w.heap.size < w1.heap.size := X1.lt
  have X2 := F2.box X1 hxO
  have T2 := hideIt T2
  have F2 := hideIt F2
  have hx2 : ¬ wide O w1 w2 w.heap.size := wideNo hxO hx1
  have hs1 : w0.heap.size ≤ w1.heap.size := Nat.le_trans HT.out.gr.size G1.size
  have l8 := (HT.out.gd.kd s p).len
  clear a0 a1 a2 X1 p0 p1
  by_cases h8 : (M.kd L s p).length = 8
  · obtain ⟨v2, e1, e2, _⟩ := T2.out.ex
    obtain ⟨g, cap, rfl, hcap, _, _, hcap2⟩ := e2.has h8 (by omega)
    have c0 := cellOf e1
    have ga : w2.grownBy (w2.alloc (.cells #[] 95)) none := gbAlloc _ _ _
    have c1 := ga.cell c0 (by simp)
    have fz1 : (w2.alloc (.cells #[] 95)).frozen? ⟨t, 0, none⟩ = false := (gbFrozen ga T2.out.tlt (by simp)).trans (frozenOf e1 0)
    have L0 : KL 95 (w2.alloc (.cells #[] 95)) w2.heap.size (.slice (some ⟨w2.heap.size, 0, none⟩) 0 0) [] := World.ownsRow_lit (base := w2.heap.size) (e := 95) (size := 5) w2 #[] 0 (Nat.le_refl _) (by decide) rfl
    have e8 : ((M.kd L s p).drop 1).length = 7 := by rw [List.length_drop, h8]
    obtain ⟨x8, n8, c8, w8, hr, HL8, G8⟩ := L0.push ga ⟨g, 1 * 5, none⟩ 7 (cap - 1) ((M.kd L s p).drop 1) e8 (fun j u hu => by
      rw [cellsK_drop, List.getElem?_drop] at hu
      have := World.ownsRow.cells (e2.kept ga) (g := g) rfl (1 * 5 + j) u hu
      rw [Addr.add_lit] at this ⊢
      simpa using this) (by simp)
    rw [List.nil_append] at HL8
    obtain ⟨T3, F3⟩ := Tb_swap T2.out G8.out HL8.out ((HT.out.gd.kd s p).sub (List.drop_sublist 1 _))
    have X8 := (X2.kept G8.out)
    have c8t := G8.out.cell c0 (by simp)
    have f8t := (gbFrozen G8.out T2.out.tlt (by simp)).trans (frozenOf e1 0)
    have hc9 : (8 : Int) ≤ (cap : Int) := by omega
    have hc10 : (1 : Int) ≤ (cap : Int) := by omega
    have T3 := hideIt T3
    have F3 := hideIt F3
    clear L0 HL8 e1 e2 ga e8
    go_upto_region 9 with (at_builtin; refine wpList_append_kr rfl (.tmp 45) (.tmp 50) rfl _ _ rfl rfl (.slice x8 n8 c8) w8 hr ?_)
    clear hr c0 c1 fz1 c8t f8t X8
    have X3 := F3.out.box X2 hx2
    obtain ⟨W3, hW3⟩ : ∃ W3, w8.setCell ⟨t, 0, none⟩ (.slice x8 n8 c8) = W3 := ⟨_, rfl⟩
    rw [hW3] at T3 F3 X3
    rw [hW3]
    clear hW3
    have lx3 := X3.lt
    obtain ⟨a0, a1, a2⟩ := X3.at'
    simp only at a0 a1 a2
    obtain ⟨x0, n0, c0, x, n, cap, w6, b1, b2, b3, b4, b5, b6⟩ := Tb_push T3.out ⟨s, p, ⟨true, o, a⟩⟩ (by have := HG.out; unfold M.kput M.kl at this; rw [if_pos h8] at this; rw [List.drop_one]; exact this) run_append_r
    have hq1 : ¬ t = W3.heap.size := by omega
    have hq2 : ¬ W3.heap.size = t := by omega
    have hq3 : ¬ w.heap.size = W3.heap.size := by omega
    have hq4 : ¬ W3.heap.size = w.heap.size := by omega
    have HE := hideIt (Tb_wider HT.out G1 (Tb_then hs1 F2.out (Tb_then (Nat.le_trans hs1 F2.out.size) F3.out b6.out)).1 (Tb_then hs1 F2.out (Tb_then (Nat.le_trans hs1 F2.out.size) F3.out b6.out)).2)
    have HK : Hid (M.kput L s p ⟨true, o, a⟩ = (M.kd L s p).drop 1 ++ [⟨s, p, ⟨true, o, a⟩⟩]) := hideIt (by unfold M.kput M.kl; rw [if_pos h8, List.drop_one])
    clear b6 T3 F3 T2 F2 X2 X3
    go_region_law (refine step_append_run rfl (.tmp 58) (.tmp 63) rfl (.slice x0 n0 c0) (.slice (some ⟨W3.heap.size, 0, none⟩) 1 1) rfl rfl (.slice x n cap) w6 b2 ?_)
    all_goals (go_wp2; go_ret; exact ⟨rfl, by rw [HK.out]; exact HE.out⟩)
  · obtain ⟨l9, hl9⟩ : ∃ l9, (M.kd L s p).length = l9 := ⟨_, rfl⟩
    obtain ⟨xx, cc, hcc⟩ := T2.out.sliceAt
    rw [hl9] at hcc
    have hlt : (l9 : Int) < 8 := by omega
    have hl9 := hideIt hl9
    have lx3 := X2.lt
    obtain ⟨a0, a1, a2⟩ := X2.at'
    simp only at a0 a1 a2
    obtain ⟨x0, n0, c0, x, n, cap, w6, b1, b2, b3, b4, b5, b6⟩ := Tb_push T2.out ⟨s, p, ⟨true, o, a⟩⟩ (by have := HG.out; unfold M.kput M.kl at this; rw [if_neg h8] at this; exact this) run_append_r
    have hq1 : ¬ t = w2.heap.size := by omega
    have hq2 : ¬ w2.heap.size = t := by omega
    have hq3 : ¬ w.heap.size = w2.heap.size := by omega
    have hq4 : ¬ w2.heap.size = w.heap.size := by omega
    have HE := hideIt (Tb_wider HT.out G1 (Tb_then hs1 F2.out b6.out).1 (Tb_then hs1 F2.out b6.out).2)
    have HK : Hid (M.kput L s p ⟨true, o, a⟩ = M.kd L s p ++ [⟨s, p, ⟨true, o, a⟩⟩]) := hideIt (by unfold M.kput M.kl; rw [if_neg h8])
    have hx0 : (Value.slice x0 n0 c0) = .slice xx l9 cc := by rw [b1] at hcc; exact Option.some.inj hcc
    simp only [Value.slice.injEq] at hx0
    obtain ⟨rfl, rfl, rfl⟩ := hx0
    clear b6 T2 F2 X2 h8 hcc
    go_upto_region 9 with fail
    go_region_law (refine step_append_run rfl (.tmp 58) (.tmp 63) rfl (.slice x0 n0 c0) (.slice (some ⟨w2.heap.size, 0, none⟩) 1 1) rfl rfl (.slice x n cap) w6 b2 ?_)
    all_goals (go_wp2; go_ret; exact ⟨rfl, by rw [HK.out]; exact HE.out⟩)

theorem rfill_is {w0 w : World} {O : Nat → Prop} {t : Nat} {L : List K} (h : Tr w0 w O t L) (s p : Int) (v o : Bool) (a f : Int) (hf : M.kfe s p ⟨v, o, a⟩ = f) :
    Calls Try.prog 14 #[.pointer (some ⟨t, 0, none⟩), .int .i64 s, .int .i64 p, ev ⟨v, o, a⟩] w fun e w' => e = .returned (.int .i64 f) ∧ Tr w0 w' (wide O w w') t (M.kf L s p ⟨v, o, a⟩) ∧ Fr O w w' := by
  subst hf
  by_cases h0 : M.kfe s p ⟨v, o, a⟩ = 0
  · unfold M.kf
    rw [if_pos h0, h0]
    exact rfill_yes h s p v o a h0
  · unfold M.kf
    rw [if_neg h0]
    unfold M.kfe at h0 ⊢
    by_cases c1 : (M.nr s && M.np p) = false
    · rw [if_pos c1]
      exact (rfill_no1 w t s p v o a c1).mono fun e w' ⟨q1, q2⟩ => ⟨q1, h.wide q2, Fr.grown q2⟩
    · rw [if_neg c1] at h0 ⊢
      by_cases c2 : (v && M.ce ⟨v, o, a⟩ == 0) = false
      · rw [if_pos c2]
        simp only [Bool.not_eq_false, Bool.and_eq_true] at c1
        exact (rfill_no10 w t s p v o a c1.1 c1.2 c2).mono fun e w' ⟨q1, q2⟩ => ⟨q1, h.wide q2, Fr.grown q2⟩
      · rw [if_neg c2] at h0
        exact absurd rfl h0
end Go.Proofs.Ytmmjmloaefcmmaa
