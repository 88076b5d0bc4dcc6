/-
  THE CONTRACTS of To and Agrees.
-/
import Derived.Test.YtmmjmloaefcmmaaTto
namespace Go.Proofs.Ytmmjmloaefcmmaa
set_option maxRecDepth 10000
open Go.RowKit
set_option linter.unusedVariables false

set_option maxHeartbeats 1000000 in
theorem tto_range (w : World) (t m : Nat) (s dir a : Int) (wr : Bool) (h : (M.nr s && M.isA a) = false) :
    Calls Try.prog 10 #[.pointer (some ⟨t, 0, none⟩), .pointer (some ⟨m, 0, none⟩), .int .i64 s, .int .i64 dir, .int .i64 a, .bool wr] w fun e w' => e = .returned (.tuple #[.int .i64 0, .int .i64 1]) ∧ w.grownBy w' none := by
  by_cases c : M.isA a = true
  · have c1 : M.nr s = false := by rw [c] at h; simpa using h
    have HS := fun w => split_is a (a / 256) (a / 16 % 16) (a % 16) 0 (by unfold M.sp; rw [if_pos c]) w
    go_enter Try.func10, Try.ntmps10
    go_wp2_with fail
    refine (HS _).mono ?_
    rintro e w1 ⟨rfl, g1⟩
    go_wp2_with fail
    refine (isSpace_is s false c1 _).mono ?_
    rintro e w2 ⟨rfl, rfl⟩
    go_wp2
    exact bodyPost_ret (v := .tuple #[.int .i64 0, .int .i64 1]) (by simp [results, Try.results10, go_sem]) rfl ⟨rfl, g1⟩
  · have HS := fun w => split_is a 0 0 0 1 (by unfold M.sp; rw [if_neg c]) w
    go_enter Try.func10, Try.ntmps10
    go_wp2_with fail
    refine (HS _).mono ?_
    rintro e w1 ⟨rfl, g1⟩
    go_wp2
    exact bodyPost_ret (v := .tuple #[.int .i64 0, .int .i64 1]) (by simp [results, Try.results10, go_sem]) rfl ⟨rfl, g1⟩

theorem Tb_after {ty tk : TypeId} {w0 w w' w'' : World} {O : Nat → Prop} {t : Nat} {L : List K} (h : Tb ty tk w0 w' (wide O w w') t L) (g : w'.grownBy w'' none) (hs : w0.heap.size ≤ w.heap.size) : Tb ty tk w0 w'' (wide O w w'') t L := by
  have s1 := g.size
  refine (h.kept g).mono (fun i hi => ?_) (fun i hi => ?_)
  · rcases hi with hi | hi
    · exact .inl hi
    · exact .inr ⟨hi.1, by omega⟩
  · rcases hi with hi | hi
    · have := h.lo i (.inl hi)
      omega
    · omega
set_option maxHeartbeats 1000000 in
theorem tto_err {w0 w : World} {O : Nat → Prop} {t : Nat} {L L' : List K} (h : Tp w0 w O t L) (m : Nat) (s dir a : Int) (wr v o : Bool) (x y1 y2 z f : Int) (hs : M.nr s = true)
    (HS : ∀ w, Calls Try.prog 33 #[.int .i64 a] w fun e w' => e = .returned (.tuple #[.int .i64 y1, .int .i64 y2, .int .i64 z, .int .i64 0]) ∧ w.grownBy w' none)
    (HE : ∀ w', w.grownBy w' none → Calls Try.prog 35 #[.pointer (some ⟨t, 0, none⟩), .pointer (some ⟨m, 0, none⟩), .int .i64 s, .int .i64 dir, .int .i64 a] w' fun e w'' => e = .returned (.tuple #[ev ⟨v, o, x⟩, .int .i64 f]) ∧ Tp w0 w'' (wide O w' w'') t L' ∧ Fr O w' w'') (hf : (f != 0) = true) :
    Calls Try.prog 10 #[.pointer (some ⟨t, 0, none⟩), .pointer (some ⟨m, 0, none⟩), .int .i64 s, .int .i64 dir, .int .i64 a, .bool wr] w fun e w' => e = .returned (.tuple #[.int .i64 0, .int .i64 f]) ∧ Tp w0 w' (wide O w w') t L' ∧ Fr O w w' := by
  have HT := hideIt h
  clear h
  go_enter Try.func10, Try.ntmps10
  go_wp2_with fail
  refine (HS _).mono ?_
  rintro e w1 ⟨rfl, g1⟩
  go_wp2_with fail
  refine (isSpace_is s true hs _).mono ?_
  rintro e w2 ⟨rfl, rfl⟩
  go_wp2_with fail
  refine (HE _ g1).mono ?_
  rintro e w3 ⟨rfl, T3, F3⟩
  go_upto_region 5 with fail
  obtain ⟨W4, hW4, Y, h4⟩ := boxNew w3 ⟨v, o, x⟩ 44
  simp only at hW4
  rw [hW4]
  clear hW4
  have HW := hideIt (Tb_wider HT.out g1 (Tb_after T3 h4 (Nat.le_trans HT.out.gr.size g1.size)) (F3.trans (Fr.grown h4)))
  obtain ⟨z0, z1, z2⟩ := Y.at'
  simp only at z0 z1 z2
  clear T3 F3 Y h4 HE HS g1
  go_wp2
  exact bodyPost_ret (v := .tuple #[.int .i64 0, .int .i64 f]) (by simp [results, Try.results10, go_sem]) rfl ⟨rfl, HW.out⟩

set_option maxHeartbeats 1000000 in
theorem tto_rights {w0 w : World} {O : Nat → Prop} {t : Nat} {L L' : List K} (h : Tp w0 w O t L) (m : Nat) (s dir a : Int) (v : Bool) (x y1 y2 z : Int) (hs : M.nr s = true)
    (HS : ∀ w, Calls Try.prog 33 #[.int .i64 a] w fun e w' => e = .returned (.tuple #[.int .i64 y1, .int .i64 y2, .int .i64 z, .int .i64 0]) ∧ w.grownBy w' none)
    (HE : ∀ w', w.grownBy w' none → Calls Try.prog 35 #[.pointer (some ⟨t, 0, none⟩), .pointer (some ⟨m, 0, none⟩), .int .i64 s, .int .i64 dir, .int .i64 a] w' fun e w'' => e = .returned (.tuple #[ev ⟨v, false, x⟩, .int .i64 0]) ∧ Tp w0 w'' (wide O w' w'') t L' ∧ Fr O w' w'') :
    Calls Try.prog 10 #[.pointer (some ⟨t, 0, none⟩), .pointer (some ⟨m, 0, none⟩), .int .i64 s, .int .i64 dir, .int .i64 a, .bool true] w fun e w' => e = .returned (.tuple #[.int .i64 0, .int .i64 5]) ∧ Tp w0 w' (wide O w w') t L' ∧ Fr O w w' := by
  have HT := hideIt h
  clear h
  go_enter Try.func10, Try.ntmps10
  go_wp2_with fail
  refine (HS _).mono ?_
  rintro e w1 ⟨rfl, g1⟩
  go_wp2_with fail
  refine (isSpace_is s true hs _).mono ?_
  rintro e w2 ⟨rfl, rfl⟩
  go_wp2_with fail
  refine (HE _ g1).mono ?_
  rintro e w3 ⟨rfl, T3, F3⟩
  go_upto_region 5 with fail
  obtain ⟨W4, hW4, Y, h4⟩ := boxNew w3 ⟨v, false, x⟩ 44
  simp only at hW4
  rw [hW4]
  clear hW4
  have HW := hideIt (Tb_wider HT.out g1 (Tb_after T3 h4 (Nat.le_trans HT.out.gr.size g1.size)) (F3.trans (Fr.grown h4)))
  obtain ⟨z0, z1, z2⟩ := Y.at'
  simp only at z0 z1 z2
  clear T3 F3 Y h4 HE HS g1
  go_wp2
  exact bodyPost_ret (v := .tuple #[.int .i64 0, .int .i64 5]) (by simp [results, Try.results10, go_sem]) rfl ⟨rfl, HW.out⟩

set_option maxHeartbeats 1000000 in
theorem tto_yes {w0 w : World} {O : Nat → Prop} {t : Nat} {L L' : List K} (h : Tp w0 w O t L) (m : Nat) (s dir a : Int) (wr v o : Bool) (x y1 y2 z X : Int) (hs : M.nr s = true)
    (HS : ∀ w, Calls Try.prog 33 #[.int .i64 a] w fun e w' => e = .returned (.tuple #[.int .i64 y1, .int .i64 y2, .int .i64 z, .int .i64 0]) ∧ w.grownBy w' none)
    (HE : ∀ w', w.grownBy w' none → Calls Try.prog 35 #[.pointer (some ⟨t, 0, none⟩), .pointer (some ⟨m, 0, none⟩), .int .i64 s, .int .i64 dir, .int .i64 a] w' fun e w'' => e = .returned (.tuple #[ev ⟨v, o, x⟩, .int .i64 0]) ∧ Tp w0 w'' (wide O w' w'') t L' ∧ Fr O w' w'') (hw : wr = false ∨ (wr = true ∧ o = true)) (hX : x + z = X) (b0 : 0 ≤ X) (b1 : X ≤ 70000) :
    Calls Try.prog 10 #[.pointer (some ⟨t, 0, none⟩), .pointer (some ⟨m, 0, none⟩), .int .i64 s, .int .i64 dir, .int .i64 a, .bool wr] w fun e w' => e = .returned (.tuple #[.int .i64 X, .int .i64 0]) ∧ Tp w0 w' (wide O w w') t L' ∧ Fr O w w' := by
  have HT := hideIt h
  clear h
  rcases hw with rfl | ⟨rfl, rfl⟩
  · go_enter Try.func10, Try.ntmps10
    go_wp2_with fail
    refine (HS _).mono ?_
    rintro e w1 ⟨rfl, g1⟩
    go_wp2_with fail
    refine (isSpace_is s true hs _).mono ?_
    rintro e w2 ⟨rfl, rfl⟩
    go_wp2_with fail
    refine (HE _ g1).mono ?_
    rintro e w3 ⟨rfl, T3, F3⟩
    go_upto_region 5 with fail
    obtain ⟨W4, hW4, Y, h4⟩ := boxNew w3 ⟨v, o, x⟩ 44
    simp only at hW4
    rw [hW4]
    clear hW4
    have HW := hideIt (Tb_wider HT.out g1 (Tb_after T3 h4 (Nat.le_trans HT.out.gr.size g1.size)) (F3.trans (Fr.grown h4)))
    obtain ⟨z0, z1, z2⟩ := Y.at'
    simp only at z0 z1 z2
    clear T3 F3 Y h4 HE HS g1
    go_wp2
    exact bodyPost_ret (v := .tuple #[.int .i64 X, .int .i64 0]) (by simp [results, Try.results10, go_sem]) rfl ⟨rfl, HW.out⟩
  · go_enter Try.func10, Try.ntmps10
    go_wp2_with fail
    refine (HS _).mono ?_
    rintro e w1 ⟨rfl, g1⟩
    go_wp2_with fail
    refine (isSpace_is s true hs _).mono ?_
    rintro e w2 ⟨rfl, rfl⟩
    go_wp2_with fail
    refine (HE _ g1).mono ?_
    rintro e w3 ⟨rfl, T3, F3⟩
    go_upto_region 5 with fail
    obtain ⟨W4, hW4, Y, h4⟩ := boxNew w3 ⟨v, true, x⟩ 44
    simp only at hW4
    rw [hW4]
    clear hW4
    have HW := hideIt (Tb_wider HT.out g1 (Tb_after T3 h4 (Nat.le_trans HT.out.gr.size g1.size)) (F3.trans (Fr.grown h4)))
    obtain ⟨z0, z1, z2⟩ := Y.at'
    simp only at z0 z1 z2
    clear T3 F3 Y h4 HE HS g1
    go_wp2
    exact bodyPost_ret (v := .tuple #[.int .i64 X, .int .i64 0]) (by simp [results, Try.results10, go_sem]) rfl ⟨rfl, HW.out⟩

theorem tto_is {w0 w : World} {O : Nat → Prop} {t : Nat} {L L' : List K} (h : Tp w0 w O t L) {m b n : Nat} {F : Nat → Nat} (hm : Mm w m b n F) (s dir a : Int) (wr : Bool) (x f : Int) (hk : M.kt n F L s dir a wr = (x, f, L')) :
    Calls Try.prog 10 #[.pointer (some ⟨t, 0, none⟩), .pointer (some ⟨m, 0, none⟩), .int .i64 s, .int .i64 dir, .int .i64 a, .bool wr] w fun e w' => e = .returned (.tuple #[.int .i64 x, .int .i64 f]) ∧ Tp w0 w' (wide O w w') t L' ∧ Fr O w w' := by
  unfold M.kt at hk
  by_cases c1 : (M.nr s && M.isA a) = false
  · rw [if_pos c1] at hk
    simp only [Prod.mk.injEq] at hk
    obtain ⟨rfl, rfl, rfl⟩ := hk
    exact (tto_range w t m s dir a wr c1).mono fun e w' ⟨q1, q2⟩ => ⟨q1, h.wide q2, Fr.grown q2⟩
  · rw [if_neg c1] at hk
    simp only [Bool.not_eq_false, Bool.and_eq_true] at c1
    obtain ⟨hs, ha⟩ := c1
    obtain ⟨A, rfl, hA⟩ := M.isA_nat ha
    have HS := fun w => split_is (A : Int) ((A : Int) / 256) ((A : Int) / 16 % 16) ((A : Int) % 16) 0 (by unfold M.sp; rw [if_pos ha]) w
    have hn := hm.is.hi
    obtain ⟨⟨⟨v, o, y⟩, g, D⟩, he⟩ : ∃ q, M.kte n F L s dir (A : Int) = q := ⟨_, rfl⟩
    have HE := fun w' (k : w.grownBy w' none) => tentry_is (h.kept k) (hm.kept k) s dir A hA hs _ _ he
    rw [he] at hk
    simp only at hk
    by_cases c2 : g = 0
    · subst c2
      rw [if_pos rfl] at hk
      have hg := h.gd.kte (F := F) (dir := dir) (a := (A : Int)) hn hs
      have hy : 0 ≤ y ∧ y < 65536 := by
        have q : M.ce ⟨v, o, y⟩ = 0 ∧ v = true := by
          unfold M.kte at he
          by_cases c3 : (M.kg L s ((A : Int) / 16)).2 = true
          · rw [if_pos c3] at he
            simp only [Prod.mk.injEq] at he
            obtain ⟨k, k1, k2, k3, k4⟩ := M.kg_mem (e := ⟨v, o, y⟩) (show M.kg L s ((A : Int) / 16) = (_, true) from Prod.ext he.1 c3)
            have := h.gd.ent k k1
            rw [k4] at this
            exact ⟨this.2, this.1⟩
          · rw [if_neg c3] at he
            by_cases c4 : (M.pe n F dir (A : Int)).2 = 0
            · rw [if_pos c4] at he
              simp only [Prod.mk.injEq] at he
              obtain ⟨r1, r2, _⟩ := M.pe_right (c := ⟨v, o, y⟩) (show M.pe n F dir (A : Int) = (_, 0) from Prod.ext he.1 c4) hn
              exact ⟨r2, r1⟩
            · rw [if_neg c4] at he
              simp only [Prod.mk.injEq] at he
              exact absurd he.2.1 c4
        rcases M.ce_ok q.1 with ⟨_, P, rfl, hP⟩ | ⟨r, _⟩
        · omega
        · rw [q.2] at r; cases r
      by_cases c3 : (wr && !o) = true
      · rw [if_pos c3] at hk
        simp only [Prod.mk.injEq] at hk
        obtain ⟨rfl, rfl, rfl⟩ := hk
        simp only [Bool.and_eq_true, Bool.not_eq_true'] at c3
        obtain ⟨rfl, rfl⟩ := c3
        exact tto_rights h m s dir _ v y _ _ _ hs HS HE
      · rw [if_neg c3] at hk
        simp only [Prod.mk.injEq] at hk
        obtain ⟨rfl, rfl, rfl⟩ := hk
        exact tto_yes h m s dir _ wr v o y _ _ _ _ hs HS HE (by cases wr <;> cases o <;> simp_all) rfl (by omega) (by omega)
    · rw [if_neg c2] at hk
      simp only [Prod.mk.injEq] at hk
      obtain ⟨rfl, rfl, rfl⟩ := hk
      exact tto_err h m s dir _ wr v o y _ _ _ g hs HS HE (by simpa using c2)

/-! ### Agrees -/
theorem M.ka_drop {n : Nat} {F : Nat → Nat} {L : List K} {s dir : Int} {i : Nat} {k : K} (h : L[i]? = some k) : M.ka n F (L.drop i) s dir = (M.kag n F s dir k && M.ka n F (L.drop (i + 1)) s dir) := by
  obtain ⟨h1, h2⟩ := List.getElem?_eq_some_iff.1 h
  rw [List.drop_eq_getElem_cons h1, h2]
  rfl
theorem M.ka_end {n : Nat} {F : Nat → Nat} {L : List K} {s dir : Int} {i : Nat} (h : L.length ≤ i) : M.ka n F (L.drop i) s dir = true := by
  rw [List.drop_eq_nil_of_le h]; rfl

set_option maxHeartbeats 1000000 in
theorem agrees_nil (w : World) (t m cap : Nat) (x : Option Addr) (hc : w.cell? ⟨t, 0, none⟩ = some (.slice x 0 cap)) (s dir : Int) :
    Calls Try.prog 25 #[.pointer (some ⟨t, 0, none⟩), .pointer (some ⟨m, 0, none⟩), .int .i64 s, .int .i64 dir] w fun e w' => e = .returned (.bool true) ∧ w.grownBy w' none := by
  go_enter Try.func25, Try.ntmps25
  go_wp2
  go_loopg [18] 0 (fun g i wr => i = .int .i64 0 ∧ wr = w)
  case atStart => exact ⟨rfl, rfl⟩
  case round =>
    obtain ⟨rfl, rfl⟩ := hrel
    go_wp2
    go_ret
    exact ⟨rfl, gbRefl _ _⟩

set_option maxHeartbeats 2000000 in
theorem agrees_some (w : World) (t g n cap B m b nm : Nat) (F : Nat → Nat) (L : List K) (hc : w.cell? ⟨t, 0, none⟩ = some (.slice (some ⟨g, 0, none⟩) n cap)) (hl : KL 92 w B (.slice (some ⟨g, 0, none⟩) n cap) L) (hn : L.length = n) (h8 : n ≤ 1000) (hG : Good L) (hm : Mm w m b nm F) (s dir : Int) (r : Bool) (h : M.ka nm F L s dir = r) :
    Calls Try.prog 25 #[.pointer (some ⟨t, 0, none⟩), .pointer (some ⟨m, 0, none⟩), .int .i64 s, .int .i64 dir] w fun x w' => x = .returned (.bool r) ∧ w.grownBy w' none := by
  have HL := hideIt hl
  have HN := hideIt hn
  have HG := hideIt hG
  have HM := hideIt hm
  have HH := hideIt h
  have qe := eqGuard_p
  have qn := run_neq_p
  clear h hl hn hG hm
  go_enter Try.func25, Try.ntmps25
  go_wp2
  go_loopg [18] n (fun gk i wr => ∃ j : Nat, j + gk = n ∧ i = .int .i64 j ∧ w.grownBy wr none ∧ Hid (M.ka nm F (L.drop j) s dir = r))
  case atStart => exact ⟨0, by omega, rfl, gbRefl _ _, HH⟩
  case round =>
    obtain ⟨j, hj, rfl, gw, hg⟩ := hrel
    clear hc
    by_cases hlt : j < n
    · obtain ⟨k, hk⟩ : ∃ k, L[j]? = some k := ⟨L[j]'(by rw [HN.out]; exact hlt), List.getElem?_eq_getElem _⟩
      obtain ⟨k0, k1, k2, k3, k4, _, _⟩ := (HL.out.kept gw).el HN.out j k hk
      have hd := hideIt (M.ka_drop (n := nm) (F := F) (s := s) (dir := dir) hk)
      have hnp := (HG.out.num k (List.mem_of_getElem? hk)).2
      have hp0 : 0 ≤ k.p := by simp only [M.np, Bool.and_eq_true, decide_eq_true_eq] at hnp; omega
      have hp1 : k.p < 256 := by simp only [M.np, Bool.and_eq_true, decide_eq_true_eq] at hnp; omega
      clear hnp
      go_upto_region 4 with fail
      obtain ⟨W, hW, Y, gY⟩ := kelNew wr k 92
      rw [hW]
      clear hW
      have GW := gbTrans gw gY
      obtain ⟨y0, y1, y2, y3, y4, yl, yf⟩ := id Y
      have hg := hg.out
      rw [hd.out] at hg
      clear hd k0 k1 k2 k3 k4 hk
      unfold M.kag at hg
      by_cases hs : (k.s == s) = true
      · have hs2 : (k.s != s) = false := by simpa using hs
        rw [hs] at hg
        simp only [Bool.not_true, Bool.false_or] at hg
        obtain ⟨⟨⟨v, o, x⟩, f⟩, hp⟩ : ∃ q, M.pe nm F dir (k.p * 16) = q := ⟨_, rfl⟩
        rw [hp] at hg
        have HP := page_is W m b nm F dir (k.p * 16) _ _ (HM.out.kept GW) hp
        clear hp hs
        go_wp2_with fail
        refine HP.mono ?_
        rintro e w3 ⟨rfl, g3⟩
        go_upto_region 6 with fail
        obtain ⟨W4, hW4, Z, h4⟩ := boxNew w3 ⟨v, o, x⟩ 44
        simp only at hW4
        rw [hW4]
        clear hW4 y0 y1 y2 y3 y4
        have G4 := gbTrans (gbTrans GW g3) h4
        obtain ⟨y0, y1, y2, y3, y4, _, _⟩ := (Y.kept g3).kept h4
        obtain ⟨z0, z1, z2⟩ := Z.at'
        simp only at z0 z1 z2
        by_cases c1 : (f == 0) = true
        · have c2 : (f != 0) = false := by simpa using c1
          rw [c1, Bool.true_and] at hg
          by_cases c3 : M.eq ⟨v, o, x⟩ k.e = true
          · rw [c3, Bool.true_and] at hg
            have hg := hideIt hg
            have c3 : M.eq ⟨v, o, x⟩ ⟨k.e.v, k.e.w, k.e.a⟩ = true := c3
            go_wp2
            go_roundg (gk - 1)
            case rel => exact ⟨j + 1, by omega, by go_num, G4, hg⟩
            case measure => omega
          · have c3 : M.eq ⟨v, o, x⟩ k.e = false := by simpa using c3
            rw [c3, Bool.false_and] at hg
            subst hg
            have c3 : M.eq ⟨v, o, x⟩ ⟨k.e.v, k.e.w, k.e.a⟩ = false := c3
            go_wp2
            go_ret
            exact ⟨rfl, G4⟩
        · have c2 : (f != 0) = true := by simpa using c1
          have c1 : (f == 0) = false := by simpa using c1
          rw [c1, Bool.false_and, Bool.false_and] at hg
          subst hg
          go_wp2
          go_ret
          exact ⟨rfl, G4⟩
      · have hs2 : (k.s != s) = true := by simpa using hs
        have hs : (k.s == s) = false := by simpa using hs
        rw [hs] at hg
        simp only [Bool.not_false, Bool.true_or, Bool.true_and] at hg
        have hg := hideIt hg
        go_wp2
        go_roundg (gk - 1)
        case rel => exact ⟨j + 1, by omega, by go_num, GW, hg⟩
        case measure => omega
    · have hg := hg.out
      rw [M.ka_end (by rw [HN.out]; omega)] at hg
      subst hg
      go_wp2
      go_ret
      exact ⟨rfl, gw⟩

theorem agrees_is {w0 w : World} {O : Nat → Prop} {t : Nat} {L : List K} (h : Tp w0 w O t L) {m b n : Nat} {F : Nat → Nat} (hm : Mm w m b n F) (s dir : Int) (r : Bool) (hr : M.ka n F L s dir = r) :
    Calls Try.prog 25 #[.pointer (some ⟨t, 0, none⟩), .pointer (some ⟨m, 0, none⟩), .int .i64 s, .int .i64 dir] w fun x w' => x = .returned (.bool r) ∧ w.grownBy w' none := by
  obtain ⟨v, h1, h2, _⟩ := h.ex
  rcases h2.form with ⟨rfl, rfl⟩ | ⟨g, cap, rfl, _⟩
  · have hr' : true = r := hr
    subst hr'
    exact agrees_nil w t m 0 none (cellOf h1) s dir
  · exact agrees_some w t g _ cap _ m b n F L (cellOf h1) h2 rfl (by have := h.gd.len; omega) h.gd hm s dir r hr
end Go.Proofs.Ytmmjmloaefcmmaa
