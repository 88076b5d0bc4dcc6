/-
  THE CONTRACTS of letGo, Drop, Flush, dropEldest.
-/
import Derived.Test.YtmmjmloaefcmmaaTdf
import Derived.Deep.RegionHeld3
namespace Go.Proofs.Ytmmjmloaefcmmaa
set_option maxRecDepth 10000
open Go.RowKit
set_option linter.unusedVariables false

theorem delete_is {w : World} {m B : Nat} {v : Value} {L : List K} {P : K → Bool} (hl : KL 92 w B v L) (h8 : L.length ≤ 1000) (HA : Asks w v.ownBlock m P) :
    Calls Try.prog 57 #[v, fgo m] w fun e w' => ∃ x n cap, e = .returned (.slice x n cap) ∧ KL 92 w' B (.slice x n cap) (L.filter fun k => !P k) ∧ w.grownBy w' v.ownBlock ∧ Value.ownBlock (.slice x n cap) = v.ownBlock := by
  rcases hl.form with ⟨rfl, rfl⟩ | ⟨g, cap, rfl, hcap, hB, hg, hcap2⟩
  · exact (delete_none w m 0 0 none w (index_nil w m 0 none)).mono fun e w' ⟨h1, h2⟩ => ⟨none, 0, 0, h1, KL.nil _ _ _, h2, rfl⟩
  · obtain ⟨f, hf⟩ := firstOf P L
    by_cases e : f = L.length
    · refine (delete_none w m cap _ _ w (index_is w m g _ cap B f L P hl rfl h8 hf HA (-1) (by rw [if_pos e]))).mono fun e1 w' ⟨h1, h2⟩ => ⟨_, _, _, h1, ?_, gbAny h2 _, rfl⟩
      have e2 : (L.filter fun k => !P k) = L := List.filter_eq_self.2 (fun k hk => by
        obtain ⟨j, hj⟩ := List.getElem?_of_mem hk
        rw [hf.no j k (by rw [e]; exact (List.getElem?_eq_some_iff.1 hj).1) hj]
        rfl)
      rw [e2]
      exact hl.kept h2
    · have := hf.le
      refine (delete_some w m g _ cap B f L P hl rfl h8 hf (by omega) hcap hcap2 HA).mono fun e1 w' h => ?_
      obtain ⟨i, h1, h2, h3⟩ := h
      exact ⟨_, _, _, h1, h2, h3, rfl⟩

theorem heapSet {w : World} {t : Nat} {v v' : Value} {ty : TypeId} (h : w.heap[t]? = some (.cells #[v] ty)) : (w.setCell ⟨t, 0, none⟩ v').heap[t]? = some (.cells #[v'] ty) := by
  rw [heap_setCell_same w t 0 #[v] ty v' h]; rfl

set_option maxHeartbeats 1000000 in
theorem letGo_at (w : World) (t B : Nat) (f : Fn) (caps : Array Value) (v : Value) (L : List K) (P : K → Bool) (ht : w.heap[t]? = some (.cells #[v] 79)) (hl : KL 92 w B v L) (h8 : L.length ≤ 1000) (hv : ∀ k, v.ownBlock = some k → k ≠ t)
    (HA : Asks (w.alloc (.cells #[.func f #[] caps] 97)) v.ownBlock w.heap.size P) :
    Calls Try.prog 43 #[.pointer (some ⟨t, 0, none⟩), .func f #[] caps] w fun e w' => e = .returned (.tuple #[]) ∧ ∃ v', w'.heap[t]? = some (.cells #[v'] 79) ∧ KL 92 w' B v' (L.filter fun k => !P k) ∧ Fr (fun i => i = t ∨ v.ownBlock = some i) w w' ∧ v'.ownBlock = v.ownBlock := by
  have G := gbAlloc w (.cells #[.func f #[] caps] 97) none
  have tl : t < w.heap.size := (Array.getElem?_eq_some_iff.1 ht).1
  have c0 := G.cell (cellOf ht) (by simp)
  have HD := delete_is (hl.kept G) h8 HA
  have ht1 := hideIt ((G.block t tl (by simp)).trans ht)
  have hv := hideIt hv
  have tl1 := Nat.lt_of_lt_of_le tl G.size
  clear HA hl
  go_enter Try.func43, Try.ntmps43
  go_wp2_with fail
  refine HD.mono ?_
  rintro e w1 ⟨x, n, cap, rfl, h1, h2, h3⟩
  have ht2 := hideIt ((h2.block t tl1 (fun e => hv.out t e.symm rfl)).trans ht1.out)
  have c1 := cellOf ht2.out
  have f1 := frozenOf ht2.out 0
  have h1 := hideIt h1
  clear c0
  go_wp2
  refine bodyPost_end (results_none rfl _ _ _) rfl ⟨rfl, .slice x n cap, heapSet ht2.out, h1.out.keep (gbSetCell _ _ _ _) (fun k hk => hv.out k (h3 ▸ hk)), ?_, h3⟩
  have F1 : Fr (fun i => i = t ∨ v.ownBlock = some i) w w1 := (Fr.grown G).trans (Fr.opt h2 (fun k hk => .inr hk))
  exact F1.trans (Fr.at (gbSetCell _ t 0 _) (.inl rfl))

/-- What letGo does to a Tlb. -/
theorem Tb_letGo {w0 w : World} {O : Nat → Prop} {t : Nat} {L : List K} (h : Tp w0 w O t L) (f : Fn) (caps : Array Value) (P : K → Bool)
    (HA : ∀ r : Option Nat, (∀ k, r = some k → O k) → Asks (w.alloc (.cells #[.func f #[] caps] 97)) r w.heap.size P) :
    Calls Try.prog 43 #[.pointer (some ⟨t, 0, none⟩), .func f #[] caps] w fun e w' => e = .returned (.tuple #[]) ∧ Tp w0 w' (wide O w w') t (L.filter fun k => !P k) ∧ Fr O w w' := by
  obtain ⟨v, h1, h2, h3⟩ := h.ex
  refine (letGo_at w t _ f caps v L P h1 h2 (by have := h.gd.len; omega) (fun k hk => (h3 k hk).2) (HA _ (fun k hk => (h3 k hk).1))).mono ?_
  rintro e w' ⟨rfl, v', q1, q2, q3, q4⟩
  have F : Fr O w w' := q3.mono (fun i _ hi => by
    rcases hi with rfl | hi
    · exact h.ot
    · exact (h3 i hi).1)
  exact ⟨rfl, h.turn (v := v) F q1 q2 (fun k hk => by rw [q4] at hk; exact ⟨(h3 k hk).2, .inl (h3 k hk).1⟩) (h.gd.sub List.filter_sublist), F⟩

/-- What a call of it leaves, seen from before what was made ahead of it. -/
theorem Tb_wider {ty tk : TypeId} {w0 w W w' : World} {O : Nat → Prop} {t : Nat} {L L' : List K} (h : Tb ty tk w0 w O t L) (G : w.grownBy W none) (T : Tb ty tk w0 w' (wide O W w') t L') (F : Fr O W w') : Tb ty tk w0 w' (wide O w w') t L' ∧ Fr O w w' := by
  have h1 := G.size
  have h2 := F.size
  have h3 := h.gr.size
  refine ⟨T.mono (fun i hi => ?_) (fun i hi => ?_), (Fr.grown G).trans F⟩
  · rcases hi with hi | hi
    · exact .inl hi
    · exact .inr ⟨by omega, hi.2⟩
  · rcases hi with hi | hi
    · have := h.lo i hi; omega
    · omega

/-! ### Drop -/
set_option maxHeartbeats 1000000 in
theorem drop_is {w0 w : World} {O : Nat → Prop} {t : Nat} {L : List K} (h : Tp w0 w O t L) (s p : Int) :
    Calls Try.prog 15 #[.pointer (some ⟨t, 0, none⟩), .int .i64 s, .int .i64 p] w fun e w' => e = .returned (.tuple #[]) ∧ Tp w0 w' (wide O w w') t (M.kd L s p) ∧ Fr O w w' := by
  obtain ⟨W, hW⟩ : ∃ W, (w.alloc (.cells #[.int .i64 s] 3)).alloc (.cells #[.int .i64 p] 3) = W := ⟨_, rfl⟩
  have G : w.grownBy W none := by rw [← hW]; exact gbTrans (gbAlloc _ _ _) (gbAlloc _ _ _)
  have c0 : W.cell? ⟨w.heap.size, 0, none⟩ = some (.int .i64 s) := by rw [← hW]; simp
  have c1 : W.cell? ⟨w.heap.size + 1, 0, none⟩ = some (.int .i64 p) := by rw [← hW]; simp
  have HT := hideIt (h.kept G)
  have HL := Tb_letGo (HT.out) (.func 44) #[.pointer (some ⟨w.heap.size, 0, none⟩), .pointer (some ⟨w.heap.size + 1, 0, none⟩)] (M.here s p) (fun r hr w' k g => by
    have g0 := gbAlloc W (.cells #[fdrop w.heap.size (w.heap.size + 1)] 97) none
    have n0 : ∀ x, w.heap.size ≤ x → some x ≠ r := fun x hx e => by have := (h.lo x (hr x e.symm)).2; omega
    have hs := G.size
    exact go1_drop w' k s p W.heap.size w.heap.size (w.heap.size + 1) (g.cell (by simp) (n0 _ hs)) (g.cell (g0.cell c0 (by simp)) (n0 _ (Nat.le_refl _))) (g.cell (g0.cell c1 (by simp)) (n0 _ (Nat.le_succ _))))
  have HO := hideIt h
  clear h c0 c1
  go_enter Try.func15, Try.ntmps15
  go_wp2_with fail
  refine HL.mono ?_
  rintro e w1 ⟨rfl, T1, F1⟩
  have HW := hideIt (Tb_wider HO.out G T1 F1)
  clear T1 F1 HL HT HO
  go_wp2
  exact bodyPost_end (results_none rfl _ _ _) rfl ⟨rfl, HW.out⟩

/-! ### Flush -/
set_option maxHeartbeats 1000000 in
theorem flush_is {w0 w : World} {O : Nat → Prop} {t : Nat} {L : List K} (h : Tp w0 w O t L) (s : Int) :
    Calls Try.prog 17 #[.pointer (some ⟨t, 0, none⟩), .int .i64 s] w fun e w' => e = .returned (.tuple #[]) ∧ Tp w0 w' (wide O w w') t (M.kx L s) ∧ Fr O w w' := by
  obtain ⟨W, hW⟩ : ∃ W, w.alloc (.cells #[.int .i64 s] 3) = W := ⟨_, rfl⟩
  have G : w.grownBy W none := by rw [← hW]; exact gbAlloc _ _ _
  have c0 : W.cell? ⟨w.heap.size, 0, none⟩ = some (.int .i64 s) := by rw [← hW]; simp
  have HT := hideIt (h.kept G)
  have HL := Tb_letGo (HT.out) (.func 45) #[.pointer (some ⟨w.heap.size, 0, none⟩)] (fun k => k.s == s) (fun r hr w' k g => by
    have g0 := gbAlloc W (.cells #[fflush w.heap.size] 97) none
    have n0 : ∀ x, w.heap.size ≤ x → some x ≠ r := fun x hx e => by have := (h.lo x (hr x e.symm)).2; omega
    have hs := G.size
    exact go1_flush w' k s W.heap.size w.heap.size (g.cell (by simp) (n0 _ hs)) (g.cell (g0.cell c0 (by simp)) (n0 _ (Nat.le_refl _))))
  have HO := hideIt h
  clear h c0
  go_enter Try.func17, Try.ntmps17
  go_wp2_with fail
  refine HL.mono ?_
  rintro e w1 ⟨rfl, T1, F1⟩
  have HW := hideIt (Tb_wider HO.out G T1 F1)
  clear T1 F1 HL HT HO
  go_wp2
  exact bodyPost_end (results_none rfl _ _ _) rfl ⟨rfl, HW.out⟩

/-! ### dropEldest -/
set_option maxHeartbeats 1000000 in
theorem eldest_at {w0 w : World} {O : Nat → Prop} {t : Nat} {k : K} {L : List K} (h : Tp w0 w O t (k :: L)) :
    Calls Try.prog 41 #[.pointer (some ⟨t, 0, none⟩)] w fun e w' => e = .returned (.tuple #[]) ∧ Tp w0 w' (wide O w w') t (M.kd (k :: L) k.s k.p) ∧ Fr O w w' := by
  obtain ⟨v, h1, h2, h3⟩ := h.ex
  obtain ⟨g, cap, rfl, hcap, hB, hg, hcap2⟩ := h2.has (n := L.length + 1) rfl (by omega)
  obtain ⟨k0, k1, k2, k3, k4, _, _⟩ := h2.el rfl 0 k rfl
  have c0 := cellOf h1
  obtain ⟨W, hW⟩ : ∃ W, w.alloc (.cells #[.int .i64 k.s, .int .i64 k.p] 90) = W := ⟨_, rfl⟩
  have G : w.grownBy W none := by rw [← hW]; exact gbAlloc _ _ _
  have e0 : W.cell? ⟨w.heap.size, 0, none⟩ = some (.int .i64 k.s) := by rw [← hW]; simp
  have e1 : W.cell? ⟨w.heap.size, 1, none⟩ = some (.int .i64 k.p) := by rw [← hW]; simp
  have HT := hideIt (h.kept G)
  have HL := Tb_letGo (HT.out) (.func 56) #[.pointer (some ⟨w.heap.size, 0, none⟩)] (M.here k.s k.p) (fun r hr w' j g => by
    have g0 := gbAlloc W (.cells #[feldest w.heap.size] 97) none
    have n0 : ∀ x, w.heap.size ≤ x → some x ≠ r := fun x hx e => by have := (h.lo x (hr x e.symm)).2; omega
    have hs := G.size
    exact go1_eldest w' j k.s k.p W.heap.size w.heap.size (g.cell (by simp) (n0 _ hs)) (g.cell (g0.cell e0 (by simp)) (n0 _ (Nat.le_refl _))) (g.cell (g0.cell e1 (by simp)) (n0 _ (Nat.le_refl _))))
  have HO := hideIt h
  clear h h2 e0 e1 h1
  go_enter Try.func41, Try.ntmps41
  go_wp2_with fail
  refine HL.mono ?_
  rintro e w1 ⟨rfl, T1, F1⟩
  have HW := hideIt (Tb_wider HO.out G T1 F1)
  clear T1 F1 HL HT HO
  go_wp2
  exact bodyPost_end (results_none rfl _ _ _) rfl ⟨rfl, HW.out⟩
theorem eldest_is {w0 w : World} {O : Nat → Prop} {t : Nat} {L : List K} (h : Tp w0 w O t L) (h8 : L.length = 8) :
    Calls Try.prog 41 #[.pointer (some ⟨t, 0, none⟩)] w fun e w' => e = .returned (.tuple #[]) ∧ Tp w0 w' (wide O w w') t L.tail ∧ Fr O w w' := by
  cases L with
  | nil => simp at h8
  | cons k L =>
    have := eldest_at h
    rw [h.gd.eldest] at this
    exact this
end Go.Proofs.Ytmmjmloaefcmmaa
