/-
  THE CONTRACT of Fill.
-/
import Derived.Test.YtmmjmloaefcmmaaTgo
namespace Go.Proofs.Ytmmjmloaefcmmaa
set_option maxRecDepth 10000
open Go.RowKit
set_option linter.unusedVariables false

/-- append inside a region that draws its order, its run known. -/
theorem step_append_run {tl : TypeId} {ops : Array Oper} {o : Oper} {a : Act} {w : World} {K : Act → World → Prop} {Q : Exit → Act → World → Prop} {E : Prop} (hgd : o.guard = none) (s x : Operand)
    (ho : o.op = .call { callee := .builtin .append, args := #[s, x], argTypes := #[tl, tl] }) (vs vx : Value) (hs : a.eval s = vs) (hx : a.eval x = vx)
    (v' : Value) (w' : World) (hr : (Builtin.append_ #[tl, tl] o.type #[vs, vx]).run Try.prog w = .ok v' w') (h : K (a.put o.dst v') w') :
    if Region.wanted o (yielded ops a.tmps) = true then Oper.wp Try.prog o a w K Q else E := by
  have hw : Region.wanted o (yielded ops a.tmps) = true := by simp [Region.wanted, hgd]
  rw [if_pos hw]
  unfold Oper.wp execOp
  simp only [ho, resolve, invoke, builtin, Sem.run_bind, Sem.run_pure, Result.andThen_ok, List.map_toArray, List.map_cons, List.map_nil, hs, hx, hr]
  exact h

/-- What comes of an append onto the list of a Tlb, and of its store. -/
theorem Tb_push {ty tk tl : TypeId} {w0 w : World} {O : Nat → Prop} {t : Nat} {L : List K} (h : Tb ty tk w0 w O t L) (k : K) (hk : Good (L ++ [k]))
    (HR : ∀ (w : World) (B : Nat) (v : Value) (L : List K) (hown : KL tk w B v L) (ty : TypeId) (ad : Addr) (m c : Nat) (D : List K) (hm : D.length = m) (hx : ∀ j u, (cellsK D)[j]? = some u → w.cell? (ad.add j) = some u) (hn : L.length + m ≤ 100000) (hB : B ≤ w.heap.size),
      ∃ v' w', (Builtin.append_ #[tl, tl] ty #[v, .slice (some ad) m c]).run Try.prog w = .ok v' w' ∧ KL tk w' B v' (L ++ D) ∧ w.grownBy w' v.ownBlock ∧ (v'.ownBlock = v.ownBlock ∨ v'.ownBlock = some w.heap.size)) :
    ∃ x0 n0 c0 x n cap w6, w.cell? ⟨t, 0, none⟩ = some (.slice x0 n0 c0) ∧ (Builtin.append_ #[tl, tl] tl #[.slice x0 n0 c0, .slice (some ⟨w.heap.size, 0, none⟩) 1 1]).run Try.prog (w.alloc (.cells (fiveCells k) tk)).drew = .ok (.slice x n cap) w6 ∧
      w6.cell? ⟨t, 0, none⟩ = some (.slice x0 n0 c0) ∧ w6.frozen? ⟨t, 0, none⟩ = false ∧ t < w.heap.size ∧ Hid (Tb ty tk w0 (w6.setCell ⟨t, 0, none⟩ (.slice x n cap)) (wide O w (w6.setCell ⟨t, 0, none⟩ (.slice x n cap))) t (L ++ [k]) ∧ Fr O w (w6.setCell ⟨t, 0, none⟩ (.slice x n cap))) := by
  obtain ⟨v, h1, h2, h3⟩ := h.ex
  have h0 := h.gr.size
  have G : w.grownBy (w.alloc (.cells (fiveCells k) tk)).drew none := gbDrew (gbAlloc w (.cells (fiveCells k) tk) none)
  have hl := h.gd.len
  obtain ⟨v', w6, hr, q1, q2, q3⟩ := HR (w.alloc (.cells (fiveCells k) tk)).drew w0.heap.size v L (h2.kept G) tl ⟨w.heap.size, 0, none⟩ 1 1 [k] rfl (rowK w k tk) (by omega) (by have := G.size; omega)
  obtain ⟨x, n, cap, rfl⟩ : ∃ x n cap, v' = .slice x n cap := by
    rcases q1.form with ⟨rfl, _⟩ | ⟨g, cap, rfl, _⟩
    · exact ⟨_, _, _, rfl⟩
    · exact ⟨_, _, _, rfl⟩
  obtain ⟨x0, n0, c0, rfl⟩ : ∃ x n cap, v = .slice x n cap := by
    rcases h2.form with ⟨rfl, _⟩ | ⟨g, cap, rfl, _⟩
    · exact ⟨_, _, _, rfl⟩
    · exact ⟨_, _, _, rfl⟩
  have tl0 := h.tlt
  have tl1 := Nat.lt_of_lt_of_le tl0 G.size
  have ht6 : w6.heap[t]? = some (.cells #[.slice x0 n0 c0] ty) := (q2.block t tl1 (fun e => (h3 t e.symm).2 rfl)).trans ((G.block t tl0 (by simp)).trans h1)
  have F1 : Fr O w w6 := (Fr.grown G).trans (Fr.opt q2 (fun k hk => (h3 k hk).1))
  have F2 := F1.trans (Fr.at (gbSetCell w6 t 0 (.slice x n cap)) h.ot)
  have hG : w.heap.size + 1 = (w.alloc (.cells (fiveCells k) tk)).drew.heap.size := by simp
  have hne : ∀ j, Value.ownBlock (.slice x n cap) = some j → j ≠ t := fun j hj => by
    rcases q3 with q3 | q3
    · rw [q3] at hj; exact (h3 j hj).2
    · rw [q3] at hj; cases hj; omega
  refine ⟨x0, n0, c0, x, n, cap, w6, cellOf h1, hr, cellOf ht6, frozenOf ht6 0, tl0, hideIt ⟨h.turn (v := .slice x0 n0 c0) F2 (heapSet ht6) (q1.keep (gbSetCell _ _ _ _) hne) (fun j hj => ⟨hne j hj, ?_⟩) hk, F2⟩⟩
  rcases q3 with q3 | q3
  · rw [q3] at hj; exact .inl (h3 j hj).1
  · rw [q3] at hj; cases hj; exact .inr (by omega)

/-- One call of it behind another one. -/
theorem Tb_then {ty tk : TypeId} {w0 a b c : World} {O : Nat → Prop} {t : Nat} {L : List K} (hs : w0.heap.size ≤ a.heap.size) (F1 : Fr O a b) (h : Tb ty tk w0 c (wide (wide O a b) b c) t L ∧ Fr (wide O a b) b c) : Tb ty tk w0 c (wide O a c) t L ∧ Fr O a c := by
  obtain ⟨T, F2⟩ := h
  have h1 := F1.size
  have h2 := F2.size
  refine ⟨T.mono (fun i hi => ?_) (fun i hi => ?_), F1.join F2 (fun i hi e => ?_)⟩
  · rcases hi with (hi | hi) | hi
    · exact .inl hi
    · exact .inr ⟨hi.1, by omega⟩
    · exact .inr ⟨by omega, hi.2⟩
  · rcases hi with hi | hi
    · exact T.lo i (.inl (.inl hi))
    · omega
  · rcases e with e | e
    · exact e
    · omega
theorem Box.at' {w : World} {x : Nat} {e : E} (h : Box w x e) : w.cell? ⟨x, 0, none⟩ = some (.bool e.v) ∧ w.cell? ⟨x, 1, none⟩ = some (.bool e.w) ∧ w.cell? ⟨x, 2, none⟩ = some (.int .i64 e.a) := ⟨h.at0, h.at1, h.at2⟩

set_option maxHeartbeats 1000000 in
theorem fill_no1 (w : World) (t : Nat) (s p : Int) (v o : Bool) (a : Int) (h : (M.nr s && M.np p) = false) :
    Calls Try.prog 12 #[.pointer (some ⟨t, 0, none⟩), .int .i64 s, .int .i64 p, ev ⟨v, o, a⟩] w fun e w' => e = .returned (.int .i64 1) ∧ w.grownBy w' none := by
  have G := gbAlloc w (.cells #[.bool v, .bool o, .int .i64 a] 44) none
  by_cases c1 : M.nr s = true
  · have c2 : M.np p = false := by rw [c1] at h; simpa using h
    go_enter Try.func12, Try.ntmps12
    go_wp2_with fail
    refine (isSpace_is s true c1 _).mono ?_
    rintro e w1 ⟨rfl, rfl⟩
    go_wp2_with fail
    refine (tisPage_is p false c2 _).mono ?_
    rintro e w1 ⟨rfl, rfl⟩
    go_wp2
    go_ret
    exact ⟨rfl, G⟩
  · have c1 : M.nr s = false := by simpa using c1
    go_enter Try.func12, Try.ntmps12
    go_wp2_with fail
    refine (isSpace_is s false c1 _).mono ?_
    rintro e w1 ⟨rfl, rfl⟩
    go_wp2
    go_ret
    exact ⟨rfl, G⟩

set_option maxHeartbeats 1000000 in
theorem fill_no10 (w : World) (t : Nat) (s p : Int) (v o : Bool) (a : Int) (h1 : M.nr s = true) (h2 : M.np p = true) (h : (v && M.ce ⟨v, o, a⟩ == 0) = false) :
    Calls Try.prog 12 #[.pointer (some ⟨t, 0, none⟩), .int .i64 s, .int .i64 p, ev ⟨v, o, a⟩] w fun e w' => e = .returned (.int .i64 10) ∧ w.grownBy w' none := by
  have G := gbAlloc w (.cells #[.bool v, .bool o, .int .i64 a] 44) none
  have X : Box (w.alloc (.cells #[.bool v, .bool o, .int .i64 a] 44)) w.heap.size ⟨v, o, a⟩ := Box.made w ⟨v, o, a⟩ _
  obtain ⟨⟨x, f⟩, hp⟩ : ∃ q, M.pk ⟨v, o, a⟩ = q := ⟨_, rfl⟩
  have HP := fun w => pack_is v o a x f hp w
  have hf : f = M.ce ⟨v, o, a⟩ := by
    unfold M.pk at hp
    split at hp
    · simp only [Prod.mk.injEq] at hp; omega
    · simp only [Prod.mk.injEq] at hp; exact hp.2.symm
  rw [← hf] at h
  clear hp hf
  cases hv : (f != 0) with
  | true =>
    go_enter Try.func12, Try.ntmps12
    go_wp2_with fail
    refine (isSpace_is s true h1 _).mono ?_
    rintro e w1 ⟨rfl, rfl⟩
    go_wp2_with fail
    refine (tisPage_is p true h2 _).mono ?_
    rintro e w1 ⟨rfl, rfl⟩
    go_wp2_with fail
    refine (HP _).mono ?_
    rintro e w1 ⟨rfl, g1⟩
    go_wp2
    go_ret
    exact ⟨rfl, gbTrans G g1⟩
  | false =>
    have f0 : f = 0 := by simpa using hv
    subst f0
    have v0 : v = false := by simpa using h
    subst v0
    go_enter Try.func12, Try.ntmps12
    go_wp2_with fail
    refine (isSpace_is s true h1 _).mono ?_
    rintro e w1 ⟨rfl, rfl⟩
    go_wp2_with fail
    refine (tisPage_is p true h2 _).mono ?_
    rintro e w1 ⟨rfl, rfl⟩
    go_wp2_with fail
    refine (HP _).mono ?_
    rintro e w1 ⟨rfl, g1⟩
    obtain ⟨a0, a1, a2⟩ := (X.kept g1).at'
    simp only at a0 a1 a2
    go_wp2
    go_ret
    exact ⟨rfl, gbTrans G g1⟩

set_option maxHeartbeats 2000000 in
theorem fill_yes {w0 w : World} {O : Nat → Prop} {t : Nat} {L : List K} (h : Tp w0 w O t L) (s p : Int) (v o : Bool) (a : Int) (hf : M.kfe s p ⟨v, o, a⟩ = 0) :
    Calls Try.prog 12 #[.pointer (some ⟨t, 0, none⟩), .int .i64 s, .int .i64 p, ev ⟨v, o, a⟩] w fun e w' => e = .returned (.int .i64 0) ∧ Tp w0 w' (wide O w w') t (M.kput L s p ⟨v, o, a⟩) ∧ Fr O w w' := by
  obtain ⟨h1, h2, h3, h4⟩ := M.kfe_ok hf
  simp only at h3
  subst h3
  have HG := hideIt (h.gd.kput hf)
  have G := gbAlloc w (.cells #[.bool true, .bool o, .int .i64 a] 44) none
  have X : Box (w.alloc (.cells #[.bool true, .bool o, .int .i64 a] 44)) w.heap.size ⟨true, o, a⟩ := Box.made w ⟨true, o, a⟩ _
  obtain ⟨⟨x, f⟩, hp⟩ : ∃ q, M.pk ⟨true, o, a⟩ = q := ⟨_, rfl⟩
  have HP := fun w => pack_is true o a x f hp w
  have hf0 : f = 0 := by
    unfold M.pk at hp
    rw [if_pos h4] at hp
    simp only [Prod.mk.injEq] at hp; exact hp.2.symm
  subst hf0
  have hxO : ¬ O w.heap.size := fun e => by have := (h.lo _ e).2; omega
  have HT := hideIt h
  clear hp hf h4 h
  go_enter Try.func12, Try.ntmps12
  go_wp2_with fail
  refine (isSpace_is s true h1 _).mono ?_
  rintro e w1 ⟨rfl, rfl⟩
  go_wp2_with fail
  refine (tisPage_is p true h2 _).mono ?_
  rintro e w1 ⟨rfl, rfl⟩
  go_wp2_with fail
  refine (HP _).mono ?_
  rintro e w1 ⟨rfl, g1⟩
  have X1 := X.kept g1
  have G1 := gbTrans G g1
  obtain ⟨a0, a1, a2⟩ := X1.at'
  simp only at a0 a1 a2
  clear X G HP h1 h2 g1
  go_wp2_with fail
  refine (drop_is (HT.out.kept G1) s p).mono ?_
  rintro e w2 ⟨rfl, T2, F2⟩
  have hx1 : w.heap.size < w1.heap.size := X1.lt
  have X2 := F2.box X1 hxO
  have T2 := hideIt T2
  have F2 := hideIt F2
  have hx2 : ¬ wide O w1 w2 w.heap.size := wideNo hxO hx1
  clear a0 a1 a2 X1
  by_cases h8 : (M.kd L s p).length = 8
  · go_wp2_with fail
    refine (tlen_is T2.out h8).mono ?_
    rintro e w3 ⟨rfl, rfl⟩
    go_wp2_with fail
    refine (eldest_is T2.out h8).mono ?_
    rintro e w3 ⟨rfl, T3, F3⟩
    have X3 := F3.box X2 hx2
    have lx3 := X3.lt
    obtain ⟨a0, a1, a2⟩ := X3.at'
    simp only at a0 a1 a2
    obtain ⟨x0, n0, c0, x, n, cap, w6, b1, b2, b3, b4, b5, b6⟩ := Tb_push T3 ⟨s, p, ⟨true, o, a⟩⟩ (by have := HG.out; unfold M.kput M.kl at this; rw [if_pos h8] at this; exact this) run_append_p
    have hq1 : ¬ t = w3.heap.size := by omega
    have hq2 : ¬ w3.heap.size = t := by omega
    have hq3 : ¬ w.heap.size = w3.heap.size := by omega
    have hq4 : ¬ w3.heap.size = w.heap.size := by omega
    have T3 := hideIt T3
    have F3 := hideIt F3
    have hs1 : w0.heap.size ≤ w1.heap.size := Nat.le_trans HT.out.gr.size G1.size
    have HE := hideIt (Tb_wider HT.out G1 (Tb_then hs1 F2.out (Tb_then (Nat.le_trans hs1 F2.out.size) F3.out b6.out)).1 (Tb_then hs1 F2.out (Tb_then (Nat.le_trans hs1 F2.out.size) F3.out b6.out)).2)
    have HK : Hid (M.kput L s p ⟨true, o, a⟩ = (M.kd L s p).tail ++ [⟨s, p, ⟨true, o, a⟩⟩]) := hideIt (by unfold M.kput M.kl; rw [if_pos h8])
    clear b6 T3 F3 T2 F2 X2 X3
    go_upto_region 9 with fail
    go_region_law (refine step_append_run rfl (.tmp 44) (.tmp 50) rfl (.slice x0 n0 c0) (.slice (some ⟨w3.heap.size, 0, none⟩) 1 1) rfl rfl (.slice x n cap) w6 b2 ?_)
    all_goals (go_wp2; go_ret; exact ⟨rfl, by rw [HK.out]; exact HE.out⟩)
  · have h8' : ((((M.kd L s p).length : Nat) : Int) == 8) = false := by simp; omega
    obtain ⟨l8, hl8⟩ : ∃ l8, (M.kd L s p).length = l8 := ⟨_, rfl⟩
    rw [hl8] at h8'
    have hl9 := hideIt hl8
    clear hl8
    go_wp2_with fail
    refine (tlen_is T2.out hl9.out).mono ?_
    rintro e w3 ⟨rfl, rfl⟩
    have lx3 := X2.lt
    obtain ⟨a0, a1, a2⟩ := X2.at'
    simp only at a0 a1 a2
    obtain ⟨x0, n0, c0, x, n, cap, w6, b1, b2, b3, b4, b5, b6⟩ := Tb_push T2.out ⟨s, p, ⟨true, o, a⟩⟩ (by have := HG.out; unfold M.kput M.kl at this; rw [if_neg h8] at this; exact this) run_append_p
    have hq1 : ¬ t = w3.heap.size := by omega
    have hq2 : ¬ w3.heap.size = t := by omega
    have hq3 : ¬ w.heap.size = w3.heap.size := by omega
    have hq4 : ¬ w3.heap.size = w.heap.size := by omega
    have hs1 : w0.heap.size ≤ w1.heap.size := Nat.le_trans HT.out.gr.size G1.size
    have HE := hideIt (Tb_wider HT.out G1 (Tb_then hs1 F2.out b6.out).1 (Tb_then hs1 F2.out b6.out).2)
    have HK : Hid (M.kput L s p ⟨true, o, a⟩ = M.kd L s p ++ [⟨s, p, ⟨true, o, a⟩⟩]) := hideIt (by unfold M.kput M.kl; rw [if_neg h8])
    clear b6 T2 F2 X2
    go_upto_region 9 with fail
    go_region_law (refine step_append_run rfl (.tmp 44) (.tmp 50) rfl (.slice x0 n0 c0) (.slice (some ⟨w3.heap.size, 0, none⟩) 1 1) rfl rfl (.slice x n cap) w6 b2 ?_)
    all_goals (go_wp2; go_ret; exact ⟨rfl, by rw [HK.out]; exact HE.out⟩)

theorem fill_is {w0 w : World} {O : Nat → Prop} {t : Nat} {L : List K} (h : Tp w0 w O t L) (s p : Int) (v o : Bool) (a f : Int) (hf : M.kfe s p ⟨v, o, a⟩ = f) :
    Calls Try.prog 12 #[.pointer (some ⟨t, 0, none⟩), .int .i64 s, .int .i64 p, ev ⟨v, o, a⟩] w fun e w' => e = .returned (.int .i64 f) ∧ Tp w0 w' (wide O w w') t (M.kf L s p ⟨v, o, a⟩) ∧ Fr O w w' := by
  subst hf
  by_cases h0 : M.kfe s p ⟨v, o, a⟩ = 0
  · unfold M.kf
    rw [if_pos h0, h0]
    exact fill_yes h s p v o a h0
  · unfold M.kf
    rw [if_neg h0]
    unfold M.kfe at h0 ⊢
    by_cases c1 : (M.nr s && M.np p) = false
    · rw [if_pos c1]
      exact (fill_no1 w t s p v o a c1).mono fun e w' ⟨q1, q2⟩ => ⟨q1, h.wide q2, Fr.grown q2⟩
    · rw [if_neg c1] at h0 ⊢
      by_cases c2 : (v && M.ce ⟨v, o, a⟩ == 0) = false
      · rw [if_pos c2]
        simp only [Bool.not_eq_false, Bool.and_eq_true] at c1
        exact (fill_no10 w t s p v o a c1.1 c1.2 c2).mono fun e w' ⟨q1, q2⟩ => ⟨q1, h.wide q2, Fr.grown q2⟩
      · rw [if_neg c2] at h0
        exact absurd rfl h0
end Go.Proofs.Ytmmjmloaefcmmaa
