/-
  THE PROGRAM'S Ready IN MEMORY: eight lists in an array, a level each; NewReady, has, Put.
-/
import Derived.Test.YtpacgdplbddclaaRpl
import Derived.Deep.RegionHeld3
namespace Go.Proofs.Ytpacgdplbddclaa
set_option maxRecDepth 10000
open Go.RowKit
set_option linter.unusedVariables false

def upd {β : Type} (f : Nat → β) (l : Nat) (x : β) : Nat → β := fun i => if i = l then x else f i
theorem upd_at {β : Type} (f : Nat → β) (l : Nat) (x : β) : upd f l x l = x := if_pos rfl
theorem upd_ne {β : Type} (f : Nat → β) {l i : Nat} (x : β) (h : i ≠ l) : upd f l x i = f i := if_neg h

/-- Eight lists at p, their values vs; all blocks are among O. -/
structure RV (w : World) (O : Nat → Prop) (p : Nat) (F : Nat → List Int) (vs : Nat → Value) : Prop where
  cl : ∀ i, i < 8 → w.cell? ⟨p, i, none⟩ = some (vs i)
  ls : ∀ i, i < 8 → IL w 0 (vs i) (F i)
  ow : ∀ i k, i < 8 → (vs i).ownBlock = some k → O k ∧ k ≠ p
  ap : ∀ i j k, i < 8 → j < 8 → (vs i).ownBlock = some k → (vs j).ownBlock = some k → i = j
  fz : ∀ i, w.frozen? ⟨p, i, none⟩ = false
  lt : p < w.heap.size
  op : O p
section
variable {w w' : World} {O : Nat → Prop} {p : Nat} {F : Nat → List Int} {vs : Nat → Value}
theorem RV.fr {O' : Nat → Prop} (h : RV w O p F vs) (k : Fr O' w w') (hd : ∀ i, O i → ¬ O' i) : RV w' O p F vs :=
  ⟨fun i hi => k.cell (h.cl i hi) (hd p h.op), fun i hi => (h.ls i hi).fr k (fun b hb => hd b (h.ow i b hi hb).1), h.ow, h.ap, fun i => (k.frozen h.lt (hd p h.op)).trans (h.fz i), Nat.lt_of_lt_of_le h.lt k.size, h.op⟩
theorem RV.kept (h : RV w O p F vs) (g : w.grownBy w' none) : RV w' O p F vs := h.fr (O' := fun _ => False) (Fr.grown g) (fun _ _ e => e)
theorem RV.mono {O' : Nat → Prop} (h : RV w O p F vs) (hO : ∀ i, O i → O' i) : RV w O' p F vs :=
  ⟨h.cl, h.ls, fun i k hi hk => ⟨hO k (h.ow i k hi hk).1, (h.ow i k hi hk).2⟩, h.ap, h.fz, h.lt, hO p h.op⟩
theorem RV.more (h : RV w O p F vs) {l : Nat} (hl : l < 8) (G : w.grownBy w' (vs l).ownBlock) : (∀ i, i < 8 → w'.cell? ⟨p, i, none⟩ = some (vs i)) ∧ (∀ i, w'.frozen? ⟨p, i, none⟩ = false) := by
  have hp : some p ≠ (vs l).ownBlock := fun e => (h.ow l p hl e.symm).2 rfl
  exact ⟨fun i hi => G.cell (h.cl i hi) hp, fun i => (gbFrozen G h.lt hp).trans (h.fz i)⟩
/-- A new list is stored at a level. -/
theorem RV.store (h : RV w O p F vs) {l : Nat} (hl : l < 8) {v' : Value} {L' : List Int} (G : w.grownBy w' (vs l).ownBlock) (l6 : IL w' 0 v' L') (hv : v'.ownBlock = (vs l).ownBlock ∨ ∃ k, v'.ownBlock = some k ∧ w.heap.size ≤ k) :
    RV (w'.setCell ⟨p, l, none⟩ v') (wide O w (w'.setCell ⟨p, l, none⟩ v')) p (upd F l L') (upd vs l v') ∧ Fr O w (w'.setCell ⟨p, l, none⟩ v') := by
  have G2 := gbSetCell w' p l v'
  obtain ⟨m1, m2⟩ := h.more hl G
  have hvp : ∀ k, v'.ownBlock = some k → (O k ∨ w.heap.size ≤ k) ∧ k ≠ p := fun k hk => by
    rcases hv with e | ⟨k', e, hk'⟩
    · rw [e] at hk; exact ⟨.inl (h.ow l k hl hk).1, (h.ow l k hl hk).2⟩
    · rw [e] at hk; cases hk; have := h.lt; exact ⟨.inr hk', by omega⟩
  have l7 : IL (w'.setCell ⟨p, l, none⟩ v') 0 v' L' := l6.keep G2 (fun k hk e => (hvp k hk).2 (by cases e; rfl))
  have lo : ∀ i, i < 8 → i ≠ l → IL (w'.setCell ⟨p, l, none⟩ v') 0 (vs i) (F i) := fun i hi hne =>
    ((h.ls i hi).keep G (fun k hk e => hne (h.ap i l k hi hl hk e.symm))).keep G2 (fun k hk e => (h.ow i k hi hk).2 (by cases e; rfl))
  have F1 : Fr O w (w'.setCell ⟨p, l, none⟩ v') := (Fr.opt G (fun k hk => (h.ow l k hl hk).1)).trans (Fr.at G2 h.op)
  refine ⟨⟨fun i hi => ?_, fun i hi => ?_, fun i k hi hk => ?_, fun i j k hi hj hki hkj => ?_, fun i => ?_, Nat.lt_of_lt_of_le h.lt F1.size, .inl h.op⟩, F1⟩
  · by_cases e : i = l
    · subst e; rw [upd_at]; exact World.cell?_setCell_same _ _ _ (m1 i hi)
    · rw [upd_ne _ _ e]; exact (World.cell?_setCell_other _ _ _ _ (by intro q; cases q; exact e rfl)).trans (m1 i hi)
  · by_cases e : i = l
    · subst e; rw [upd_at, upd_at]; exact l7
    · rw [upd_ne _ _ e, upd_ne _ _ e]; exact lo i hi e
  · by_cases e : i = l
    · subst e; rw [upd_at] at hk
      rcases (hvp k hk).1 with q | q
      · exact ⟨.inl q, (hvp k hk).2⟩
      · exact ⟨.inr ⟨q, (l7.lt k hk).2⟩, (hvp k hk).2⟩
    · rw [upd_ne _ _ e] at hk; exact ⟨.inl (h.ow i k hi hk).1, (h.ow i k hi hk).2⟩
  · have nw : ∀ m, m < 8 → m ≠ l → ∀ k, v'.ownBlock = some k → (vs m).ownBlock = some k → False := fun m hm hne k h1 h2 => by
      rcases hv with e | ⟨k', e, hk'⟩
      · rw [e] at h1; exact hne (h.ap m l k hm hl h2 h1)
      · rw [e] at h1; cases h1; have := ((h.ls m hm).lt k h2).2; omega
    by_cases e : i = l <;> by_cases e2 : j = l
    · rw [e, e2]
    · subst e; rw [upd_at] at hki; rw [upd_ne _ _ e2] at hkj; exact absurd (nw j hj e2 k hki hkj) (fun x => x)
    · subst e2; rw [upd_at] at hkj; rw [upd_ne _ _ e] at hki; exact absurd (nw i hi e k hkj hki) (fun x => x)
    · rw [upd_ne _ _ e] at hki; rw [upd_ne _ _ e2] at hkj; exact h.ap i j k hi hj hki hkj
  · rw [World.frozen?_setCell]; exact m2 i
theorem RV.same {G : Nat → List Int} (h : RV w O p F vs) (e : ∀ i, i < 8 → F i = G i) : RV w O p G vs :=
  ⟨h.cl, fun i hi => by rw [← e i hi]; exact h.ls i hi, h.ow, h.ap, h.fz, h.lt, h.op⟩
end
/-- The program's Ready at p: the ids of R, level by level. -/
def RA (w : World) (O : Nat → Prop) (p : Nat) (R : List (Int × Int)) : Prop := ∃ vs, RV w O p (fun i => M.lv R i) vs
theorem RA.fr {w w' : World} {O O' : Nat → Prop} {p : Nat} {R : List (Int × Int)} (h : RA w O p R) (k : Fr O' w w') (hd : ∀ i, O i → ¬ O' i) : RA w' O p R := h.imp fun _ h => h.fr k hd
theorem RA.kept {w w' : World} {O : Nat → Prop} {p : Nat} {R : List (Int × Int)} (h : RA w O p R) (g : w.grownBy w' none) : RA w' O p R := h.imp fun _ h => h.kept g
theorem RA.wider {w : World} {O : Nat → Prop} {p : Nat} {R : List (Int × Int)} (h : RA w O p R) (w1 w2 : World) : RA w (wide O w1 w2) p R := h.imp fun _ h => h.mono fun i hi => .inl hi
theorem RA.lt {w : World} {O : Nat → Prop} {p : Nat} {R : List (Int × Int)} (h : RA w O p R) : p < w.heap.size := by obtain ⟨_, h⟩ := h; exact h.lt

/-! ### NewReady -/
set_option maxHeartbeats 400000 in
theorem newReady_is (w : World) : Calls Try.prog 28 #[] w fun e w' => e = .returned (.pointer (some ⟨w.heap.size, 0, none⟩)) ∧ RA w' (fun i => i = w.heap.size) w.heap.size [] ∧ w'.heap.size = w.heap.size + 1 ∧ w.grownBy w' none := by
  go_enter Try.func28, Try.ntmps28
  go_wp2
  go_ret
  refine ⟨rfl, ⟨fun _ => .slice none 0 0, ⟨fun i hi => ?_, fun i hi => Ls.nil _ _ _ _ _, fun i k hi hk => (by cases hk), fun i j k _ _ hk => (by cases hk), fun i => (by simp), (by simp), rfl⟩⟩, by simp, gbAlloc _ _ _⟩
  have : i = 0 ∨ i = 1 ∨ i = 2 ∨ i = 3 ∨ i = 4 ∨ i = 5 ∨ i = 6 ∨ i = 7 := by omega
  rcases this with rfl | rfl | rfl | rfl | rfl | rfl | rfl | rfl <;> simp

/-! ### The array, loaded whole -/
def arr8 (vs : Nat → Value) : Array Value := #[vs 0, vs 1, vs 2, vs 3, vs 4, vs 5, vs 6, vs 7]
theorem arr8_get (vs : Nat → Value) (i : Nat) (hi : i < 8) : (arr8 vs)[i]? = some (vs i) := by
  have : i = 0 ∨ i = 1 ∨ i = 2 ∨ i = 3 ∨ i = 4 ∨ i = 5 ∨ i = 6 ∨ i = 7 := by omega
  rcases this with rfl | rfl | rfl | rfl | rfl | rfl | rfl | rfl <;> rfl
theorem Try.sizeArr : (Try.prog.info? 73).map (·.size) = some 8 := by kernel_rfl
theorem load8 {w : World} {p : Nat} {vs : Nat → Value} (h : ∀ i, i < 8 → w.cell? ⟨p, i, none⟩ = some (vs i)) : (Instr.loadAt 73 (.pointer (some ⟨p, 0, none⟩))).run Try.prog w = .ok (.agg (arr8 vs)) w := by
  have := run_loadAt_mid (P := Try.prog) w p 0 73 (arr8 vs).toList _ (fun j v hv => by
    have hj : j < 8 := (List.getElem?_eq_some_iff.1 hv).1
    have e := arr8_get vs j hj
    rw [← Array.getElem?_toList, hv] at e
    cases e
    rw [Nat.zero_add]
    exact h j hj) Try.underlying73 rfl (by rw [Try.sizeArr]; rfl)
  simpa using this
theorem index8 (w : World) (vs : Nat → Value) (i : Nat) (hi : i < 8) : (Instr.index 73 (.agg (arr8 vs)) (.int .i64 i)).run Try.prog w = .ok (vs i) w := by
  have hc : (sizeOf 44).run Try.prog w = .ok 1 w := by kernel_rfl
  have ha : (isAgg 44).run Try.prog w = .ok false w := by kernel_rfl
  have hb : (0 : Int) ≤ (i : Int) ∧ (i : Int) < ((8 : Nat) : Int) := by omega
  unfold Instr.index
  simp only [Sem.run_bind, asIntOf, Sem.run_pure, run_underlying Try.underlying73, Result.andThen_ok, Sem.run_ite, if_pos hb, hc, Int.toNat_natCast]
  simp [part, Sem.run_bind, ha, arr8_get vs i hi]
theorem wpList_load8 {w : World} {ops : Array Oper} {rest : List Oper} {o : Oper} {a : Act} {Q : Exit → Act → World → Prop} (hg : o.guard = none) (x : Operand) (ho : o.op = .load 73 x)
    (p : Nat) (A : Array Value) (hx : a.eval x = .pointer (some ⟨p, 0, none⟩)) (hl : (Instr.loadAt 73 (.pointer (some ⟨p, 0, none⟩))).run Try.prog w = .ok (.agg A) w)
    (h : wpList Try.prog ops Q rest (a.put o.dst (.agg A)) w) : wpList Try.prog ops Q (o :: rest) a w :=
  wpList_plain hg fun K' hK' => by
    unfold Oper.wp execOp
    simp only [ho, hx, Sem.run_bind, hl, Result.andThen_ok, Sem.run_pure]
    exact hK' _ _ h
theorem wpList_index8 {w : World} {ops : Array Oper} {rest : List Oper} {o : Oper} {a : Act} {Q : Exit → Act → World → Prop} (hg : o.guard = none) (x y : Operand) (ho : o.op = .index 73 x y)
    (A : Array Value) (i : Nat) (v : Value) (hx : a.eval x = .agg A) (hy : a.eval y = .int .i64 i) (hr : (Instr.index 73 (.agg A) (.int .i64 i)).run Try.prog w = .ok v w)
    (h : wpList Try.prog ops Q rest (a.put o.dst v) w) : wpList Try.prog ops Q (o :: rest) a w :=
  wpList_plain hg fun K' hK' => by
    unfold Oper.wp execOp
    simp only [ho, hx, hy, Sem.run_bind, hr, Result.andThen_ok, Sem.run_pure]
    exact hK' _ _ h

/-! ### has -/
set_option maxHeartbeats 1000000 in
theorem has_yes {w : World} {O : Nat → Prop} {p : Nat} {F : Nat → List Int} {vs : Nat → Value} (h : Hid (RV w O p F vs)) (hl : Hid (∀ i, i < 8 → (F i).length ≤ 1000)) (a : Int) (l : Nat) (hl8 : l < 8) (ha : Hid (a ∈ F l)) (hn : Hid (∀ i, i < l → a ∉ F i)) :
    Calls Try.prog 42 #[.pointer (some ⟨p, 0, none⟩), .int .i64 a] w fun e w' => e = .returned (.bool true) ∧ w' = w := by
  have ld := load8 h.out.cl
  go_enter Try.func42, Try.ntmps42
  go_wp2_with (refine wpList_load8 rfl _ rfl p (arr8 vs) rfl ld ?_)
  clear ld
  go_loopg [11] (l + 1) (fun y i wr => ∃ c : Nat, c + y = l + 1 ∧ c ≤ l ∧ i = .int .i64 c ∧ wr = w)
  case atStart => exact ⟨0, by omega, by omega, rfl, rfl⟩
  case round =>
    obtain ⟨c, hc, hcl, rfl, rfl⟩ := hrel
    have hc8 : c < 8 := by omega
    have hc8' : (c : Int) < 8 := by omega
    have ix := index8 wr vs c hc8
    obtain ⟨b, hb⟩ : ∃ b, (F c).contains a = b := ⟨_, rfl⟩
    have HC := hideIt (contains_is (h.out.ls c hc8) (hl.out c hc8) a b hb)
    obtain ⟨v, hv⟩ : ∃ v, vs c = v := ⟨_, rfl⟩
    rw [hv] at ix HC
    by_cases e : c = l
    · subst e
      obtain rfl : b = true := by rw [← hb]; simpa using ha.out
      clear hb hv
      go_upto_region 3 with fail
      go_wp2_with (refine wpList_index8 rfl _ _ rfl (arr8 vs) c v rfl rfl ix ?_)
      refine HC.out.mono ?_
      rintro e w1 ⟨rfl, rfl⟩
      go_wp2
      go_ret
      exact ⟨rfl, rfl⟩
    · obtain rfl : b = false := by rw [← hb]; simpa using hn.out c (by omega)
      clear hb hv
      go_upto_region 3 with fail
      go_wp2_with (refine wpList_index8 rfl _ _ rfl (arr8 vs) c v rfl rfl ix ?_)
      refine HC.out.mono ?_
      rintro e w1 ⟨rfl, rfl⟩
      clear ix
      go_wp2
      go_roundg (gk - 1)
      case rel => exact ⟨c + 1, by omega, by omega, by go_num, rfl⟩
      case measure => omega
set_option maxHeartbeats 1000000 in
theorem has_no {w : World} {O : Nat → Prop} {p : Nat} {F : Nat → List Int} {vs : Nat → Value} (h : Hid (RV w O p F vs)) (hl : Hid (∀ i, i < 8 → (F i).length ≤ 1000)) (a : Int) (hn : Hid (∀ i, i < 8 → a ∉ F i)) :
    Calls Try.prog 42 #[.pointer (some ⟨p, 0, none⟩), .int .i64 a] w fun e w' => e = .returned (.bool false) ∧ w' = w := by
  have ld := load8 h.out.cl
  go_enter Try.func42, Try.ntmps42
  go_wp2_with (refine wpList_load8 rfl _ rfl p (arr8 vs) rfl ld ?_)
  clear ld
  go_loopg [11] 9 (fun y i wr => ∃ c : Nat, c + y = 9 ∧ c ≤ 8 ∧ i = .int .i64 c ∧ wr = w)
  case atStart => exact ⟨0, by omega, by omega, rfl, rfl⟩
  case round =>
    obtain ⟨c, hc, hcl, rfl, rfl⟩ := hrel
    by_cases hc8 : c < 8
    · have hc8' : (c : Int) < 8 := by omega
      have ix := index8 wr vs c hc8
      have HC := hideIt (contains_is (h.out.ls c hc8) (hl.out c hc8) a false (by simpa using hn.out c hc8))
      obtain ⟨v, hv⟩ : ∃ v, vs c = v := ⟨_, rfl⟩
      rw [hv] at ix HC
      clear hv
      go_upto_region 3 with fail
      go_wp2_with (refine wpList_index8 rfl _ _ rfl (arr8 vs) c v rfl rfl ix ?_)
      refine HC.out.mono ?_
      rintro e w1 ⟨rfl, rfl⟩
      clear ix
      go_wp2
      go_roundg (gk - 1)
      case rel => exact ⟨c + 1, by omega, by omega, by go_num, rfl⟩
      case measure => omega
    · have hc8' : ¬ (c : Int) < 8 := by omega
      go_wp2
      go_ret
      exact ⟨rfl, rfl⟩
theorem has_is {w : World} {O : Nat → Prop} {p : Nat} {R : List (Int × Int)} (h : RA w O p R) (hg : M.Gd R) (hl : R.length ≤ 1000) (a : Int) (b : Bool) (hb : (M.ids R).contains a = b) :
    Calls Try.prog 42 #[.pointer (some ⟨p, 0, none⟩), .int .i64 a] w fun e w' => e = .returned (.bool b) ∧ w' = w := by
  subst hb
  obtain ⟨vs, h⟩ := h
  have hl2 : ∀ i, i < 8 → (M.lv R (i : Nat)).length ≤ 1000 := fun i _ => Nat.le_trans (M.lv_len R i) hl
  by_cases ha : a ∈ M.ids R
  · obtain ⟨l, h1, h2, h3⟩ := hg.at ha
    refine (has_yes (hideIt h) (hideIt hl2) a l h1 (hideIt h2) (hideIt fun i hi => h3 i (by omega))).mono ?_
    rintro e w1 ⟨rfl, rfl⟩
    exact ⟨by simp [ha], rfl⟩
  · refine (has_no (hideIt h) (hideIt hl2) a (hideIt fun i hi => M.not_lv ha i)).mono ?_
    rintro e w1 ⟨rfl, rfl⟩
    exact ⟨by simp [ha], rfl⟩

/-! ### Put -/
set_option maxHeartbeats 400000 in
theorem put_no1 (w : World) (p : Nat) (a l : Int) (h : ¬ (0 ≤ a ∧ a < 64 ∧ 0 ≤ l ∧ l < 8)) :
    Calls Try.prog 31 #[.pointer (some ⟨p, 0, none⟩), .int .i64 a, .int .i64 l] w fun e w' => e = .returned (.int .i64 1) ∧ w' = w := by
  by_cases h1 : 0 ≤ a ∧ a < 64
  · have HI := hideIt (isID_yes a w h1.1 h1.2)
    have HL := hideIt (isLevel_no l w (fun e => h ⟨h1.1, h1.2, e.1, e.2⟩))
    clear h h1
    go_enter Try.func31, Try.ntmps31
    go_wp2_with fail
    refine HI.out.mono ?_
    rintro e w1 ⟨rfl, rfl⟩
    go_wp2_with fail
    refine HL.out.mono ?_
    rintro e w1 ⟨rfl, rfl⟩
    go_wp2
    go_ret
    exact ⟨rfl, rfl⟩
  · have HI := hideIt (isID_no a w h1)
    clear h h1
    go_enter Try.func31, Try.ntmps31
    go_wp2_with fail
    refine HI.out.mono ?_
    rintro e w1 ⟨rfl, rfl⟩
    go_wp2
    go_ret
    exact ⟨rfl, rfl⟩
set_option maxHeartbeats 400000 in
theorem put_no4 {w : World} {O : Nat → Prop} {p : Nat} {R : List (Int × Int)} (h : RA w O p R) (hg : M.Gd R) (hl : R.length ≤ 1000) (a l : Int) (h0 : 0 ≤ a) (h1 : a < 64) (h2 : 0 ≤ l) (h3 : l < 8) (ha : a ∈ M.ids R) :
    Calls Try.prog 31 #[.pointer (some ⟨p, 0, none⟩), .int .i64 a, .int .i64 l] w fun e w' => e = .returned (.int .i64 4) ∧ w' = w := by
  have HI := hideIt (isID_yes a w h0 h1)
  have HL := hideIt (isLevel_yes l w h2 h3)
  have HH := hideIt (has_is h hg hl a true (by simpa using ha))
  clear h hg ha
  go_enter Try.func31, Try.ntmps31
  go_wp2_with fail
  refine HI.out.mono ?_
  rintro e w1 ⟨rfl, rfl⟩
  go_wp2_with fail
  refine HL.out.mono ?_
  rintro e w1 ⟨rfl, rfl⟩
  go_wp2_with fail
  refine HH.out.mono ?_
  rintro e w1 ⟨rfl, rfl⟩
  go_wp2
  go_ret
  exact ⟨rfl, rfl⟩
set_option maxHeartbeats 1000000 in
theorem put_yes17 {w : World} {O : Nat → Prop} {p : Nat} {R : List (Int × Int)} (h : RA w O p R) (hg : M.Gd R) (hl : R.length ≤ 999) (a : Int) (l : Nat) (h0 : 0 ≤ a) (h1 : a < 64) (h3 : l < 8) (ha : a ∉ M.ids R) :
    Calls Try.prog 31 #[.pointer (some ⟨p, 0, none⟩), .int .i64 a, .int .i64 l] w fun e w' => e = .returned (.int .i64 0) ∧ RA w' (wide O w w') p (R ++ [(a, (l : Int))]) ∧ Fr O w w' := by
  have HI := hideIt (isID_yes a w h0 h1)
  have HL := hideIt (isLevel_yes l w (by omega) (by omega))
  have HH := hideIt (has_is h hg (by omega) a false (by simpa using ha))
  obtain ⟨vs, hv⟩ := h
  have hp := hv.lt
  have hq1 : ¬ p = w.heap.size := by omega
  have hq2 : ¬ w.heap.size = p := by omega
  have G := gbDrew (gbAlloc w (.cells #[.int .i64 a] 3) none)
  have hll : (M.lv R (l : Nat)).length ≤ 999 := Nat.le_trans (M.lv_len R l) hl
  obtain ⟨v', w6, hr, q1, q2, q3⟩ := run_append_i (w.alloc (.cells #[.int .i64 a] 3)).drew 0 (vs l) (M.lv R l) ((hv.ls l h3).kept G) 44 (some ⟨w.heap.size, 0, none⟩) 1 1 [a] rfl (by simp) (by rintro ad ⟨⟩; exact rowI w a) (by omega) (Nat.zero_le _)
  have G6 : w.grownBy w6 (vs l).ownBlock := gbTrans (gbAny G _) q2
  obtain ⟨m1, m2⟩ := hv.more h3 G6
  have b3 := m1 l h3
  have b4 := m2 l
  have b1 := hv.cl l h3
  obtain ⟨x, cap, rfl, _⟩ := q1.arr
  have HE := hideIt (hv.store h3 G6 q1 (by
    rcases q3 with e | e
    · exact .inl e
    · exact .inr ⟨_, e, by simp⟩))
  obtain ⟨x0, c0, e0, _⟩ := (hv.ls l h3).arr
  rw [e0] at hr b1 b3
  obtain ⟨n0, hn0⟩ : ∃ n, (M.lv R (l : Nat)).length = n := ⟨_, rfl⟩
  rw [hn0] at hr b1 b3
  obtain ⟨n, hn⟩ : ∃ n, (M.lv R (l : Nat) ++ [a]).length = n := ⟨_, rfl⟩
  rw [hn] at hr HE
  have hl0 : (0 : Int) ≤ (l : Int) := by omega
  have hl8 : (l : Int) < 8 := by omega
  clear hv q1 q2 q3 G G6 m1 m2 hg ha hl e0 hn0 hn
  go_enter Try.func31, Try.ntmps31
  go_wp2_with fail
  refine HI.out.mono ?_
  rintro e w1 ⟨rfl, rfl⟩
  go_wp2_with fail
  refine HL.out.mono ?_
  rintro e w1 ⟨rfl, rfl⟩
  go_wp2_with fail
  refine HH.out.mono ?_
  rintro e w1 ⟨rfl, rfl⟩
  go_upto_region 5 with fail
  go_region_law (refine step_append_run rfl (.tmp 25) (.tmp 27) rfl (.slice x0 n0 c0) (.slice (some ⟨w1.heap.size, 0, none⟩) 1 1) rfl rfl (.slice x n cap) w6 hr ?_)
  all_goals
    go_wp2
    go_ret
    refine ⟨rfl, ⟨_, HE.out.1.same ?_⟩, HE.out.2⟩
    intro i hi
    unfold upd
    rw [M.lv_app]
    by_cases e : i = l
    · subst e; rw [if_pos rfl, if_pos rfl]
    · rw [if_neg e, if_neg (by omega)]
theorem put_is {w : World} {O : Nat → Prop} {p : Nat} {R : List (Int × Int)} (h : RA w O p R) (hg : M.Gd R) (hl : R.length ≤ 999) (a l f : Int) (hf : M.re R a l = f) :
    Calls Try.prog 31 #[.pointer (some ⟨p, 0, none⟩), .int .i64 a, .int .i64 l] w fun e w' => e = .returned (.int .i64 f) ∧ RA w' (wide O w w') p (M.rl R a l) ∧ Fr O w w' := by
  subst hf
  unfold M.re M.rl
  by_cases h1 : 0 ≤ a ∧ a < 64 ∧ 0 ≤ l ∧ l < 8
  · rw [if_pos h1]
    by_cases h2 : a ∈ M.ids R
    · rw [if_pos h2, if_neg (fun e => e.2 h2)]
      refine (put_no4 h hg (by omega) a l h1.1 h1.2.1 h1.2.2.1 h1.2.2.2 h2).mono ?_
      rintro e w1 ⟨rfl, rfl⟩
      exact ⟨rfl, h.wider _ _, Fr.refl _ _⟩
    · rw [if_neg h2, if_pos ⟨h1, h2⟩]
      obtain ⟨n, rfl⟩ : ∃ n : Nat, l = n := ⟨l.toNat, by omega⟩
      exact put_yes17 h hg hl a n h1.1 h1.2.1 (by omega) h2
  · rw [if_neg h1, if_neg (fun e => h1 e.1)]
    refine (put_no1 w p a l h1).mono ?_
    rintro e w1 ⟨rfl, rfl⟩
    exact ⟨rfl, h.wider _ _, Fr.refl _ _⟩
end Go.Proofs.Ytpacgdplbddclaa
