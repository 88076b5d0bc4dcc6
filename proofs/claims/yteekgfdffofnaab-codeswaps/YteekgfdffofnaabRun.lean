/-
  THE CONTRACT of package code's Run.
-/
import Derived.Test.YteekgfdffofnaabOps
import Derived.Test.YteekgfdffofnaabWds
import Derived.Deep.RegionHeld3
import Derived.Deep.Cut
namespace Go.Proofs.Yteekgfdffofnaab
set_option maxRecDepth 10000
open Go.RowKit
set_option linter.unusedVariables false

set_option maxHeartbeats 1000000 in
theorem run_field (i : I) (f : Nat → Int) (p : Int) (h : M.rt i = false) (w : World) :
    Calls Try.prog 8 #[iv i, .agg (rc f), .int .i64 p] w fun e w' => e = .returned (.tuple #[.agg (ec E0), .int .i64 10]) ∧ w.grownBy w' none := by
  replace h := hideIt h
  go_enter Try.func8, Try.ntmps8
  go_upto_region 1 with (first | (refine wpList_boxW (t := 29) rfl _ rfl rfl ?_; intro W1 q B g1 l1) | (refine wpList_boxW (t := 25) rfl _ rfl rfl ?_; intro W2 r R g2 l2) | (refine wpList_allocW rfl rfl zE ?_; intro W3 z C g3 l3))
  have lz : w.heap.size ≤ z := Nat.le_trans (Nat.le_trans g1.size g2.size) l3
  have G := gbTrans (gbTrans g1 g2) g3
  replace B := (B.kept g2).kept g3
  clear g1 g2 g3 l1 l2 l3 R
  go_wp2_with (refine wpList_loadW rfl _ rfl rfl B tkI rfl ?_)
  refine (isRight_is i _ h.out _).mono ?_
  rintro e w1 ⟨rfl, g1⟩
  replace C := C.kept g1
  replace G := gbTrans G g1
  clear g1
  go_wp2_with (first | (refine wpList_buildW rfl [] rfl [] rfl (ec E0) (by kernel_rfl) ?_) | (refine wpList_storeW rfl _ _ rfl rfl rfl C tkE rfl rfl (ec_one _) ?_; intro W9 C9 g9))
  exact bodyPost_ret (results_We Try.results8 rfl rfl C9 tkE rfl) rfl ⟨rfl, gbNew (gbTrans (gbAny G _) g9) lz⟩

set_option maxHeartbeats 1000000 in
theorem run_range (i : I) (f : Nat → Int) (p : Int) (h : M.rt i = true) (hp : M.bel p 4096 = false) (w : World) :
    Calls Try.prog 8 #[iv i, .agg (rc f), .int .i64 p] w fun e w' => e = .returned (.tuple #[.agg (ec E0), .int .i64 1]) ∧ w.grownBy w' none := by
  replace h := hideIt h
  replace hp := hideIt hp
  go_enter Try.func8, Try.ntmps8
  go_upto_region 1 with (first | (refine wpList_boxW (t := 29) rfl _ rfl rfl ?_; intro W1 q B g1 l1) | (refine wpList_boxW (t := 25) rfl _ rfl rfl ?_; intro W2 r R g2 l2) | (refine wpList_allocW rfl rfl zE ?_; intro W3 z C g3 l3))
  have lz : w.heap.size ≤ z := Nat.le_trans (Nat.le_trans g1.size g2.size) l3
  have G := gbTrans (gbTrans g1 g2) g3
  replace B := (B.kept g2).kept g3
  clear g1 g2 g3 l1 l2 l3 R
  go_wp2_with (refine wpList_loadW rfl _ rfl rfl B tkI rfl ?_)
  refine (isRight_is i _ h.out _).mono ?_
  rintro e w1 ⟨rfl, g1⟩
  replace C := C.kept g1
  replace G := gbTrans G g1
  clear g1
  go_wp2_with fail
  refine (below_is _ _ _ hp.out _).mono ?_
  rintro e w2 ⟨rfl, rfl⟩
  go_wp2_with (first | (refine wpList_buildW rfl [] rfl [] rfl (ec E0) (by kernel_rfl) ?_) | (refine wpList_storeW rfl _ _ rfl rfl rfl C tkE rfl rfl (ec_one _) ?_; intro W9 C9 g9))
  exact bodyPost_ret (results_We Try.results8 rfl rfl C9 tkE rfl) rfl ⟨rfl, gbNew (gbTrans (gbAny G _) g9) lz⟩

/-- The registers of an effect are loaded or stored where the effect begins. -/
theorem ec_regs (e : E) : ∀ j v, (rc e.f)[j]? = some v → (ec e)[0 + j]? = some v := fun j v h => by
  have hj : j < 8 := (Array.getElem?_eq_some_iff.1 h).1
  rw [rc_at _ _ hj] at h
  rw [Nat.zero_add, ec_at _ _ hj]
  exact h

theorem gbSetCells (b : Nat) : ∀ (vs : List Value) (o : Nat) (w : World), w.grownBy (w.setCells b o vs) (some b)
  | [], _, w => gbRefl w _
  | v :: vs, o, w => by rw [World.setCells]; exact gbTrans (gbSetCell _ _ _ _) (gbSetCells b vs (o + 1) _)
/-- The registers are written, all eight. -/
theorem Rw.setF {w : World} {x : Nat} {t : TypeId} {e : E} (h : Rw w x t (ec e)) (f : Nat → Int) : Rw (w.setCells x 0 (rl f)) x t (ec { e with f := f }) := by
  have a0 := h.set (d := ec { e with f := upd e.f 0 (f 0) }) 0 (.int .u64 (f 0)) rfl
  have a1 := a0.set (d := ec { e with f := upd (upd e.f 0 (f 0)) 1 (f 1) }) 1 (.int .u64 (f 1)) rfl
  have a2 := a1.set (d := ec { e with f := upd (upd (upd e.f 0 (f 0)) 1 (f 1)) 2 (f 2) }) 2 (.int .u64 (f 2)) rfl
  have a3 := a2.set (d := ec { e with f := upd (upd (upd (upd e.f 0 (f 0)) 1 (f 1)) 2 (f 2)) 3 (f 3) }) 3 (.int .u64 (f 3)) rfl
  have a4 := a3.set (d := ec { e with f := upd (upd (upd (upd (upd e.f 0 (f 0)) 1 (f 1)) 2 (f 2)) 3 (f 3)) 4 (f 4) }) 4 (.int .u64 (f 4)) rfl
  have a5 := a4.set (d := ec { e with f := upd (upd (upd (upd (upd (upd e.f 0 (f 0)) 1 (f 1)) 2 (f 2)) 3 (f 3)) 4 (f 4)) 5 (f 5) }) 5 (.int .u64 (f 5)) rfl
  have a6 := a5.set (d := ec { e with f := upd (upd (upd (upd (upd (upd (upd e.f 0 (f 0)) 1 (f 1)) 2 (f 2)) 3 (f 3)) 4 (f 4)) 5 (f 5)) 6 (f 6) }) 6 (.int .u64 (f 6)) rfl
  exact a6.set (d := ec { e with f := f }) 7 (.int .u64 (f 7)) rfl
theorem Rw.there {w : World} {x : Nat} {t : TypeId} {c : Array Value} (h : Rw w x t c) (o n : Nat) (hn : o + n ≤ c.size) : w.there x o n := fun j hj => by
  refine ⟨?_, h.fr _⟩
  rw [h.cell, Array.getElem?_eq_getElem (by omega)]
  rfl
theorem wpList_storeF {w : World} {ops : Array Oper} {rest : List Oper} {o : Oper} {a : Act} {Q : Exit → Act → World → Prop} (hg : o.guard = none) {s : TypeId} (z v : Operand) (ho : o.op = .store s z v) {x : Nat} {t : TypeId} {e : E} {f : Nat → Int} (hx : a.eval z = .pointer (some ⟨x, 0, none⟩)) (hv : a.eval v = .agg (rc f)) (B : Rw w x t (ec e)) (T : Tk s 8)
    (h : ∀ W, Rw W x t (ec { e with f := f }) → w.grownBy W (some x) → wpList Try.prog ops Q rest (a.put o.dst undef) W) : wpList Try.prog ops Q (o :: rest) a w :=
  wpList_plain hg fun K' hK' => by
    have e := run_storeAt_mid (P := Try.prog) w x 0 s (rc f) (B.there 0 _ (by rw [rc_size, ec_size]; decide)) (by rw [T.sz, rc_size]) (rc_one f)
    unfold Oper.wp execOp
    simp only [ho, hx, hv, Sem.run_bind, e, Result.andThen_ok, Sem.run_pure]
    exact hK' _ _ (h _ (B.setF f) (gbSetCells _ _ _ _))

set_option maxHeartbeats 2000000 in
theorem run_yes (o a b m p : Nat) (f : Nat → Int) (x y v c : Int) (u : E) (ho : o < 18) (ha : a < 8) (hb : b < 8) (hm : m < 4096) (hp : p < 4096) (hx : f a = x) (hy : f b = y)
    (HR : ∀ w, Calls Try.prog 9 #[iv ⟨o, a, b, m⟩] w fun e w' => e = .returned (.bool true) ∧ w.grownBy w' none)
    (HB : ∀ w, Calls Try.prog 12 #[.int .i64 p, .int .i64 4096] w fun e w' => e = .returned (.bool true) ∧ w' = w)
    (HA : ∀ w, Calls Try.prog 13 #[iv ⟨o, a, b, m⟩, .int .u64 x, .int .u64 y] w fun e w' => e = .returned (.agg (ec u)) ∧ w.grownBy w' none)
    (HV : ∀ w, Calls Try.prog 14 #[iv ⟨o, a, b, m⟩, .int .u64 x, .int .u64 y] w fun e w' => e = .returned (.int .u64 v) ∧ w.grownBy w' none)
    (HP : ∀ w, Calls Try.prog 15 #[iv ⟨o, a, b, m⟩, .int .u64 x, .int .u64 y, .int .i64 p] w fun e w' => e = .returned (.int .i64 c) ∧ w.grownBy w' none) (w : World) :
    Calls Try.prog 8 #[iv ⟨o, a, b, m⟩, .agg (rc f), .int .i64 p] w fun e w' => e = .returned (.tuple #[.agg (ec { u with f := upd f a v, p := c }), .int .i64 0]) ∧ w.grownBy w' none := by
  go_enter Try.func8, Try.ntmps8
  go_upto_region 1 with (first | (refine wpList_boxW (t := 29) rfl _ rfl rfl ?_; intro W1 q B g1 l1) | (refine wpList_boxW (t := 25) rfl _ rfl rfl ?_; intro W2 r R g2 l2) | (refine wpList_allocW rfl rfl zE ?_; intro W3 z C g3 l3))
  have lz : w.heap.size ≤ z := Nat.le_trans (Nat.le_trans g1.size g2.size) l3
  have G := gbTrans (gbTrans g1 g2) g3
  replace B := (B.kept g2).kept g3
  replace R := R.kept g3
  clear g1 g2 g3 l1 l2 l3
  go_wp2_with (refine wpList_loadW rfl _ rfl rfl B tkI rfl ?_)
  refine (HR _).mono ?_
  rintro e w1 ⟨rfl, g1⟩
  replace B := B.kept g1
  replace C := C.kept g1
  replace R := R.kept g1
  replace G := gbTrans G g1
  clear g1 HR
  go_wp2_with fail
  refine (HB _).mono ?_
  rintro e w2 ⟨rfl, rfl⟩
  clear HB
  obtain ⟨a0, a1, a2, a3⟩ := B.four (i := ⟨o, a, b, m⟩)
  simp only at a0 a1 a2 a3
  have ca : w2.cell? ⟨r, a, none⟩ = some (.int .u64 x) := by rw [R.cell, rc_at f a ha, hx]
  have cb : w2.cell? ⟨r, b, none⟩ = some (.int .u64 y) := by rw [R.cell, rc_at f b hb, hy]
  go_upto_region 5 with fail
  go_quiet (fail)
  have gq := gbDrewN w2 nq none
  replace B := B.kept gq
  replace C := C.kept gq
  replace R := R.kept gq
  replace G := gbTrans G gq
  clear gq a0 a1 a2 a3 ca cb
  generalize w2.drewN nq = w3 at B C R G
  go_wp2_with (refine wpList_loadW rfl _ rfl rfl B tkI rfl ?_)
  refine (HA _).mono ?_
  rintro e w4 ⟨rfl, g1⟩
  replace B := B.kept g1
  replace C := C.kept g1
  replace R := R.kept g1
  replace G := gbTrans G g1
  clear g1 HA
  go_upto_region 7 with (first | (refine wpList_allocW rfl rfl zE ?_; intro V1 x1 X1 k1 l1) | (refine wpList_storeW rfl _ _ rfl rfl rfl X1 tkE rfl rfl (ec_one _) ?_; intro W5 D h1))
  have dz := C.apart l1
  have dq := B.apart l1
  have lx : w.heap.size ≤ x1 := Nat.le_trans G.size l1
  replace B := B.past k1 l1 h1
  replace C := C.past k1 l1 h1
  replace R := R.past k1 l1 h1
  replace G := gbMade G k1 l1 h1
  clear k1 l1 h1 X1
  go_upto_region 8 with (first | (refine wpList_loadW rfl _ rfl rfl R tkR rfl ?_) | (refine wpList_storeF rfl _ _ rfl rfl rfl D tkR ?_; intro W6 D6 g6))
  replace B := B.aside g6 dq
  replace C := C.aside g6 dz
  replace G := gbNew (gbTrans (gbAny G _) g6) lx
  clear g6 D R
  have gd : W6.grownBy W6.drew none := gbDrew (gbRefl _ _)
  have T0 := hideIt ((B.four (i := ⟨o, a, b, m⟩)))
  have T1 := hideIt ((B.kept gd).four (i := ⟨o, a, b, m⟩))
  have i0 : (0 : Int) ≤ (a : Int) := Int.natCast_nonneg _
  have i8 : (a : Int) < 8 := by omega
  go_region_held3 (fun w' => w'.cell? ⟨q, 0, none⟩ = some (.int .i64 (o : Int)) ∧ w'.cell? ⟨q, 1, none⟩ = some (.int .i64 (a : Int)) ∧ w'.cell? ⟨q, 2, none⟩ = some (.int .i64 (b : Int)) ∧ w'.cell? ⟨q, 3, none⟩ = some (.int .i64 (m : Int)))
    (first | with_reducible exact ⟨T0.out.at0, T0.out.at1, T0.out.at2, T0.out.at3⟩ | with_reducible exact ⟨T1.out.at0, T1.out.at1, T1.out.at2, T1.out.at3⟩ | with_reducible exact ⟨T7.out.at0, T7.out.at1, T7.out.at2, T7.out.at3⟩ | with_reducible exact ⟨T8.out.at0, T8.out.at1, T8.out.at2, T8.out.at3⟩ | fail)
    ((go_at_call 14; refine (HV _).mono ?_; rintro e7 w7 ⟨rfl, g7⟩; have T7 := hideIt (((B.kept gd).kept g7).four (i := ⟨o, a, b, m⟩)); have T8 := hideIt ((((B.kept gd).kept g7).aside (gbSetCell w7 x1 a (.int .u64 v)) dq).four (i := ⟨o, a, b, m⟩)); have hc := ((D6.kept gd).kept g7).cell a; rw [ec_at _ _ ha] at hc; have hf := ((D6.kept gd).kept g7).fr a))
  all_goals
    rename_i hold
    clear hold T0 T1 T7 T8 hc hf
    have G7 := gbTrans (gbTrans G gd) g7
    have D8 := (((D6.kept gd).kept g7)).set a (.int .u64 v) (ec_upd _ a v ha)
    have g8 := gbSetCell w7 x1 a (.int .u64 v)
    replace B := ((B.kept gd).kept g7).aside g8 dq
    replace C := ((C.kept gd).kept g7).aside g8 dz
    replace G := gbNew (gbTrans (gbAny G7 _) g8) lx
    have e8 : upd f a v = upd f a v := rfl
    clear g8 gd g7 D6 G7 HV i0 i8 e8
    simp only at D8
    generalize w7.setCell ⟨x1, a, none⟩ (.int .u64 v) = w8 at B C D8 G
    go_wp2_with (refine wpList_loadW rfl _ rfl rfl B tkI rfl ?_)
    refine (HP _).mono ?_
    rintro e w9 ⟨rfl, g9⟩
    replace C := C.kept g9
    replace D8 := D8.kept g9
    replace G := gbTrans G g9
    clear g9 HP B
    have c8 : w9.cell? ⟨x1, 8, none⟩ = some (.int .i64 u.p) := D8.cell 8
    have f8 := D8.fr 8
    go_upto_region 10 with fail
    have D9 := D8.set (d := ec { u with f := upd f a v, p := c }) 8 (.int .i64 c) rfl
    have g10 := gbSetCell w9 x1 8 (.int .i64 c)
    replace C := C.aside g10 dz
    replace G := gbNew (gbTrans (gbAny G _) g10) lx
    clear c8 f8 g10 D8
    generalize w9.setCell ⟨x1, 8, none⟩ (.int .i64 c) = w10 at C D9 G
    go_wp2_with (first | (refine wpList_loadW rfl _ rfl rfl D9 tkE rfl ?_) | (refine wpList_storeW rfl _ _ rfl rfl rfl C tkE rfl rfl (ec_one _) ?_; intro W9 C9 g9))
    exact bodyPost_ret (results_We Try.results8 rfl rfl C9 tkE rfl) rfl ⟨rfl, gbNew (gbTrans (gbAny G _) g9) lz⟩

theorem run_is (i : I) (f : Nat → Int) (p : Int) (u : E) (g : Int) (hf : ∀ j, 0 ≤ f j) (h : M.run i f p = (u, g)) (w : World) :
    Calls Try.prog 8 #[iv i, .agg (rc f), .int .i64 p] w fun e w' => e = .returned (.tuple #[.agg (ec u), .int .i64 g]) ∧ w.grownBy w' none := by
  unfold M.run at h
  by_cases c : M.rt i = true
  · rw [if_pos c] at h
    by_cases d : M.bel p 4096 = true
    · rw [if_pos d] at h
      simp only [Prod.mk.injEq] at h
      obtain ⟨rfl, rfl⟩ := h
      obtain ⟨o, a, b, m, rfl, ho, ha, hb, hm⟩ := M.rt_nat c
      obtain ⟨P, rfl⟩ : ∃ P : Nat, p = P := ⟨p.toNat, by have := M.bel_iff.1 d; omega⟩
      have hP : P < 4096 := by have := M.bel_iff.1 d; omega
      exact run_yes o a b m P f (f a) (f b) _ _ (M.as o a m (f a) (f b)) ho ha hb hm hP rfl rfl (isRight_is _ _ c) (below_is _ _ _ d) (asked_is o m a b _ _ _ ho hm rfl) (result_is o a b m _ _ _ ho hm (hf b) rfl) (after_is o a b m _ _ _ P ho hP rfl) w
    · rw [if_neg d] at h
      simp only [Prod.mk.injEq] at h
      obtain ⟨rfl, rfl⟩ := h
      exact run_range i f p c (by simpa using d) w
  · rw [if_neg c] at h
    simp only [Prod.mk.injEq] at h
    obtain ⟨rfl, rfl⟩ := h
    exact run_field i f p (by simpa using c) w
end Go.Proofs.Yteekgfdffofnaab
