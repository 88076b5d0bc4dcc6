/-
  THE CONTRACTS of package thread's Check, checkWaits, New, Start, Stop; their answers as plain functions (written by mkchk.py).
-/
import Derived.Test.YtaojiojbpkldkaaOwn
namespace Go.Proofs.Ytaojiojbpkldkaa
set_option maxRecDepth 10000
open Go.RowKit
set_option linter.unusedVariables false

/-- Nothing that only those in other states have. -/
def M.plain (t : T) : Bool := t.o == (M.own t).o && t.b == (M.own t).b && t.c == (M.own t).c
/-- What is wrong with a thread. -/
def M.ck (t : T) : Int := if t.s < 0 ∨ 5 < t.s then 8 else if M.plain t && M.inb t then 0 else 10
/-- Why a thread is none that waits. -/
def M.cw (t : T) : Int := if M.ck t = 0 then (if t.s = 0 ∨ t.s = 1 then 8 else 0) else M.ck t

theorem run_neq_own (w : World) (t : T) (v : Bool) (h : M.plain t = v) : (binOp .neq 29 (.agg (tc t)) (.agg (tc (M.own t)))).run Try.prog w = .ok (.bool (!v)) w := by
  subst h
  exact run_neq_T w t (M.own t).o (M.own t).b (M.own t).c

/-- A thread loaded, in a region whose operations only read. -/
theorem wpQuiet_loadT {W : World} {ops : Array Oper} {rest : List Oper} {o : Oper} {a : Act} {Q : Act → Prop} (hw : Region.wanted o (yielded ops a.tmps) = true) (z : Operand) (ho : o.op = .load 29 z) {x : Nat} {V : Array Value} (hx : a.eval z = .pointer (some ⟨x, 0, none⟩))
    (ld : ∀ y : Gr W, (Instr.loadAt 29 (.pointer (some ⟨x, 0, none⟩))).run Try.prog y.w = .ok (.agg V) y.w)
    (h : wpQuiet Try.prog ops (fun w' => ∃ x : Gr W, w' = x.w) Q rest (a.put o.dst (.agg V))) : wpQuiet Try.prog ops (fun w' => ∃ x : Gr W, w' = x.w) Q (o :: rest) a :=
  BigFrame.wpQuiet_want hw fun K hK => ⟨.agg V, fun w hw' => by
    obtain ⟨y, rfl⟩ := hw'
    unfold Oper.quietAt execOp
    simp only [ho, hx, Sem.run_bind, ld, Result.andThen_ok, Sem.run_pure]
    exact ⟨rfl, rfl⟩, hK _ h⟩

set_option maxHeartbeats 1000000 in
theorem check_low (t : T) (c1 : t.s < 0) (w : World) :
    Calls Try.prog 14 #[.agg (tc t)] w fun e w' => e = .returned (.int .i64 8) ∧ w.grownBy w' none := by
  go_enter Try.func14, Try.ntmps14
  go_upto_region 1 with (refine wpList_boxT rfl _ rfl rfl ?_; intro W1 x B G l1)
  have a0 := B.eight.at0
  go_wp2
  go_ret
  exact ⟨rfl, G⟩

set_option maxHeartbeats 1000000 in
theorem check_high (t : T) (c1 : 5 < t.s) (w : World) :
    Calls Try.prog 14 #[.agg (tc t)] w fun e w' => e = .returned (.int .i64 8) ∧ w.grownBy w' none := by
  have c0 : ¬ t.s < 0 := by omega
  go_enter Try.func14, Try.ntmps14
  go_upto_region 1 with (refine wpList_boxT rfl _ rfl rfl ?_; intro W1 x B G l1)
  have a0 := B.eight.at0
  go_wp2
  go_ret
  exact ⟨rfl, G⟩

set_option maxHeartbeats 1000000 in
theorem check_own (t : T) (c0 : ¬ t.s < 0) (c1 : ¬ 5 < t.s) (hp : M.plain t = false) (w : World) :
    Calls Try.prog 14 #[.agg (tc t)] w fun e w' => e = .returned (.int .i64 10) ∧ w.grownBy w' none := by
  have HO := own_is t _ rfl
  have qn := fun w => run_neq_own w t _ hp
  have qe := eqGuardT
  go_enter Try.func14, Try.ntmps14
  go_upto_region 1 with (refine wpList_boxT rfl _ rfl rfl ?_; intro W1 x B G l1)
  have a0 := B.eight.at0
  go_upto_region 3 with fail
  clear a0
  have ld := fun y : Gr W1 => (B.kept y.g).load
  generalize tc (M.own t) = U at HO qn
  generalize tc t = V at HO qn ld
  refine wp_region_grown (by kernel_rfl) (by kernel_rfl) fun _ => ?_
  repeat (first | (refine wpQuiet_loadT rfl _ rfl rfl ld ?_; simp only [Act.put, List.setIfInBounds_toArray, List.set_cons_zero, List.set_cons_succ]) | (go_big_quiet_step (first | (go_at_call 16; with_reducible exact callsGr (HO _)))))
  refine wpQuiet_nil ?_
  rintro w2 ⟨⟨_, g2⟩, rfl⟩
  go_wp2
  go_ret
  exact ⟨rfl, gbTrans G g2⟩

set_option maxHeartbeats 1000000 in
theorem check_out (t : T) (c0 : ¬ t.s < 0) (c1 : ¬ 5 < t.s) (hb : t.b < 18446744073709551616) (hp : M.plain t = true) (hi : M.inb t = false) (w : World) :
    Calls Try.prog 14 #[.agg (tc t)] w fun e w' => e = .returned (.int .i64 10) ∧ w.grownBy w' none := by
  have HO := own_is t _ rfl
  have qn := fun w => run_neq_own w t _ hp
  have qe := eqGuardT
  go_enter Try.func14, Try.ntmps14
  go_upto_region 1 with (refine wpList_boxT rfl _ rfl rfl ?_; intro W1 x B G l1)
  have a0 := B.eight.at0
  go_upto_region 3 with fail
  clear a0
  have ld := fun y : Gr W1 => (B.kept y.g).load
  generalize tc (M.own t) = U at HO qn
  have HW := within_is t hb _ hi
  generalize tc t = V at HO qn ld HW
  refine wp_region_grown (by kernel_rfl) (by kernel_rfl) fun _ => ?_
  repeat (first | (refine wpQuiet_loadT rfl _ rfl rfl ld ?_; simp only [Act.put, List.setIfInBounds_toArray, List.set_cons_zero, List.set_cons_succ]) | (go_big_quiet_step (first | (go_at_call 16; with_reducible exact callsGr (HO _)) | (go_at_call 19; with_reducible exact callsGr (HW _)))))
  refine wpQuiet_nil ?_
  rintro w2 ⟨⟨_, g2⟩, rfl⟩
  go_wp2
  go_ret
  exact ⟨rfl, gbTrans G g2⟩

set_option maxHeartbeats 1000000 in
theorem check_yes (t : T) (c0 : ¬ t.s < 0) (c1 : ¬ 5 < t.s) (hb : t.b < 18446744073709551616) (hp : M.plain t = true) (hi : M.inb t = true) (w : World) :
    Calls Try.prog 14 #[.agg (tc t)] w fun e w' => e = .returned (.int .i64 0) ∧ w.grownBy w' none := by
  have HO := own_is t _ rfl
  have qn := fun w => run_neq_own w t _ hp
  have qe := eqGuardT
  go_enter Try.func14, Try.ntmps14
  go_upto_region 1 with (refine wpList_boxT rfl _ rfl rfl ?_; intro W1 x B G l1)
  have a0 := B.eight.at0
  go_upto_region 3 with fail
  clear a0
  have ld := fun y : Gr W1 => (B.kept y.g).load
  generalize tc (M.own t) = U at HO qn
  have HW := within_is t hb _ hi
  generalize tc t = V at HO qn ld HW
  refine wp_region_grown (by kernel_rfl) (by kernel_rfl) fun _ => ?_
  repeat (first | (refine wpQuiet_loadT rfl _ rfl rfl ld ?_; simp only [Act.put, List.setIfInBounds_toArray, List.set_cons_zero, List.set_cons_succ]) | (go_big_quiet_step (first | (go_at_call 16; with_reducible exact callsGr (HO _)) | (go_at_call 19; with_reducible exact callsGr (HW _)))))
  refine wpQuiet_nil ?_
  rintro w2 ⟨⟨_, g2⟩, rfl⟩
  go_wp2
  go_ret
  exact ⟨rfl, gbTrans G g2⟩

theorem check_is (t : T) (hb : t.b < 18446744073709551616) (v : Int) (h : M.ck t = v) (w : World) :
    Calls Try.prog 14 #[.agg (tc t)] w fun e w' => e = .returned (.int .i64 v) ∧ w.grownBy w' none := by
  subst h
  by_cases c0 : t.s < 0
  · rw [show M.ck t = 8 by unfold M.ck; rw [if_pos (.inl c0)]]; exact check_low t c0 w
  by_cases c1 : 5 < t.s
  · rw [show M.ck t = 8 by unfold M.ck; rw [if_pos (.inr c1)]]; exact check_high t c1 w
  have e : M.ck t = if M.plain t && M.inb t then 0 else 10 := by unfold M.ck; rw [if_neg (by omega)]
  rw [e]
  cases hp : M.plain t
  · exact check_own t c0 c1 hp w
  cases hi : M.inb t
  · exact check_out t c0 c1 hb hp hi w
  · exact check_yes t c0 c1 hb hp hi w

set_option maxHeartbeats 1000000 in
theorem wait_no (t : T) (v : Int) (hne : (v != 0) = true) (HC : ∀ w, Calls Try.prog 14 #[.agg (tc t)] w fun e w' => e = .returned (.int .i64 v) ∧ w.grownBy w' none) (w : World) :
    Calls Try.prog 17 #[.agg (tc t)] w fun e w' => e = .returned (.int .i64 v) ∧ w.grownBy w' none := by
  go_enter Try.func17, Try.ntmps17
  go_upto_region 1 with (refine wpList_boxT rfl _ rfl rfl ?_; intro W1 x B G l1)
  go_wp2_with (refine wpList_loadT rfl _ rfl rfl B ?_)
  refine (HC _).mono ?_
  rintro e w3 ⟨rfl, g3⟩
  replace B := B.kept g3
  replace G := gbTrans G g3
  have a0 := B.eight.at0
  go_wp2
  go_ret
  exact ⟨rfl, G⟩

set_option maxHeartbeats 1000000 in
theorem wait_0 (t : T) (h : t.s = 0) (HC : ∀ w, Calls Try.prog 14 #[.agg (tc t)] w fun e w' => e = .returned (.int .i64 0) ∧ w.grownBy w' none) (w : World) :
    Calls Try.prog 17 #[.agg (tc t)] w fun e w' => e = .returned (.int .i64 8) ∧ w.grownBy w' none := by
  go_enter Try.func17, Try.ntmps17
  go_upto_region 1 with (refine wpList_boxT rfl _ rfl rfl ?_; intro W1 x B G l1)
  go_wp2_with (refine wpList_loadT rfl _ rfl rfl B ?_)
  refine (HC _).mono ?_
  rintro e w3 ⟨rfl, g3⟩
  replace B := B.kept g3
  replace G := gbTrans G g3
  have a0 := B.eight.at0
  go_wp2
  go_ret
  exact ⟨rfl, G⟩

set_option maxHeartbeats 1000000 in
theorem wait_1 (t : T) (h : t.s = 1) (HC : ∀ w, Calls Try.prog 14 #[.agg (tc t)] w fun e w' => e = .returned (.int .i64 0) ∧ w.grownBy w' none) (w : World) :
    Calls Try.prog 17 #[.agg (tc t)] w fun e w' => e = .returned (.int .i64 8) ∧ w.grownBy w' none := by
  go_enter Try.func17, Try.ntmps17
  go_upto_region 1 with (refine wpList_boxT rfl _ rfl rfl ?_; intro W1 x B G l1)
  go_wp2_with (refine wpList_loadT rfl _ rfl rfl B ?_)
  refine (HC _).mono ?_
  rintro e w3 ⟨rfl, g3⟩
  replace B := B.kept g3
  replace G := gbTrans G g3
  have a0 := B.eight.at0
  go_wp2
  go_ret
  exact ⟨rfl, G⟩

set_option maxHeartbeats 1000000 in
theorem wait_yes (t : T) (h0 : (t.s == 0) = false) (h1 : (t.s == 1) = false) (HC : ∀ w, Calls Try.prog 14 #[.agg (tc t)] w fun e w' => e = .returned (.int .i64 0) ∧ w.grownBy w' none) (w : World) :
    Calls Try.prog 17 #[.agg (tc t)] w fun e w' => e = .returned (.int .i64 0) ∧ w.grownBy w' none := by
  go_enter Try.func17, Try.ntmps17
  go_upto_region 1 with (refine wpList_boxT rfl _ rfl rfl ?_; intro W1 x B G l1)
  go_wp2_with (refine wpList_loadT rfl _ rfl rfl B ?_)
  refine (HC _).mono ?_
  rintro e w3 ⟨rfl, g3⟩
  replace B := B.kept g3
  replace G := gbTrans G g3
  have a0 := B.eight.at0
  go_wp2
  go_ret
  exact ⟨rfl, G⟩

theorem waits_is (t : T) (hb : t.b < 18446744073709551616) (v : Int) (h : M.cw t = v) (w : World) :
    Calls Try.prog 17 #[.agg (tc t)] w fun e w' => e = .returned (.int .i64 v) ∧ w.grownBy w' none := by
  subst h
  by_cases c : M.ck t = 0
  · have HC := check_is t hb 0 c
    by_cases c0 : t.s = 0
    · rw [show M.cw t = 8 by simp [M.cw, c, c0]]; exact wait_0 t c0 HC w
    by_cases c1 : t.s = 1
    · rw [show M.cw t = 8 by simp [M.cw, c, c1]]; exact wait_1 t c1 HC w
    · rw [show M.cw t = 0 by simp [M.cw, c, c0, c1]]; exact wait_yes t (by simpa using c0) (by simpa using c1) HC w
  · rw [show M.cw t = M.ck t by simp [M.cw, c]]; exact wait_no t _ (by simpa using c) (check_is t hb _ rfl) w

end Go.Proofs.Ytaojiojbpkldkaa
