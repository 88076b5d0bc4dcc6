/- SpaceLeads (15.2): what is mapped is where a walk leads, to be read; to be written just if it is mapped so; changed by Remap, it is as it was changed to. For every input; no condition. -/
import Derived.Test.YtfdnangceomeiaaSfa
import Derived.Test.YtfdnangceomeiaaArgs
import Derived.ProofKit
import Derived.OpenShut
import Derived.ShutString
import Derived.ChangeOld
import Derived.Below
import Derived.Deep.Slices
namespace Go.Proofs.Ytfdnangceomeiaa.spaceLeads
open Go.ChangeShapes Go.WideShapes Go.ChangeAt Go.RowKit
set_option linter.unusedVariables false

theorem own : ownKnob Try.prog.godebug = none := by kernel_rfl
theorem laidOut : laidOutB Try.prog = true := by kernel_rfl

/-- The law's words: a table at 16, one frame mapped. -/
structure Fx (F : Nat → Nat) (A Q : Nat) (o : Bool) : Prop where
  one : F (16 * 0 + A / 256) = M.wd 1 false
  two : F (16 * 1 + A / 16 % 16) = M.wd Q o
theorem Fx.pe {F : Nat → Nat} {A Q : Nat} {o : Bool} (h : Fx F A Q o) (hA : A < 4096) (hQ : Q < 24) : M.pe 512 F 0 (A : Int) = (⟨true, o, ((16 * Q : Nat) : Int)⟩, 0) :=
  M.pe_mk (D := 0) (P := 1) hA rfl (by omega) (by have := h.one; rw [Nat.mul_zero] at this; rw [this]; exact M.wd_up false (by omega)) (by omega) (by rw [h.two]; exact M.wd_up o (by omega)) (by omega)
theorem Fx.st {F : Nat → Nat} {A Q : Nat} {o : Bool} (h : Fx F A Q o) (hA : A < 4096) (u : Bool) : Fx (M.st F (16 * 1 + A / 16 % 16) (M.wd Q u)) A Q u :=
  ⟨by rw [M.st_ne (by omega)]; exact h.one, M.st_at _ _ _⟩
theorem leads (A Q f x : Nat) (o t : Bool) (hA : A < 4096) (hf : f = 16 * Q) (hQ : 4 ≤ Q) (hQ' : Q < 24) (hx : x = f + A % 16) : ∃ F1 F2 F3 F4 : Nat → Nat,
    M.chg W.F0 (M.dp 512 0 (A : Int) (M.al 512 16)) (M.lay ⟨true, false, 16⟩) = (0, F1) ∧
    M.chg F1 (M.tp 512 F1 0 (A : Int) (M.al 512 (f : Int))) (M.lay ⟨true, o, (f : Int)⟩) = (0, F2) ∧
    M.to 512 F2 0 (A : Int) false = ((x : Int), 0) ∧ M.to 512 F2 0 (A : Int) true = (if o then ((x : Int), 0) else (0, 5)) ∧
    M.chg F2 (M.tp 512 F2 0 (A : Int) true) (M.alw t) = (0, F3) ∧
    M.to 512 F3 0 (A : Int) false = ((x : Int), 0) ∧ M.to 512 F3 0 (A : Int) true = (if t then ((x : Int), 0) else (0, 5)) ∧
    M.chg F3 (M.tp 512 F3 0 (A : Int) true) M.out = (0, F4) ∧ M.chg F4 (M.tp 512 F4 0 (A : Int) true) (M.alw true) = (3, F4) := by
  subst hf
  have e1 := M.table_mk (n := 512) (F := W.F0) (dir := 0) (a := (A : Int)) (t := 16) (D := 0) (A := A) (P := 1) (by omega) rfl rfl rfl (by omega) hA (by omega) rfl
  obtain ⟨F1, h1⟩ : ∃ F1, M.st W.F0 (16 * 0 + A / 256) (M.wd 1 false) = F1 := ⟨_, rfl⟩
  rw [h1] at e1
  have k1 : F1 (16 * 0 + A / 256) = M.wd 1 false := by rw [← h1]; exact M.st_at _ _ _
  have k2 : F1 (16 * 1 + A / 16 % 16) = 0 := by rw [← h1, M.st_ne (by omega)]
  have u1 : M.up (F1 (16 * 0 + A / 256)) = (⟨true, false, ((16 * 1 : Nat) : Int)⟩, 0) := by rw [k1]; exact M.wd_up false (by omega)
  have e2 := M.map_mk (n := 512) (F := F1) (dir := 0) (a := (A : Int)) (t := ((16 * Q : Nat) : Int)) (D := 0) (A := A) (P := 1) (Q := Q) (o := o) (by omega) rfl rfl rfl (by omega) hA (by omega) u1 (by omega) k2
  have x2 : Fx (M.st F1 (16 * 1 + A / 16 % 16) (M.wd Q o)) A Q o := ⟨by rw [M.st_ne (by omega)]; exact k1, M.st_at _ _ _⟩
  obtain ⟨F2, h2⟩ : ∃ F2, M.st F1 (16 * 1 + A / 16 % 16) (M.wd Q o) = F2 := ⟨_, rfl⟩
  rw [h2] at e2 x2
  have u2 : M.up (F2 (16 * 0 + A / 256)) = (⟨true, false, ((16 * 1 : Nat) : Int)⟩, 0) := by rw [x2.one]; exact M.wd_up false (by omega)
  have p2 := x2.pe hA hQ'
  have e3 := M.remap_mk (n := 512) (F := F2) (dir := 0) (a := (A : Int)) (D := 0) (A := A) (P := 1) (Q := Q) (o := t) (u := o) rfl rfl (by omega) hA u2 (by omega) (by omega) x2.two
  have x3 := x2.st hA t
  obtain ⟨F3, h3⟩ : ∃ F3, M.st F2 (16 * 1 + A / 16 % 16) (M.wd Q t) = F3 := ⟨_, rfl⟩
  rw [h3] at e3 x3
  have u3 : M.up (F3 (16 * 0 + A / 256)) = (⟨true, false, ((16 * 1 : Nat) : Int)⟩, 0) := by rw [x3.one]; exact M.wd_up false (by omega)
  have p3 := x3.pe hA hQ'
  have e4 := M.unmap_mk (n := 512) (F := F3) (dir := 0) (a := (A : Int)) (D := 0) (A := A) (P := 1) rfl rfl (by omega) hA u3 (by omega) (by rw [x3.two]; exact M.wd_pos _ _)
  obtain ⟨F4, h4⟩ : ∃ F4, M.st F3 (16 * 1 + A / 16 % 16) 0 = F4 := ⟨_, rfl⟩
  rw [h4] at e4
  have u4 : M.up (F4 (16 * 0 + A / 256)) = (⟨true, false, ((16 * 1 : Nat) : Int)⟩, 0) := by rw [← h4, M.st_ne (by omega)]; exact u3
  have e5 := M.remap_none (n := 512) (F := F4) (dir := 0) (a := (A : Int)) (D := 0) (A := A) (P := 1) (o := true) rfl rfl (by omega) hA u4 (by omega) (by rw [← h4]; exact M.st_at _ _ _)
  have toW : ∀ (F : Nat → Nat) (v : Bool), M.pe 512 F 0 (A : Int) = (⟨true, v, ((16 * Q : Nat) : Int)⟩, 0) → M.to 512 F 0 (A : Int) true = (if v then ((x : Int), 0) else (0, 5)) := by
    intro F v h
    cases v
    · exact M.to_rights h rfl
    · rw [hx]; exact M.to_mk h rfl
  refine ⟨F1, F2, F3, F4, e1, e2, ?_, toW F2 o p2, e3, ?_, toW F3 t p3, e4, e5⟩
  · rw [hx]; exact M.to_mk p2 rfl
  · rw [hx]; exact M.to_mk p3 rfl

set_option maxHeartbeats 4000000 in
set_option maxRecDepth 100000 in
theorem core (a0 a1 : Int) (o t : Bool) (U V A k f r x : Nat) (F1 F2 F3 F4 : Nat → Nat) (w : World) (v1 : IntKind.u64.wrap a0 = (U : Int)) (v2 : (U : Int) % 4096 = (A : Int)) (Al : A < 4096)
    (v3 : IntKind.u64.wrap a1 = (V : Int)) (v4 : (V : Int) % 20 = (k : Int)) (kl : k < 20) (v5 : 64 + 16 * (k : Int) = (f : Int)) (fl : f < 512) (v6 : (A : Int) % 16 = (r : Int)) (v7 : (f : Int) + (r : Int) = (x : Int))
    (y g z j : Int) (hg : (g == 0) = o) (hj : (j == 0) = t)
    (t1 : M.chg W.F0 (M.dp 512 0 (A : Int) (M.al 512 16)) (M.lay ⟨true, false, 16⟩) = (0, F1))
    (t2 : M.chg F1 (M.tp 512 F1 0 (A : Int) (M.al 512 (f : Int))) (M.lay ⟨true, o, (f : Int)⟩) = (0, F2))
    (t3 : M.to 512 F2 0 (A : Int) false = ((x : Int), 0)) (t4 : M.to 512 F2 0 (A : Int) true = (y, g))
    (t5 : M.chg F2 (M.tp 512 F2 0 (A : Int) true) (M.alw t) = (0, F3))
    (t6 : M.to 512 F3 0 (A : Int) false = ((x : Int), 0)) (t7 : M.to 512 F3 0 (A : Int) true = (z, j))
    (t8 : M.chg F3 (M.tp 512 F3 0 (A : Int) true) M.out = (0, F4)) (t9 : M.chg F4 (M.tp 512 F4 0 (A : Int) true) (M.alw true) = (3, F4)) :
    Calls Try.prog 7 #[.int .i64 a0, .int .i64 a1, .bool o, .bool t] w fun e w' => e = .returned (.bool true) ∧ w.grownBy w' none := by
  have T1 := hideIt t1
  have T2 := hideIt t2
  have T3 := hideIt t3
  have T4 := hideIt t4
  have T5 := hideIt t5
  have T6 := hideIt t6
  have T7 := hideIt t7
  have T8 := hideIt t8
  have T9 := hideIt t9
  clear t1 t2 t3 t4 t5 t6 t7 t8 t9
  go_enter Try.func7, Try.ntmps7
  go_wp2_with fail
  refine (works_is _).mono ?_
  rintro e w0 ⟨rfl, g0⟩
  go_wp2_with fail
  refine (new_nw _ 512 (by omega) (by omega)).mono ?_
  rintro e w1 ⟨p, b, rfl, H1⟩
  replace H1 := hideIt H1
  go_wp2_with fail
  refine (table_is _ p b 512 _ _ 0 A 0 16 H1.out.m T1.out).mono ?_
  rintro e w2 ⟨rfl, m2, g2⟩
  have H2 := hideIt (H1.out.turn m2 g2)
  clear H1 m2 g2 T1
  clear v1 v2 v3 v4 v5
  go_wp2_with fail
  refine (map_is _ p b 512 _ _ 0 A 0 f o H2.out.m T2.out).mono ?_
  rintro e w3 ⟨rfl, m3, g3⟩
  have H3 := hideIt (H2.out.turn m3 g3)
  clear H2 m3 g3 T2
  go_wp2_with fail
  refine (to_is _ p b 512 F2 0 A false x 0 H3.out.m T3.out).mono ?_
  rintro e w4 ⟨rfl, g4⟩
  have H4 := hideIt (H3.out.kept g4)
  clear H3 g4 T3
  go_wp2_with fail
  refine (to_is _ p b 512 F2 0 A true y g H4.out.m T4.out).mono ?_
  rintro e w5 ⟨rfl, g5⟩
  have H5 := hideIt (H4.out.kept g5)
  clear H4 g5 T4
  go_wp2_with fail
  refine (remap_is _ p b 512 F2 _ 0 A 0 t H5.out.m T5.out).mono ?_
  rintro e w6 ⟨rfl, m6, g6⟩
  have H6 := hideIt (H5.out.turn m6 g6)
  clear H5 m6 g6 T5
  go_wp2_with fail
  refine (to_is _ p b 512 F3 0 A false x 0 H6.out.m T6.out).mono ?_
  rintro e w7 ⟨rfl, g7⟩
  have H7 := hideIt (H6.out.kept g7)
  clear H6 g7 T6
  go_wp2_with fail
  refine (to_is _ p b 512 F3 0 A true z j H7.out.m T7.out).mono ?_
  rintro e w8 ⟨rfl, g8⟩
  have H8 := hideIt (H7.out.kept g8)
  clear H7 g8 T7
  go_wp2_with fail
  refine (unmap_is _ p b 512 F3 _ 0 A 0 H8.out.m T8.out).mono ?_
  rintro e w9 ⟨rfl, m9, g9⟩
  have H9 := hideIt (H8.out.turn m9 g9)
  clear H8 m9 g9 T8
  go_wp2_with fail
  refine (remap_is _ p b 512 F4 _ 0 A 3 true H9.out.m T9.out).mono ?_
  rintro e w10 ⟨rfl, m10, g10⟩
  have H10 := hideIt (H9.out.turn m10 g10)
  clear H9 m10 g10 T9
  go_wp2
  go_ret
  exact ⟨rfl, gbTrans g0 H10.out.g⟩

theorem walk (a0 a1 : Int) (b2 b3 : Bool) (w : World) :
    Calls Try.prog 7 #[.int .i64 a0, .int .i64 a1, .bool b2, .bool b3] w fun e w' => e = .returned (.bool true) ∧ Below w.heap.size w w' := by
  refine endWalk ?_
  obtain ⟨U, A, v1, v2, hA⟩ := modArg a0 4096 (by omega)
  obtain ⟨V, k, f, Q, v3, v4, v5, v6, v7, v8⟩ := frameArg a1
  obtain ⟨F1, F2, F3, F4, t1, t2, t3, t4, t5, t6, t7, t8, t9⟩ := leads A Q f (f + A % 16) b2 b3 hA v6 v7 v8 rfl
  refine core a0 a1 b2 b3 U V A k f (A % 16) (f + A % 16) F1 F2 F3 F4 w v1 v2 hA v3 v4 (by omega) v5 (by omega) (by omega) (by omega) _ _ _ _ ?_ ?_ t1 t2 t3 t4 t5 t6 t7 t8 t9
  · cases b2 <;> rfl
  · cases b3 <;> rfl

set_option maxRecDepth 100000 in
theorem lifted (os : Os) (started : os.Started) (H : Type) (enc : TypeId × Value → H) :
    ReturnsInHanded {} Try.checked os 7 .any (Rows.spaceLeadsSpec.pre6 enc Try.prog Try.f7 Rows.spaceLeadsRow.domain false) (Rows.spaceLeadsSpec.post enc Try.prog Try.f7 false true false false) := by
  refine returnsInHanded_of_change (C := Try.checked) own started (by kernel_rfl) Try.func7
    (ChangeSpec.witness6 (enc := enc) (C := Try.checked) false ⟨#[], #[.int .i64 0, .int .i64 0, .bool false, .bool false], []⟩ 8 (by kernel_rfl) (by kernel_rfl) (by kernel_rfl) (by kernel_rfl)) ?_
  intro W base args ds gs before hval0 hW hcnd _
  have hval : ∀ (j : Nat) t v, Try.f7.params[j]? = some t → args[j]? = some v → Value.okWide Try.prog W .any base t v := hval0
  have hW' := hW
  obtain ⟨p, q, hA0, hV, rfl, hfz, hnd⟩ := hW
  have hA : DataW.TrodAll enc Try.prog W 0 (fun _ => true) true Try.f7.params.toList args.toList ds p := hA0
  rw [Try.params7] at hA hval
  obtain ⟨v0, vs0, d0, ds0, p0, q0, hargs, rfl, rfl, h0, r0⟩ := trodAll_cons hA
  obtain ⟨v1, vs1, d1, ds1, p1, q1, rfl, rfl, rfl, h1, r1⟩ := trodAll_cons r0
  obtain ⟨v2, vs2, d2, ds2, p2, q2, rfl, rfl, rfl, h2, r2⟩ := trodAll_cons r1
  obtain ⟨v3, vs3, d3, ds3, p3, q3, rfl, rfl, rfl, h3, r3⟩ := trodAll_cons r2
  obtain ⟨rfl, rfl, rfl⟩ := trodAll_nil r3
  obtain rfl : args = #[v0, v1, v2, v3] := by cases args; simp_all
  obtain ⟨rfl, rfl⟩ := trodVars_none hV
  obtain ⟨a0, rfl, rfl, rfl, w0⟩ := open_int Try.underlying3 (hval 0 3 v0 rfl rfl) h0
  obtain ⟨a1, rfl, rfl, rfl, w1⟩ := open_int Try.underlying3 (hval 1 3 v1 rfl rfl) h1
  obtain ⟨b2, rfl, rfl, rfl⟩ := open_bool Try.underlying4 (hval 2 4 v2 rfl rfl) h2
  obtain ⟨b3, rfl, rfl, rfl⟩ := open_bool Try.underlying4 (hval 3 4 v3 rfl rfl) h3
  clear hA0 hval0
  refine (walk a0 a1 b2 b3 W).mono fun e W' ⟨he, bel⟩ => ?_
  subst he
  exact ⟨_, rfl, _, _, _, [], _, [], hW', trodAll_mk1 (shut_bool Try.underlying4 _), (trodAll_cons_mk (shut_int Try.underlying3 w0) (trodAll_cons_mk (shut_int Try.underlying3 w1) (trodAll_cons_mk (shut_bool Try.underlying4 _) (trodAll_cons_mk (shut_bool Try.underlying4 _) trodAll_mk0)))), rfl, bel.frame _, fun h => by cases h⟩

theorem over : Rows.spaceLeadsRow.holds Try.pinned (OpenSpec.ofChange Rows.spaceLeadsSpec) :=
  OpenClaim.holds_of_wide 7 Try.f7 rfl rfl rfl rfl rfl rfl rfl ⟨rfl, rfl, rfl, rfl, rfl⟩ rfl rfl rfl rfl rfl (by kernel_rfl) Try.func7 (by kernel_rfl)
    (of_decide_eq_true (by kernel_rfl)) (by unfold Func.isWrapper; first | (rw [if_pos (by decide +kernel)]; kernel_rfl) | (rw [if_neg (by decide +kernel)]; exact ⟨rfl, rfl⟩))
    (fun os started H enc _ => lifted os started H enc)

theorem proved : Rows.SpaceLeadsSaid := over
end Go.Proofs.Ytfdnangceomeiaa.spaceLeads
namespace Go.Proofs.Ytfdnangceomeiaa
theorem spaceLeads_holds : Rows.SpaceLeadsSaid := spaceLeads.proved
#print axioms spaceLeads_holds
end Go.Proofs.Ytfdnangceomeiaa
