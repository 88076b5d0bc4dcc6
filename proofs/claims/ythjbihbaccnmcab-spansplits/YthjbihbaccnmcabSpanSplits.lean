/- A right span halved again and again, down to one address, whichever one it is: each time that address lies in just one half, and in the end it is that one alone, as the given function SpanSplits asks; no condition. -/
import Derived.Test.YthjbihbaccnmcabHalf
import Derived.Test.YthjbihbaccnmcabRef
import Derived.Test.YthjbihbaccnmcabArgs
import Derived.ProofKit
import Derived.OpenShut
import Derived.ShutString
import Derived.ChangeOld
import Derived.Below
import Derived.Deep.Slices
namespace Go.Proofs.Ythjbihbaccnmcab.spanSplits
open Go.ChangeShapes Go.WideShapes Go.ChangeAt Go.RowKit
set_option linter.unusedVariables false

theorem own : ownKnob Try.prog.godebug = none := by kernel_rfl
theorem laidOut : laidOutB Try.prog = true := by kernel_rfl

theorem arg (a0 : Int) (m : Nat) (hm : 1 ≤ m) : ∃ U r : Nat, IntKind.u64.wrap a0 = (U : Int) ∧ (U : Int) % (m : Int) = (r : Int) ∧ r < m := by
  refine ⟨(IntKind.u64.wrap a0).toNat, (IntKind.u64.wrap a0).toNat % m, ?_, by simp, Nat.mod_lt _ hm⟩
  rw [IntKind.wrap_u64]; omega
theorem shlU (b m : Nat) (h : b ≤ 16) (hm : 2 ^ b = m) : IntKind.u64.wrap (2 ^ b) = (m : Int) := by
  have := M.pow_le16 b h
  rw [show ((2 : Int) ^ b) = ((2 ^ b : Nat) : Int) by simp, hm]
  rw [hm] at this
  rw [IntKind.wrap_u64]; omega

set_option maxHeartbeats 1000000 in
theorem walk_no (A B x : Int) (w : World) (h : M.rgt A B = false) :
    Calls Try.prog 3 #[sp A B, .int .i64 x] w fun e w' => e = .returned (.bool true) ∧ w.grownBy w' none := by
  have X0 := Box.made w A B
  have HR := fun w => rright_is A B false h w
  clear h
  go_enter Try.func3, Try.ntmps3
  go_wp2_with fail
  refine (works_any _).mono ?_
  rintro e w1 ⟨rfl, g1⟩
  have X1 := X0.kept g1
  have x0 := X1.at0
  have x1 := X1.at1
  go_wp2_with fail
  refine (HR _).mono ?_
  rintro e w2 ⟨rfl, g2⟩
  go_wp2
  go_ret
  exact ⟨rfl, gbTrans (gbAlloc _ _ _) (gbTrans g1 g2)⟩

theorem has_end {c : Nat} {y : Nat} (h : M.has (c : Int) ((0 : Nat) : Int) (y : Int) = true) : c = y := by
  cases hr : M.rgt (c : Int) ((0 : Nat) : Int)
  · rw [M.has_no hr] at h; cases h
  · rw [M.has_nat hr (m := 1) rfl] at h; simp at h; omega

/-- One round: where the address lies behind it. -/
theorem split {c b y : Nat} (h : M.has (c : Int) ((b + 1 : Nat) : Int) (y : Int) = true) : ∃ m q : Nat, 2 ^ b = m ∧ c + m = q ∧ M.rgt (c : Int) ((b + 1 : Nat) : Int) = true ∧
    (M.has (c : Int) (b : Int) (y : Int) = true ∧ M.has (q : Int) (b : Int) (y : Int) = false ∨ M.has (c : Int) (b : Int) (y : Int) = false ∧ M.has (q : Int) (b : Int) (y : Int) = true) := by
  cases hr : M.rgt (c : Int) ((b + 1 : Nat) : Int)
  · rw [M.has_no hr] at h; cases h
  · obtain ⟨_, _, _, _, _, _, h4, h5⟩ := M.half_facts (a := c) (b := b) (c := c + 2 ^ b) (m := 2 ^ b) (n := b + 1) rfl rfl rfl hr
    refine ⟨_, _, rfl, rfl, rfl, ?_⟩
    have h6 := h4 (y : Int)
    rw [h] at h6
    cases k : M.has (c : Int) (b : Int) (y : Int)
    · rw [k] at h6; right; exact ⟨rfl, by simpa using h6.symm⟩
    · left; exact ⟨rfl, h5 _ k⟩

set_option maxRecDepth 10000 in
set_option maxHeartbeats 2000000 in
theorem core (c0 b0 y m U r : Nat) (a0 : Int) (w : World) (hb : b0 ≤ 16) (hc : c0 ≤ 65536) (HR : ∀ w, Calls Try.prog 5 #[sp c0 b0] w fun e w' => e = .returned (.bool true) ∧ w.grownBy w' none)
    (hw : IntKind.u64.wrap (2 ^ b0) = (m : Int)) (hU : IntKind.u64.wrap a0 = (U : Int)) (hr : (U : Int) % (m : Int) = (r : Int)) (hrm : r < m) (hm : m ≤ 65536) (hy : (c0 : Int) + (r : Int) = (y : Int)) (hh : M.has (c0 : Int) (b0 : Int) (y : Int) = true) :
    Calls Try.prog 3 #[sp c0 b0, .int .i64 a0] w fun e w' => e = .returned (.bool true) ∧ w.grownBy w' none := by
  have X0 := Box.made w c0 b0
  have HH : Hid (M.has (c0 : Int) (b0 : Int) (y : Int) = true) := hideIt hh
  have hm1 : 1 ≤ m := by omega
  obtain ⟨k2, hk2⟩ : ∃ k2, w.heap.size = k2 := ⟨_, rfl⟩
  rw [hk2] at X0
  have hkl : w.heap.size ≤ k2 := Nat.le_of_eq hk2
  clear hh
  go_enter Try.func3, Try.ntmps3
  go_wp2_with fail
  refine (works_any _).mono ?_
  rintro e w1 ⟨rfl, g1⟩
  have X1 := X0.kept g1
  have x0 := X1.at0
  have x1 := X1.at1
  go_wp2_with fail
  refine (HR _).mono ?_
  rintro e w2 ⟨rfl, g2⟩
  have X2 := X1.kept g2
  obtain ⟨d0, d1⟩ := X2.all
  clear x0 x1
  go_wp2
  refine wp_region_grown (by kernel_rfl) (by kernel_rfl) fun _ => ?_
  repeat (go_big_quiet_step (fail))
  refine wpQuiet_nil ?_
  rintro w3 ⟨⟨_, g3⟩, rfl⟩
  have X3 := X2.kept g3
  have G3 : w.grownBy w3 none := gbTrans (gbAlloc _ _ _) (gbTrans g1 (gbTrans g2 g3))
  clear hw hU hr hy X0 X1 X2 g1 g2 g3 d0 d1 HR hk2
  go_wp2
  go_loopg [5] 17 (fun g s5 wr => ∃ i b c : Nat, i + g = 17 ∧ s5 = .int .i64 i ∧ i + b = b0 ∧ Hid (M.has (c : Int) (b : Int) (y : Int) = true) ∧ Box wr k2 c b ∧ w.grownBy wr none)
  case atStart => exact ⟨0, b0, c0, rfl, rfl, by omega, HH, X3, G3⟩
  case round =>
    obtain ⟨i, b, c, hi, rfl, hib, HB, Y, gw⟩ := hrel
    clear X3 G3
    have hi17 : (i : Int) < 17 := by omega
    have HS := fun w => has_is c b y true HB.out w
    have y0 := Y.at0
    have y1 := Y.at1
    cases b with
    | zero =>
      have hcy : c = y := has_end HB.out
      subst hcy
      have HN := fun w => halves_no (c : Int) ((0 : Nat) : Int) w (fun h => h.2 rfl)
      go_wp2_with fail
      refine (HS _).mono ?_
      rintro e w4 ⟨rfl, g4⟩
      have Y4 := Y.kept g4
      clear y0 y1
      have y0 := Y4.at0
      have y1 := Y4.at1
      go_wp2_with fail
      refine (HN _).mono ?_
      rintro e w5 ⟨rfl, g5⟩
      have Y5 := Y4.kept g5
      have l5 := Y5.lt
      clear y0 y1
      have y0 := Y5.at0
      have y1 := Y5.at1
      go_wp2
      go_ret
      exact ⟨ret_bool (by simp), gbTrans gw (gbTrans g4 (gbTrans g5 (gbTwo _ _ _ _)))⟩
    | succ b' =>
      obtain ⟨m', q, hm', hq, hrg, hcase⟩ := split HB.out
      have HN := fun w => halves_is c b' q m' (b' + 1) w rfl hm' hq hrg
      obtain ⟨nn, hnn⟩ : ∃ nn : Nat, b' + 1 = nn := ⟨_, rfl⟩
      rw [hnn] at HS HN y1 Y
      clear hrg hm' hq
      rcases hcase with ⟨v1, v2⟩ | ⟨v1, v2⟩
      all_goals
        have HP := fun w => has_is c b' y _ v1 w
        have HQ := fun w => has_is q b' y _ v2 w
        have H1 : Hid (M.has (c : Int) (b' : Int) (y : Int) = _) := hideIt v1
        have H2 : Hid (M.has (q : Int) (b' : Int) (y : Int) = _) := hideIt v2
        clear v1 v2
        go_wp2_with fail
        refine (HS _).mono ?_
        rintro e w4 ⟨rfl, g4⟩
        have Y4 := Y.kept g4
        clear y0 y1
        have y0 := Y4.at0
        have y1 := Y4.at1
        go_wp2_with fail
        refine (HN _).mono ?_
        rintro e w5 ⟨rfl, g5⟩
        have l5 := (Y4.kept g5).lt
        obtain ⟨P5, Q5⟩ := boxTwo w5 c b' q b'
        have T5 := gbTwo w5 (.cells #[.int .i64 c, .int .i64 b'] 23) (.cells #[.int .i64 q, .int .i64 b'] 23) none
        have Y5 := (Y4.kept g5).kept T5
        have G5 := gbTrans gw (gbTrans g4 (gbTrans g5 T5))
        obtain ⟨p0, p1⟩ := P5.all
        obtain ⟨q0, q1⟩ := Q5.all
        clear y0 y1 Y4 g4 g5 T5 Y gw
        go_wp2
        refine wp_region_grown (by kernel_rfl) (by kernel_rfl) fun _ => ?_
        repeat (go_big_quiet_step ((go_at_call 6; first | with_reducible exact callsGr (HP _) | with_reducible exact callsGr (HQ _))))
        refine wpQuiet_nil ?_
        rintro w6 ⟨⟨_, g6⟩, rfl⟩
        have P6 := P5.kept g6
        have Q6 := Q5.kept g6
        have Y6 := Y5.kept g6
        have G6 := gbTrans G5 g6
        clear p0 p1 q0 q1 P5 Q5 Y5 G5 g6
        have p0 := P6.at0
        have p1 := P6.at1
        have z0 := Y6.at0
        have z1 := Y6.at1
        have z2 := Y6.fr
        have z3 := Y6.fr1
        have Y7 := Y6.set c b'
        have Q7 : Box ((w6.setCell ⟨k2, 0, none⟩ (.int .i64 c)).setCell ⟨k2, 1, none⟩ (.int .i64 b')) (w5.heap.size + 1) q b' := Q6.keep (gbTrans (gbSetCell _ _ _ _) (gbSetCell _ _ _ _)) (by simp; omega)
        have G7 : w.grownBy ((w6.setCell ⟨k2, 0, none⟩ (.int .i64 c)).setCell ⟨k2, 1, none⟩ (.int .i64 b')) none := gbSetNew (gbSetNew G6 _ _ _ hkl) _ _ _ hkl
        have q0 := Q7.at0
        have q1 := Q7.at1
        go_wp2_with fail
        refine (HQ _).mono ?_
        rintro e w8 ⟨rfl, g8⟩
        have Y8 := Y7.kept g8
        have Q8 := Q7.kept g8
        have G8 := gbTrans G7 g8
        clear p0 p1 z0 z1 z2 z3 q0 q1 Y7 Q7 G7 g8 P6 Q6 Y6 G6
        have q0 := Q8.at0
        have q1 := Q8.at1
        have z0 := Y8.at0
        have z1 := Y8.at1
        have z2 := Y8.fr
        have z3 := Y8.fr1
        go_wp2
        go_roundg (gk - 1)
        case rel => first | exact ⟨i + 1, b', c, by omega, by go_num, by omega, H1, Y8, G8⟩ | exact ⟨i + 1, b', q, by omega, by go_num, by omega, H2, Y8.set q b', gbSetNew (gbSetNew G8 _ _ _ hkl) _ _ _ hkl⟩
        case measure => omega

theorem walk (A B x : Int) (w : World) :
    Calls Try.prog 3 #[sp A B, .int .i64 x] w fun e w' => e = .returned (.bool true) ∧ Below w.heap.size w w' := by
  refine endWalk ?_
  cases h : M.rgt A B
  · exact walk_no A B x w h
  · obtain ⟨c, b, m, rfl, rfl, hb, hm, _, m1, m2, m3, _⟩ := M.rgt_nat h
    obtain ⟨U, r, hU, hr, hrm⟩ := arg x m m1
    refine core c b (c + r) m U r x w hb (by omega) (rright_is _ _ true h) (shlU b m hb hm) hU hr hrm m2 (by omega) ?_
    rw [M.has_nat h hm]; simp; omega

set_option maxRecDepth 100000 in
theorem lifted (os : Os) (started : os.Started) (H : Type) (enc : TypeId × Value → H) :
    ReturnsInHanded {} Try.checked os 3 .any (Rows.spanSplitsSpec.pre6 enc Try.prog Try.f3 Rows.spanSplitsRow.domain false) (Rows.spanSplitsSpec.post enc Try.prog Try.f3 false true false false) := by
  refine returnsInHanded_of_change (C := Try.checked) own started (by kernel_rfl) Try.func3
    (ChangeSpec.witness6 (enc := enc) (C := Try.checked) false ⟨#[], #[.agg #[.int .i64 0, .int .i64 0], .int .i64 0], []⟩ 8 (by kernel_rfl) (by kernel_rfl) (by kernel_rfl) (by kernel_rfl)) ?_
  intro W base args ds gs before hval0 hW hcnd _
  have hval : ∀ (j : Nat) t v, Try.f3.params[j]? = some t → args[j]? = some v → Value.okWide Try.prog W .any base t v := hval0
  have hW' := hW
  obtain ⟨p, q, hA0, hV, rfl, hfz, hnd⟩ := hW
  have hA : DataW.TrodAll enc Try.prog W 0 (fun _ => true) true Try.f3.params.toList args.toList ds p := hA0
  rw [Try.params3] at hA hval
  obtain ⟨v0, vs0, d0, ds0, p0, q0, hargs, rfl, rfl, h0, r0⟩ := trodAll_cons hA
  obtain ⟨v1, vs1, d1, ds1, p1, q1, rfl, rfl, rfl, h1, r1⟩ := trodAll_cons r0
  obtain ⟨rfl, rfl, rfl⟩ := trodAll_nil r1
  obtain rfl : args = #[v0, v1] := by cases args; simp_all
  obtain ⟨rfl, rfl⟩ := trodVars_none hV
  obtain ⟨A0, B0, rfl⟩ := spanArg (hval 0 23 v0 rfl rfl) h0
  have k0 := h0
  have lt0 : ∀ x ∈ p0, x.block < W.heap.size := by obtain ⟨m, hm⟩ := k0; exact DataW.trod_lt m _ _ _ hm
  obtain ⟨a1, rfl, rfl, rfl, w1⟩ := open_int Try.underlying3 (hval 1 3 v1 rfl rfl) h1
  clear hA0 hval0
  refine (walk A0 B0 a1 W).mono fun e W' ⟨he, bel⟩ => ?_
  subst he
  exact ⟨_, rfl, _, _, _, [], _, [], hW', trodAll_mk1 (shut_bool Try.underlying4 _), (trodAll_cons_mk (Below.trod laidOut (by kernel_rfl) (of_decide_eq_true (by kernel_rfl)) k0 bel lt0) (trodAll_cons_mk (shut_int Try.underlying3 w1) trodAll_mk0)), rfl, bel.frame _, fun h => by cases h⟩

theorem over : Rows.spanSplitsRow.holds Try.pinned (OpenSpec.ofChange Rows.spanSplitsSpec) :=
  OpenClaim.holds_of_wide 3 Try.f3 rfl rfl rfl rfl rfl rfl rfl ⟨rfl, rfl, rfl, rfl, rfl⟩ rfl rfl rfl rfl rfl (by kernel_rfl) Try.func3 (by kernel_rfl)
    (of_decide_eq_true (by kernel_rfl)) (by unfold Func.isWrapper; first | (rw [if_pos (by decide +kernel)]; kernel_rfl) | (rw [if_neg (by decide +kernel)]; exact ⟨rfl, rfl⟩))
    (fun os started H enc _ => lifted os started H enc)

theorem proved : Rows.SpanSplitsSaid := over
end Go.Proofs.Ythjbihbaccnmcab.spanSplits
namespace Go.Proofs.Ythjbihbaccnmcab
theorem spanSplits_holds : Rows.SpanSplitsSaid := spanSplits.proved
#print axioms spanSplits_holds
end Go.Proofs.Ythjbihbaccnmcab
