/- GuardFinds: where any address leads, from any root, through any nodes: Resolve, Find and Cap answer as the document does, and nothing is changed. For every radixes, capabilities, root, address and depth; no condition. -/
import Derived.Test.YtakappaaiknpfaaMade
import Derived.Test.YtakappaaiknpfaaRfnd
import Derived.Test.YtakappaaiknpfaaWrk
import Derived.Deep.Cut
import Derived.Test.YtakappaaiknpfaaArgs
import Derived.ProofKit
import Derived.OpenShut
import Derived.ShutString
import Derived.ChangeOld
import Derived.Below
import Derived.Deep.Slices
namespace Go.Proofs.Ytakappaaiknpfaa.guardFinds
open Go.ChangeShapes Go.WideShapes Go.ChangeAt Go.RowKit
set_option linter.unusedVariables false

theorem own : ownKnob Try.prog.godebug = none := by kernel_rfl
theorem laidOut : laidOutB Try.prog = true := by kernel_rfl

theorem both_end {w0 w1 w w' : World} {P R : Nat → Prop} {p q n : Nat} {S T : St} (g : w0.grownBy w1 none) (h : Both w1 w P R p q n S T) (g2 : w.grownBy w' none) : Below w0.heap.size w0 w' := by
  have h1 := g.size
  have h2 := h.bel
  exact (gbEnd g).trans ((h2.mono h1).trans (gbBelow (Below.refl _ _) g2 (Nat.le_trans h1 h2.size) (by simp)))
theorem slotCap (w : World) (n i : Int) (c : C) : ∃ W, (w.alloc (.cells #[.int .i64 n, .int .i64 i] 32)).alloc (.cells #[.int .i64 c.k, .int .i64 c.o, .int .i64 c.r, .int .u64 c.b, .int .u64 c.g, .int .i64 c.n] 26) = W ∧ SBox W w.heap.size n i ∧ Box W (w.heap.size + 1) c ∧ w.grownBy W none := twoNew w n i c

set_option maxRecDepth 10000 in
set_option maxHeartbeats 4000000 in
theorem core (xo : Option Addr) (len cap : Nat) (yo : Option Addr) (len' cap' : Nat) (k o r b g n : Int) (p : Nat) (d : Int) (w : World) (io : Hid (I64 o)) (hp : Hid (p < 18446744073709551616)) (HX : Hid (∀ i, i < len → ∃ x z, xo = some x ∧ w.cell? (x.add i) = some (.int .i64 z))) (HY : Hid (∀ i, i < len' → ∃ x n s c, yo = some x ∧ El8 w (x.add (i * 8)) n s c ∧ Op8 n c)) :
    Calls Try.prog 3 #[.slice xo len cap, .slice yo len' cap', cv ⟨k, o, r, b, g, n⟩, .int .u64 p, .int .i64 d] w fun e w' => e = .returned (.bool true) ∧ Below w.heap.size w w' := by
  have qe := eqGuardSlots
  have qn := run_eql_slots
  have qc := eqGuardCap
  have qd := run_eql_cap
  go_enter Try.func3, Try.ntmps3
  go_upto_region 1 with fail
  obtain ⟨W0, hW0, X0, g0⟩ := boxNew w ⟨k, o, r, b, g, n⟩
  simp only at hW0
  rw [hW0]
  clear hW0
  have HG0 := hideIt g0
  have HX0 := hideIt X0
  have hlow : Hid (w.heap.size < W0.heap.size) := hideIt X0.lt
  have HX' : Hid (∀ i, i < len → ∃ x z, xo = some x ∧ W0.cell? (x.add i) = some (.int .i64 z)) := hideIt (fun i hi => by
    obtain ⟨x, z, e, h⟩ := HX.out i hi
    exact ⟨x, z, e, HG0.out.cell h (by simp)⟩)
  have HY' : Hid (∀ i, i < len' → ∃ x n s c, yo = some x ∧ El8 W0 (x.add (i * 8)) n s c ∧ Op8 n c) := hideIt (fun i hi => by
    obtain ⟨x, n, s, c, e, h, h2⟩ := HY.out i hi
    exact ⟨x, n, s, c, e, h.low (gbEnd HG0.out), h2⟩)
  clear X0 g0 HX HY
  go_wp2_with fail
  refine (made_is xo len cap yo len' cap' W0 HX' HY').mono ?_
  rintro _ w1 ⟨s, q, nn, P, R, S, rfl, B1⟩
  have HB1 := hideIt B1
  have HX1 : Hid (Box w1 w.heap.size ⟨k, o, r, b, g, n⟩) := hideIt (by
    have X := HX0.out
    have b1 := HB1.out.bel
    have l := hlow.out
    exact ⟨(b1.cell l).trans X.at0, (b1.cell l).trans X.at1, (b1.cell l).trans X.at2, (b1.cell l).trans X.at3, (b1.cell l).trans X.at4, (b1.cell l).trans X.at5, Nat.lt_of_lt_of_le X.lt b1.size, fun i => (b1.frozen (p := ⟨w.heap.size, i, none⟩) l).trans (X.fr i)⟩)
  clear B1 HX' HY' HX0
  obtain ⟨X, hX⟩ : ∃ X, X = w.heap.size := ⟨_, rfl⟩
  rw [← hX] at HX1 ⊢
  clear hX hlow
  obtain ⟨⟨N, A, l, E⟩, hrs⟩ : ∃ x, M.rs S ⟨k, o, r, b, g, n⟩ p d = x := ⟨_, rfl⟩
  obtain ⟨⟨N2, A2, E2⟩, hfd⟩ : ∃ x, M.fd S ⟨k, o, r, b, g, n⟩ p d = x := ⟨_, rfl⟩
  obtain ⟨⟨N3, A3, ⟨k3, o3, r3, b3, g3', n3⟩, E3⟩, hcp⟩ : ∃ x, M.cp S ⟨k, o, r, b, g, n⟩ p = x := ⟨_, rfl⟩
  have HRS := hideIt hrs
  have HFD := hideIt hfd
  have HCP := hideIt hcp
  clear hrs hfd hcp
  obtain ⟨x0, x1, x2, x3, x4, x5, _, _⟩ := HX1.out
  simp only at x0 x1 x2 x3 x4 x5
  have HP := hideIt (resolve_is HB1.out.sp HB1.out.gs p k o r b g n d N A l E io.out hp.out HRS.out)
  go_wp2_with fail
  refine HP.out.mono ?_
  rintro _ v1 ⟨rfl, f1⟩
  clear HP x0 x1 x2 x3 x4 x5
  go_upto_region 5 with fail
  obtain ⟨U1, hU, Y1, e1⟩ := sboxNew v1 N A
  rw [hU]
  clear hU
  have K := gbTrans f1 e1
  have HB2 := hideIt (HB1.out.kept K)
  have HX2 := hideIt (HX1.out.kept K)
  have HY1_2 := hideIt Y1
  clear Y1 K f1 e1 HB1 HX1
  obtain ⟨x0, x1, x2, x3, x4, x5, _, _⟩ := HX2.out
  simp only at x0 x1 x2 x3 x4 x5
  have HP := hideIt (rresolve_is HB2.out.rp HB2.out.gt p k o r b g n d N A l E io.out hp.out HRS.out)
  go_wp2_with fail
  refine HP.out.mono ?_
  rintro _ v2 ⟨rfl, f2⟩
  clear HP x0 x1 x2 x3 x4 x5
  go_upto_region 6 with fail
  obtain ⟨U2, hU, Y2, e2⟩ := sboxNew v2 N A
  rw [hU]
  clear hU
  have K := gbTrans f2 e2
  have HB3 := hideIt (HB2.out.kept K)
  have HX3 := hideIt (HX2.out.kept K)
  have HY1_3 := hideIt (HY1_2.out.kept K)
  clear HY1_2
  have HY2_3 := hideIt Y2
  clear Y2 K f2 e2 HB2 HX2
  obtain ⟨x0, x1, x2, x3, x4, x5, _, _⟩ := HX3.out
  simp only at x0 x1 x2 x3 x4 x5
  have HP := hideIt (find_is HB3.out.sp HB3.out.gs p k o r b g n d N2 A2 E2 io.out hp.out HFD.out)
  go_wp2_with fail
  refine HP.out.mono ?_
  rintro _ v3 ⟨rfl, f3⟩
  clear HP x0 x1 x2 x3 x4 x5
  go_upto_region 7 with fail
  obtain ⟨U3, hU, Y3, e3⟩ := sboxNew v3 N2 A2
  rw [hU]
  clear hU
  have K := gbTrans f3 e3
  have HB4 := hideIt (HB3.out.kept K)
  have HX4 := hideIt (HX3.out.kept K)
  have HY1_4 := hideIt (HY1_3.out.kept K)
  clear HY1_3
  have HY2_4 := hideIt (HY2_3.out.kept K)
  clear HY2_3
  have HY3_4 := hideIt Y3
  clear Y3 K f3 e3 HB3 HX3
  obtain ⟨x0, x1, x2, x3, x4, x5, _, _⟩ := HX4.out
  simp only at x0 x1 x2 x3 x4 x5
  have HP := hideIt (rfind_is HB4.out.rp HB4.out.gt p k o r b g n d N2 A2 E2 io.out hp.out HFD.out)
  go_wp2_with fail
  refine HP.out.mono ?_
  rintro _ v4 ⟨rfl, f4⟩
  clear HP x0 x1 x2 x3 x4 x5
  go_upto_region 8 with fail
  obtain ⟨U4, hU, Y4, e4⟩ := sboxNew v4 N2 A2
  rw [hU]
  clear hU
  have K := gbTrans f4 e4
  have HB5 := hideIt (HB4.out.kept K)
  have HX5 := hideIt (HX4.out.kept K)
  have HY1_5 := hideIt (HY1_4.out.kept K)
  clear HY1_4
  have HY2_5 := hideIt (HY2_4.out.kept K)
  clear HY2_4
  have HY3_5 := hideIt (HY3_4.out.kept K)
  clear HY3_4
  have HY4_5 := hideIt Y4
  clear Y4 K f4 e4 HB4 HX4
  obtain ⟨x0, x1, x2, x3, x4, x5, _, _⟩ := HX5.out
  simp only at x0 x1 x2 x3 x4 x5
  have HP := hideIt (capAt_is HB5.out.sp HB5.out.gs p k o r b g n N3 A3 E3 ⟨k3, o3, r3, b3, g3', n3⟩ io.out hp.out HCP.out)
  go_wp2_with fail
  refine HP.out.mono ?_
  rintro _ v5 ⟨rfl, f5⟩
  clear HP x0 x1 x2 x3 x4 x5
  go_upto_region 9 with fail
  obtain ⟨U5, hU, Y5, Z5, e5⟩ := slotCap v5 N3 A3 ⟨k3, o3, r3, b3, g3', n3⟩
  simp only at hU
  rw [hU]
  clear hU
  have K := gbTrans f5 e5
  have HB6 := hideIt (HB5.out.kept K)
  have HX6 := hideIt (HX5.out.kept K)
  have HY1_6 := hideIt (HY1_5.out.kept K)
  clear HY1_5
  have HY2_6 := hideIt (HY2_5.out.kept K)
  clear HY2_5
  have HY3_6 := hideIt (HY3_5.out.kept K)
  clear HY3_5
  have HY4_6 := hideIt (HY4_5.out.kept K)
  clear HY4_5
  have HY5_6 := hideIt Y5
  clear Y5 K f5 e5 HB5 HX5
  have HZ5_6 := hideIt Z5
  clear Z5
  obtain ⟨x0, x1, x2, x3, x4, x5, _, _⟩ := HX6.out
  simp only at x0 x1 x2 x3 x4 x5
  have HP := hideIt (rcapAt_is HB6.out.rp HB6.out.gt p k o r b g n N3 A3 E3 ⟨k3, o3, r3, b3, g3', n3⟩ io.out hp.out HCP.out)
  go_wp2_with fail
  refine HP.out.mono ?_
  rintro _ v6 ⟨rfl, f6⟩
  clear HP x0 x1 x2 x3 x4 x5
  go_upto_region 10 with fail
  obtain ⟨U6, hU, Y6, Z6, e6⟩ := slotCap v6 N3 A3 ⟨k3, o3, r3, b3, g3', n3⟩
  simp only at hU
  rw [hU]
  clear hU
  have K := gbTrans f6 e6
  have HB7 := hideIt (HB6.out.kept K)
  have HX7 := hideIt (HX6.out.kept K)
  have HY1_7 := hideIt (HY1_6.out.kept K)
  clear HY1_6
  have HY2_7 := hideIt (HY2_6.out.kept K)
  clear HY2_6
  have HY3_7 := hideIt (HY3_6.out.kept K)
  clear HY3_6
  have HY4_7 := hideIt (HY4_6.out.kept K)
  clear HY4_6
  have HY5_7 := hideIt (HY5_6.out.kept K)
  clear HY5_6
  have HZ5_7 := hideIt (HZ5_6.out.kept K)
  clear HZ5_6
  have HY6_7 := hideIt Y6
  clear Y6 K f6 e6 HB6 HX6
  have HZ6_7 := hideIt Z6
  clear Z6
  obtain ⟨y10, y11, _⟩ := HY1_7.out
  obtain ⟨y20, y21, _⟩ := HY2_7.out
  obtain ⟨y30, y31, _⟩ := HY3_7.out
  obtain ⟨y40, y41, _⟩ := HY4_7.out
  obtain ⟨y50, y51, _⟩ := HY5_7.out
  obtain ⟨z50, z51, z52, z53, z54, z55, _, _⟩ := HZ5_7.out
  simp only at z50 z51 z52 z53 z54 z55
  obtain ⟨y60, y61, _⟩ := HY6_7.out
  obtain ⟨z60, z61, z62, z63, z64, z65, _, _⟩ := HZ6_7.out
  simp only at z60 z61 z62 z63 z64 z65
  have s1 := M.seq_refl N A
  have s2 := M.seq_refl N2 A2
  have s3 := M.seq_refl N3 A3
  have s4 := M.eq_refl ⟨k3, o3, r3, b3, g3', n3⟩
  go_wp2_with fail
  refine (full_is HB7.out.sp).mono ?_
  rintro _ u1 ⟨v1, rfl, L1, h1⟩
  have HL1 := hideIt L1
  clear L1
  go_wp2_with fail
  refine (rfull_is (HB7.out.kept h1).rp HB7.out.gt).mono ?_
  rintro _ u2 ⟨v2, rfl, L2, h2⟩
  have HL2 := hideIt L2
  clear L2
  go_wp2_with fail
  refine (same_is (HL1.out.kept h2) HL2.out (M.fullTo_len S 64)).mono ?_
  rintro _ u3 ⟨rfl, h3⟩
  go_wp2
  go_ret
  exact ⟨rfl, both_end HG0.out HB7.out (gbTrans h1 (gbTrans h2 h3))⟩

theorem walk (xo : Option Addr) (len cap : Nat) (yo : Option Addr) (len' cap' : Nat) (k o r b g n : Int) (io : I64 o) (a3 : Int) (w3 : (Lit.int .u64 a3).wf = true) (d : Int) (w : World) (hx : ∀ i, i < len → ∃ x z, xo = some x ∧ w.cell? (x.add i) = some (.int .i64 z)) (hy : ∀ i, i < len' → ∃ x n s c, yo = some x ∧ El8 w (x.add (i * 8)) n s c ∧ Op8 n c) :
    Calls Try.prog 3 #[.slice xo len cap, .slice yo len' cap', cv ⟨k, o, r, b, g, n⟩, .int .u64 a3, .int .i64 d] w fun e w' => e = .returned (.bool true) ∧ Below w.heap.size w w' := by
  obtain ⟨h0, h1⟩ := u64_wf w3
  obtain ⟨p, rfl⟩ : ∃ p : Nat, a3 = (p : Int) := ⟨a3.toNat, by omega⟩
  exact core xo len cap yo len' cap' k o r b g n p d w io (hideIt (by omega)) hx hy

set_option maxRecDepth 100000 in
theorem lifted (os : Os) (started : os.Started) (H : Type) (enc : TypeId × Value → H) :
    ReturnsInHanded {} Try.checked os 3 .any (Rows.guardFindsSpec.pre6 enc Try.prog Try.f3 Rows.guardFindsRow.domain false) (Rows.guardFindsSpec.post enc Try.prog Try.f3 false true false false) := by
  refine returnsInHanded_of_change (C := Try.checked) own started (by kernel_rfl) Try.func3
    (ChangeSpec.witness6 (enc := enc) (C := Try.checked) false ⟨#[], #[.slice none 0 0, .slice none 0 0, .agg #[.int .i64 0, .int .i64 0, .int .i64 0, .int .u64 0, .int .u64 0, .int .i64 0], .int .u64 0, .int .i64 0], []⟩ 8 (by kernel_rfl) (by kernel_rfl) (by kernel_rfl) (by kernel_rfl)) ?_
  intro W base args ds gs before hval0 hW hcnd _
  have hval : ∀ (j : Nat) t v, Try.f3.params[j]? = some t → args[j]? = some v → Value.okWide Try.prog W .any base t v := hval0
  have hW' := hW
  obtain ⟨p, q, hA0, hV, rfl, hfz, hnd⟩ := hW
  have hA : DataW.TrodAll enc Try.prog W 0 (fun _ => true) true Try.f3.params.toList args.toList ds p := hA0
  rw [Try.params3] at hA hval
  obtain ⟨v0, vs0, d0, ds0, p0, q0, hargs, rfl, rfl, h0, r0⟩ := trodAll_cons hA
  obtain ⟨v1, vs1, d1, ds1, p1, q1, rfl, rfl, rfl, h1, r1⟩ := trodAll_cons r0
  obtain ⟨v2, vs2, d2, ds2, p2, q2, rfl, rfl, rfl, h2, r2⟩ := trodAll_cons r1
  obtain ⟨v3, vs3, d3, ds3, p3, q3, rfl, rfl, rfl, h3, r3⟩ := trodAll_cons r2
  obtain ⟨v4, vs4, d4, ds4, p4, q4, rfl, rfl, rfl, h4, r4⟩ := trodAll_cons r3
  obtain ⟨rfl, rfl, rfl⟩ := trodAll_nil r4
  obtain rfl : args = #[v0, v1, v2, v3, v4] := by cases args; simp_all
  obtain ⟨rfl, rfl⟩ := trodVars_none hV
  obtain ⟨x0, len0, cap0, rfl⟩ := okWide_slice Try.underlying22 (hval 0 22 v0 rfl rfl)
  have hx0 := intsArg h0
  have k0 := h0
  have lt0 : ∀ x ∈ p0, x.block < W.heap.size := by obtain ⟨m, hm⟩ := k0; exact DataW.trod_lt m _ _ _ hm
  obtain ⟨x1, len1, cap1, rfl⟩ := okWide_slice Try.underlying23 (hval 1 23 v1 rfl rfl)
  have hx1 := putsArg h1
  have k1 := h1
  have lt1 : ∀ x ∈ p1, x.block < W.heap.size := by obtain ⟨m, hm⟩ := k1; exact DataW.trod_lt m _ _ _ hm
  obtain ⟨K2, O2, R2, B2, G2, N2, rfl, io2⟩ := capArg (hval 2 26 v2 rfl rfl) h2
  have k2 := h2
  have lt2 : ∀ x ∈ p2, x.block < W.heap.size := by obtain ⟨m, hm⟩ := k2; exact DataW.trod_lt m _ _ _ hm
  obtain ⟨a3, rfl, rfl, rfl, w3⟩ := open_int Try.underlying24 (hval 3 24 v3 rfl rfl) h3
  obtain ⟨a4, rfl, rfl, rfl, w4⟩ := open_int Try.underlying3 (hval 4 3 v4 rfl rfl) h4
  clear hA0 hval0
  refine (walk x0 len0 cap0 x1 len1 cap1 K2 O2 R2 B2 G2 N2 io2 a3 w3 a4 W hx0 hx1).mono fun e W' ⟨he, bel⟩ => ?_
  subst he
  exact ⟨_, rfl, _, _, _, [], _, [], hW', trodAll_mk1 (shut_bool Try.underlying4 _), (trodAll_cons_mk (Below.trod laidOut (by kernel_rfl) (of_decide_eq_true (by kernel_rfl)) k0 bel lt0) (trodAll_cons_mk (Below.trod laidOut (by kernel_rfl) (of_decide_eq_true (by kernel_rfl)) k1 bel lt1) (trodAll_cons_mk (Below.trod laidOut (by kernel_rfl) (of_decide_eq_true (by kernel_rfl)) k2 bel lt2) (trodAll_cons_mk (shut_int Try.underlying24 w3) (trodAll_cons_mk (shut_int Try.underlying3 w4) trodAll_mk0))))), rfl, bel.frame _, fun h => by cases h⟩

theorem over : Rows.guardFindsRow.holds Try.pinned (OpenSpec.ofChange Rows.guardFindsSpec) :=
  OpenClaim.holds_of_wide 3 Try.f3 rfl rfl rfl rfl rfl rfl rfl ⟨rfl, rfl, rfl, rfl, rfl⟩ rfl rfl rfl rfl rfl (by kernel_rfl) Try.func3 (by kernel_rfl)
    (of_decide_eq_true (by kernel_rfl)) (by unfold Func.isWrapper; first | (rw [if_pos (by decide +kernel)]; kernel_rfl) | (rw [if_neg (by decide +kernel)]; exact ⟨rfl, rfl⟩))
    (fun os started H enc _ => lifted os started H enc)

theorem proved : Rows.GuardFindsSaid := over
end Go.Proofs.Ytakappaaiknpfaa.guardFinds
namespace Go.Proofs.Ytakappaaiknpfaa
theorem guardFinds_holds : Rows.GuardFindsSaid := guardFinds.proved
#print axioms guardFinds_holds
end Go.Proofs.Ytakappaaiknpfaa
