/- LineLevels: for every list of acts and every number, and every fate of the machine, the call ends and answers true: the levels' bits are just those of which there is one; one that leaves and comes again stands last of its level. No condition beyond the statement's own. -/
import Derived.Test.YtlekmpidhgjpdaaArgs
import Derived.Test.YtlekmpidhgjpdaaLvl
import Derived.Deep.Cut
import Derived.Deep.DeepCutAuto
import Derived.Deep.CutBlock
import Derived.Deep.RegionHeld3
import Derived.Test.YtlekmpidhgjpdaaArgs
import Derived.ProofKit
import Derived.OpenShut
import Derived.ShutString
import Derived.ChangeOld
import Derived.Below
import Derived.Deep.Slices
namespace Go.Proofs.Ytlekmpidhgjpdaa.lineLevels
open Go.ChangeShapes Go.WideShapes Go.ChangeAt Go.RowKit
set_option linter.unusedVariables false

theorem own : ownKnob Try.prog.godebug = none := by kernel_rfl
theorem laidOut : laidOutB Try.prog = true := by kernel_rfl

abbrev LQ (v : Value) (I : List Q) : World → (Nat → Prop) → Prop := LB eQ 30 3 v I
/-- A Ready, and the list of acts that put them there. -/
structure Vs (w0 w : World) (P R : Nat → Prop) (p : Nat) (I : List Q) (x : Option Addr) (m d : Nat) : Prop where
  t : Tw (fun w O => RA w O p (M.of I)) (LQ (.slice x m d) I) w0 w P R
  gd : M.Gd (M.of I)
  len : I.length = m
  ok : ∀ q ∈ I, 0 ≤ q.i ∧ q.i < 64
theorem oput {w0 w w' : World} {P R : Nat → Prop} {p : Nat} {D D' : List (Int × Int)} {I : List Q} {v : Value} (h : Tw (fun w O => RA w O p D) (LQ v I) w0 w P R) (T : RA w' (wide P w w') p D') (k : Fr P w w') : Tw (fun w O => RA w O p D') (LQ v I) w0 w' (wide P w w') R :=
  Tw.prog (A' := fun w O => RA w O p D') (kLB eQ 30 3 v I) h T k
theorem okp {w0 w w' : World} {P R : Nat → Prop} {p : Nat} {D : List (Int × Int)} {I : List Q} {v : Value} (h : Tw (fun w O => RA w O p D) (LQ v I) w0 w P R) (g : w.grownBy w' none) : Tw (fun w O => RA w O p D) (LQ v I) w0 w' P R := Tw.kept (kRA p D) (kLB eQ 30 3 v I) h g
theorem onPut {w0 w w' : World} {P : Nat → Prop} {p : Nat} {D D' : List (Int × Int)} (h : On (fun w O => RA w O p D) w0 w P) (T : RA w' (wide P w w') p D') (k : Fr P w w') : On (fun w O => RA w O p D') w0 w' (wide P w w') := On.turn (A' := fun w O => RA w O p D') h T k
abbrev Tc (w : World) (x : Addr) (r : Q) : Prop := w.cell? ⟨x.block, x.off + 1, none⟩ = some (.int .i64 r.i) ∧ w.cell? ⟨x.block, x.off + 2, none⟩ = some (.int .i64 r.l)
theorem tcOf {w : World} {x : Addr} {r : Q} (h : El3 w x r) : Tc w x r := ⟨h.at1, h.at2⟩

set_option maxHeartbeats 8000000 in
set_option maxRecDepth 100000 in
theorem core (x0 : Option Addr) (len0 cap0 : Nat) (a1 : Int) (w : World) (hx0 : Acts3 w x0 len0) :
    Calls Try.prog 7 #[.slice x0 len0 cap0, .int .i64 a1] w fun e w' => e = .returned (.bool true) ∧ w.grownBy w' none := by
  have HX := hideIt hx0
  clear hx0
  go_enter Try.func7, Try.ntmps7
  go_wp2_with fail
  refine (works_is w).mono ?_
  rintro e wa ⟨rfl, ga⟩
  go_wp2_with fail
  refine (newReady_is wa).mono ?_
  rintro e wb ⟨rfl, A1, s1, g1⟩
  have H2 : Hid (Vs w wb (fun i => i = wa.heap.size) (fun _ => False) wa.heap.size [] none 0 0) := hideIt ⟨Tw.begin ⟨A1, fun i hi => by subst hi; exact ⟨ga.size, by omega⟩, gbTrans ga g1⟩, M.Gd.nil, rfl, fun q hq => by cases hq⟩
  obtain ⟨p, hp⟩ : ∃ p, wa.heap.size = p := ⟨_, rfl⟩
  rw [hp] at H2
  rw [hp]
  clear hp A1 s1 g1 ga
  go_wp2_with fail
  go_loopg [6, 7] 60 (fun gk v i wr => ∃ (j : Nat) (P R : Nat → Prop) (I : List Q) (x : Option Addr) (m d : Nat), j + gk = 60 ∧ m ≤ j ∧ i = .int .i64 j ∧ v = .slice x m d ∧ Hid (Vs w wr P R p I x m d))
  case atStart => exact ⟨0, _, _, [], none, 0, 0, rfl, by omega, rfl, rfl, H2⟩
  case round =>
    obtain ⟨j, P, R, I, x, m, d, hj, hm, rfl, rfl, H⟩ := hrel
    clear H2
    have hmL := hideIt H.out.len
    have hmD : Hid ((M.of I).length = m) := hideIt (by rw [M.of_len, hmL.out])
    by_cases hlt : j < len0 ∧ j < 60
    · obtain ⟨c1, c2⟩ := hlt
      obtain ⟨xa, r, rfl, hE⟩ := HX.out j c1
      have hdj : decide ((j : Int) < 60) = true := by simp; omega
      replace hE := hideIt hE
      have Hd := hideIt (okp H.out.t (gbDrew (gbRefl wr none)))
      have T0 := tcOf (hE.out.kept H.out.t.gr)
      have T1 := tcOf (hE.out.kept Hd.out.gr)
      obtain ⟨f, hf⟩ : ∃ f, M.re (M.of I) r.i r.l = f := ⟨_, rfl⟩
      replace hf := hideIt hf
      go_upto_region 8 with fail
      go_region_held3 (fun w' => Tc w' (xa.add (j * 3)) r)
        (first | with_reducible exact T0 | with_reducible exact T1 | with_reducible exact T6 | fail)
        ((first
          | (go_at_call 18; refine (put_is Hd.out.a H.out.gd (by rw [hmD.out]; omega) r.i r.l f hf.out).mono ?_; rintro e w6 ⟨rfl, Z6, F6⟩; have H6 := hideIt (oput Hd.out Z6 F6); have T6 := tcOf (hE.out.kept H6.out.gr); clear Z6 F6)))
      rename_i hold
      clear hold T0 T1 T6
      by_cases k0 : (f == 0) = true
      · have hrl := hideIt (M.rl_ok (D := M.of I) (a := r.i) (l := r.l) (by rw [hf.out]; simpa using k0))
        have hgd := hideIt (H.out.gd.put r.i r.l)
        rw [hrl.out.1] at H6 hgd
        rw [← M.of_app] at H6 hgd
        obtain ⟨r0, r1, r2⟩ := hE.out.kept H6.out.gr
        obtain ⟨x', cap', w7, hr, H7, _⟩ := Tw.app (kRA p (M.of (I ++ [r]))) H6.out hmL.out run_append_q (gbAlloc w6 (.cells #[.int .i64 r.k, .int .i64 r.i, .int .i64 r.l] 30) none) ⟨w6.heap.size, 0, none⟩ 1 r (rowQ w6 r) (by omega)
        have H8 : Hid (Vs w w7 _ _ p (I ++ [r]) x' (m + 1) cap') := hideIt ⟨H7.out, hgd.out, by rw [List.length_append, hmL.out]; rfl, fun q hq => by
          rw [List.mem_append] at hq
          rcases hq with hq | hq
          · exact H.out.ok q hq
          · simp at hq; subst hq; exact hrl.out.2⟩
        clear H H6 H7 Hd hgd hf hrl
        go_wp2_with (at_builtin; refine wpList_append_run rfl (.tmp 38) (.tmp 43) rfl (.slice x m d) (.slice (some ⟨w6.heap.size, 0, none⟩) 1 1) rfl rfl (.slice x' (m + 1) cap') w7 hr ?_)
        clear hr r0 r1 r2
        go_roundg (gk - 1)
        case rel => exact ⟨j + 1, _, _, _, x', m + 1, cap', by omega, by omega, by go_num, rfl, H8⟩
        case measure => omega
      · have k0 : (f == 0) = false := by simpa using k0
        have hrl := M.rl_no (D := M.of I) (a := r.i) (l := r.l) (by rw [hf.out]; simpa using k0)
        rw [hrl] at H6
        have H8 : Hid (Vs w w6 _ R p I x m d) := hideIt ⟨H6.out, H.out.gd, H.out.len, H.out.ok⟩
        clear H H6 Hd hrl hf
        go_wp2
        go_roundg (gk - 1)
        case rel => exact ⟨j + 1, _, _, I, x, m, d, by omega, by omega, by go_num, rfl, H8⟩
        case measure => omega
    · have hm60 : m ≤ 60 := by omega
      go_upto_region 6 with fail
      go_cut [22] from 15 to 22 (fun s wc => s = .bool false ∧ wc = wr)
      case first =>
        by_cases k1 : (j : Int) < (len0 : Int)
        · have k2 : ¬ (j : Int) < 60 := by omega
          go_wp2
          go_meet
          exact ⟨rfl, rfl⟩
        · go_wp2
          go_meet
          exact ⟨rfl, rfl⟩
      case rest =>
      obtain ⟨rfl, rfl⟩ := hcut
      clear hlt hj hm HX
      obtain ⟨u, hu⟩ : ∃ u, M.lw (M.of I) = u := ⟨_, rfl⟩
      have hub : u < 256 := by rw [← hu]; exact M.lw_lt _
      replace hu := hideIt hu
      go_wp2_with fail
      refine (levels_is H.out.t.a (by rw [hmD.out]; omega) u hu.out).mono ?_
      rintro e w3 ⟨rfl, g3⟩
      have H3 : Hid (Vs w w3 P R p I x m d) := hideIt ⟨okp H.out.t g3, H.out.gd, H.out.len, H.out.ok⟩
      clear H g3
      go_wp2_with fail
      go_loopg [9] 9 (fun gk i wr => ∃ (c : Nat), c + gk = 9 ∧ c ≤ 8 ∧ i = .int .i64 c ∧ w3.grownBy wr none)
      case atStart => exact ⟨0, by omega, by omega, rfl, gbRefl _ _⟩
      case round =>
        obtain ⟨c, hc, hc8, rfl, gw⟩ := hrel
        by_cases hcl : c < 8
        · have hcl' : (c : Int) < 8 := by omega
          have Hd := hideIt (okp H3.out.t (gbTrans gw (gbDrew (gbRefl wr none))))
          obtain ⟨t, ht⟩ : ∃ t : Nat, (u : Int) / 2 ^ c = (t : Int) := ⟨u / 2 ^ c, by norm_cast⟩
          have hbit : Hid (decide (0 < (M.lv (M.of I) (c : Int)).length) = (t % 2 == 1)) := hideIt (by
            rw [M.lw_bit _ c hcl, hu.out]
            have : t = u / 2 ^ c := by
              have e : ((u / 2 ^ c : Nat) : Int) = (t : Int) := by rw [← ht]; norm_cast
              omega
            rw [this])
          have ht256 : t < 256 := by
            have e : ((u / 2 ^ c : Nat) : Int) = (t : Int) := by rw [← ht]; norm_cast
            have := Nat.div_le_self u (2 ^ c)
            omega
          obtain ⟨z, hz1, hz2⟩ : ∃ z, decide (0 < (M.lv (M.of I) (c : Int)).length) = z ∧ ((t : Int).tmod 2 == 1) = z := ⟨_, rfl, by
            rw [hbit.out, Int.tmod_eq_emod_of_nonneg (by omega), Bool.eq_iff_iff, beq_iff_eq, beq_iff_eq]
            omega⟩
          clear hbit
          cases z
          all_goals
            go_upto_region 14 with fail
            go_region_held3 (fun w' => True)
              (first | with_reducible exact True.intro | fail)
              ((first
                | (go_at_call 26; refine (listOf_is Hd.out.a H3.out.gd (by rw [hmD.out]; omega) c).mono ?_; rintro e w6 ⟨v6, rfl, l6, g6⟩; obtain ⟨x6, d6, e6, _⟩ := l6.arr; subst e6; clear l6)))
            rename_i hold
            clear hold hz1 hz2 ht
            go_wp2
            go_roundg (gk - 1)
            case rel => exact ⟨c + 1, by omega, by omega, by go_num, gbTrans gw (gbTrans (gbDrew (gbRefl wr none)) g6)⟩
            case measure => omega
        · have hcl' : ¬ (c : Int) < 8 := by omega
          have H4 : Hid (Vs w wr P R p I x m d) := hideIt ⟨okp H3.out.t gw, H3.out.gd, H3.out.len, H3.out.ok⟩
          clear H3 gw hc hc8
          by_cases h0 : m = 0
          · subst h0
            obtain rfl : I = [] := List.eq_nil_of_length_eq_zero hmL.out
            obtain rfl : u = 0 := by rw [← hu.out]; decide
            go_wp2
            go_ret
            exact ⟨rfl, H4.out.t.gr⟩
          · have h0' : ((m : Int) == 0) = false := by simp; omega
            obtain ⟨g, cap, ex, hcap, _, hglt, hcap2⟩ := H4.out.t.b.1.has H4.out.len (by omega)
            cases ex
            obtain ⟨U, y, hU, hy, hyb⟩ := modArg a1 m (by omega)
            have hmw : IntKind.u64.wrap (m : Int) = (m : Int) := by rw [IntKind.wrap_u64]; omega
            have hm0 : ¬ (m : Int) = 0 := by omega
            have hym : (y : Int) < (m : Int) := by omega
            obtain ⟨o, ho⟩ : ∃ o, I[y]? = some o := ⟨_, List.getElem?_eq_getElem (by rw [hmL.out]; exact hyb)⟩
            obtain ⟨e0, e1, e2⟩ := QL.at H4.out.t.b.1 hmL.out y o ho
            have hmem := hideIt (M.of_mem ho)
            have hok := H4.out.ok o (List.mem_of_getElem? ho)
            have HG := hideIt (M.again H4.out.gd hmem.out hok)
            clear ho hmem hok
            go_upto_region 19 with fail
            obtain ⟨W, hW, Y, gY⟩ := qboxNew wr o
            rw [hW]
            clear hW e0 e1 e2
            have H5 := hideIt (On.kept (kRA p (M.of I)) H4.out.t.one gY)
            have hyP : ¬ P wr.heap.size := fun e => by have := (H4.out.t.lo _ e).2; omega
            have hgd := hideIt H4.out.gd
            obtain ⟨yb, hyb2⟩ : ∃ yb, wr.heap.size = yb := ⟨_, rfl⟩
            rw [hyb2] at Y hyP
            rw [hyb2]
            clear hyb2 gY H4
            obtain ⟨z0, z1, z2, zl⟩ := id Y
            go_wp2_with fail
            refine (drop_is H5.out.a hgd.out (by rw [hmD.out]; omega) o.i true HG.out.1).mono ?_
            rintro e w5 ⟨rfl, Z, F⟩
            have H6 := hideIt (onPut H5.out Z F)
            have Y6 := Y.fr F hyP
            have hyP6 := wideNo (w' := w5) hyP Y.lt
            clear Z F z0 z1 z2 zl Y hyP H5
            obtain ⟨z0, z1, z2, zl⟩ := id Y6
            go_wp2_with fail
            refine (put_is H6.out.a (hgd.out.drop o.i) (by have := M.rd_len (M.of I) o.i; rw [hmD.out] at this; omega) o.i o.l 0 HG.out.2.1).mono ?_
            rintro e w7 ⟨rfl, Z, F⟩
            have H8 := hideIt (onPut H6.out Z F)
            have Y8 := Y6.fr F hyP6
            have hgd8 := hideIt ((hgd.out.drop o.i).put o.i o.l)
            rw [HG.out.2.2.1] at H8 hgd8
            have hl8 : (M.rd (M.of I) o.i ++ [(o.i, o.l)]).length ≤ 999 := by
              have := M.rd_len (M.of I) o.i
              rw [hmD.out] at this
              rw [List.length_append]
              simp
              omega
            replace hl8 := hideIt hl8
            clear Z F z0 z1 z2 zl Y6 hyP6 H6 hgd
            obtain ⟨z0, z1, z2, zl⟩ := id Y8
            go_wp2_with fail
            refine (listOf_is H8.out.a hgd8.out (by have := hl8.out; omega) o.l).mono ?_
            rintro e w9 ⟨v9, rfl, l9, g9⟩
            rw [HG.out.2.2.2.2] at l9
            obtain ⟨k, hk⟩ : ∃ k, (M.wo (M.lv (M.of I) o.l) o.i).length = k := ⟨_, rfl⟩
            have hk60 : k ≤ 60 := by
              have h1 := M.wo_len (M.lv (M.of I) o.l) o.i
              have h2 := M.lv_len (M.of I) o.l
              rw [hmD.out] at h2
              omega
            obtain ⟨n, hn⟩ : ∃ n : Nat, Hid (n = k + 1) := ⟨_, hideIt rfl⟩
            have hll : (M.wo (M.lv (M.of I) o.l) o.i ++ [o.i]).length = n := by rw [List.length_append, hk, hn.out]; rfl
            obtain ⟨gl, cl, rfl, _⟩ := l9.has hll (by rw [hn.out]; omega)
            have cl9 := IL.at l9 hll k o.i (by rw [← hk]; simp)
            have H9 := hideIt (On.kept (kRA p _) H8.out g9)
            have Y9 := Y8.kept g9
            have hlw := hideIt HG.out.2.2.2.1
            rw [hu.out] at hlw
            have hn0 : decide (0 < n) = true := by simp; rw [hn.out]; omega
            have hn1 : IntKind.i64.wrap ((n : Int) - 1) = (k : Int) := wI (by rw [hn.out]; omega) (by omega)
            have hkn : (k : Int) < (n : Int) := by rw [hn.out]; omega
            have hk0 : (0 : Int) ≤ (k : Int) := by omega
            clear z0 z1 z2 zl Y8 H8 g9 l9 hll hk HG
            have T0 : w9.cell? ⟨gl, k, none⟩ = some (.int .i64 o.i) ∧ w9.cell? ⟨yb, 1, none⟩ = some (.int .i64 o.i) := ⟨cl9, Y9.at1⟩
            have gd := gbDrew (gbRefl w9 none)
            have T1 : w9.drew.cell? ⟨gl, k, none⟩ = some (.int .i64 o.i) ∧ w9.drew.cell? ⟨yb, 1, none⟩ = some (.int .i64 o.i) := ⟨gd.cell cl9 (by simp), gd.cell Y9.at1 (by simp)⟩
            have Hd := hideIt (On.kept (kRA p _) H9.out gd)
            go_upto_region 22 with fail
            go_region_held3 (fun w' => w'.cell? ⟨gl, k, none⟩ = some (.int .i64 o.i) ∧ w'.cell? ⟨yb, 1, none⟩ = some (.int .i64 o.i))
              (first | with_reducible exact T0 | with_reducible exact T1 | with_reducible exact T2 | fail)
              ((first
                | (go_at_call 24; refine (levels_is Hd.out.a (by have := hl8.out; omega) u hlw.out).mono ?_; rintro e w10 ⟨rfl, g10⟩; have T2 : w10.cell? ⟨gl, k, none⟩ = some (.int .i64 o.i) ∧ w10.cell? ⟨yb, 1, none⟩ = some (.int .i64 o.i) := ⟨g10.cell T1.1 (by simp), g10.cell T1.2 (by simp)⟩)))
            have G10 := hideIt (gbTrans Hd.out.gr g10)
            rename_i hold
            clear hold T0 T1 T2 H9 Hd
            go_wp2
            go_ret
            exact ⟨rfl, G10.out⟩

theorem walk (x0 : Option Addr) (len0 cap0 : Nat) (a1 : Int) (w : World) (hx0 : Acts3 w x0 len0) :
    Calls Try.prog 7 #[.slice x0 len0 cap0, .int .i64 a1] w fun e w' => e = .returned (.bool true) ∧ Below w.heap.size w w' := endWalk (core x0 len0 cap0 a1 w hx0)

set_option maxRecDepth 100000 in
theorem lifted (os : Os) (started : os.Started) (H : Type) (enc : TypeId × Value → H) :
    ReturnsInHanded {} Try.checked os 7 .any (Rows.lineLevelsSpec.pre6 enc Try.prog Try.f7 Rows.lineLevelsRow.domain false) (Rows.lineLevelsSpec.post enc Try.prog Try.f7 false true false false) := by
  refine returnsInHanded_of_change (C := Try.checked) own started (by kernel_rfl) Try.func7
    (ChangeSpec.witness6 (enc := enc) (C := Try.checked) false ⟨#[], #[.slice none 0 0, .int .i64 0], []⟩ 8 (by kernel_rfl) (by kernel_rfl) (by kernel_rfl) (by kernel_rfl)) ?_
  intro W base args ds gs before hval0 hW hcnd _
  have hval : ∀ (j : Nat) t v, Try.f7.params[j]? = some t → args[j]? = some v → Value.okWide Try.prog W .any base t v := hval0
  have hW' := hW
  obtain ⟨p, q, hA0, hV, rfl, hfz, hnd⟩ := hW
  have hA : DataW.TrodAll enc Try.prog W 0 (fun _ => true) true Try.f7.params.toList args.toList ds p := hA0
  rw [Try.params7] at hA hval
  obtain ⟨v0, vs0, d0, ds0, p0, q0, hargs, rfl, rfl, h0, r0⟩ := trodAll_cons hA
  obtain ⟨v1, vs1, d1, ds1, p1, q1, rfl, rfl, rfl, h1, r1⟩ := trodAll_cons r0
  obtain ⟨rfl, rfl, rfl⟩ := trodAll_nil r1
  obtain rfl : args = #[v0, v1] := by cases args; simp_all
  obtain ⟨rfl, rfl⟩ := trodVars_none hV
  obtain ⟨x0, len0, cap0, rfl⟩ := okWide_slice Try.underlying22 (hval 0 22 v0 rfl rfl)
  have hx0 := opsArg h0
  have k0 := h0
  have lt0 : ∀ x ∈ p0, x.block < W.heap.size := by obtain ⟨m, hm⟩ := k0; exact DataW.trod_lt m _ _ _ hm
  obtain ⟨a1, rfl, rfl, rfl, w1⟩ := open_int Try.underlying3 (hval 1 3 v1 rfl rfl) h1
  clear hA0 hval0
  refine (walk x0 len0 cap0 a1 W hx0).mono fun e W' ⟨he, bel⟩ => ?_
  subst he
  exact ⟨_, rfl, _, _, _, [], _, [], hW', trodAll_mk1 (shut_bool Try.underlying4 _), (trodAll_cons_mk (Below.trod laidOut (by kernel_rfl) (of_decide_eq_true (by kernel_rfl)) k0 bel lt0) (trodAll_cons_mk (shut_int Try.underlying3 w1) trodAll_mk0)), rfl, bel.frame _, fun h => by cases h⟩

theorem over : Rows.lineLevelsRow.holds Try.pinned (OpenSpec.ofChange Rows.lineLevelsSpec) :=
  OpenClaim.holds_of_wide 7 Try.f7 rfl rfl rfl rfl rfl rfl rfl ⟨rfl, rfl, rfl, rfl, rfl⟩ rfl rfl rfl rfl rfl (by kernel_rfl) Try.func7 (by kernel_rfl)
    (of_decide_eq_true (by kernel_rfl)) (by unfold Func.isWrapper; first | (rw [if_pos (by decide +kernel)]; kernel_rfl) | (rw [if_neg (by decide +kernel)]; exact ⟨rfl, rfl⟩))
    (fun os started H enc _ => lifted os started H enc)

theorem proved : Rows.LineLevelsSaid := over
end Go.Proofs.Ytlekmpidhgjpdaa.lineLevels
namespace Go.Proofs.Ytlekmpidhgjpdaa
theorem lineLevels_holds : Rows.LineLevelsSaid := lineLevels.proved
#print axioms lineLevels_holds
end Go.Proofs.Ytlekmpidhgjpdaa
