/- LineOrder: for every list of acts, and every fate of the machine, the call ends and answers true: who came first of the highest level comes first; each comes once; all come. No condition beyond the statement's own. -/
import Derived.Test.YtlekmpidhgjpdaaArgs
import Derived.Test.YtlekmpidhgjpdaaOrd
import Derived.Deep.Cut
import Derived.Deep.DeepCutAuto
import Derived.Deep.CutBlock
import Derived.Deep.RegionHeld3
import Derived.Test.YtlekmpidhgjpdaaArgs
import Derived.ProofKit
import Derived.OpenShut
import Derived.ShutString
import Derived.ChangeOld
import Derived.Below
import Derived.Deep.Slices
namespace Go.Proofs.Ytlekmpidhgjpdaa.lineOrder
open Go.ChangeShapes Go.WideShapes Go.ChangeAt Go.RowKit
set_option linter.unusedVariables false

theorem own : ownKnob Try.prog.godebug = none := by kernel_rfl
theorem laidOut : laidOutB Try.prog = true := by kernel_rfl

/-- A Ready, and the list of whom it has. -/
structure Od (w0 w : World) (P R : Nat → Prop) (p : Nat) (D : List (Int × Int)) (x : Option Addr) (m d : Nat) : Prop where
  t : Tw (fun w O => RA w O p D) (LB eO 51 2 (.slice x m d) D) w0 w P R
  gd : M.Gd D
  len : D.length = m
abbrev LO (v : Value) (D : List (Int × Int)) : World → (Nat → Prop) → Prop := LB eO 51 2 v D
theorem oput {w0 w w' : World} {P R : Nat → Prop} {p : Nat} {D D' E : List (Int × Int)} {v : Value} (h : Tw (fun w O => RA w O p D) (LO v E) w0 w P R) (T : RA w' (wide P w w') p D') (k : Fr P w w') : Tw (fun w O => RA w O p D') (LO v E) w0 w' (wide P w w') R :=
  Tw.prog (A' := fun w O => RA w O p D') (kLB eO 51 2 v E) h T k
theorem okp {w0 w w' : World} {P R : Nat → Prop} {p : Nat} {D E : List (Int × Int)} {v : Value} (h : Tw (fun w O => RA w O p D) (LO v E) w0 w P R) (g : w.grownBy w' none) : Tw (fun w O => RA w O p D) (LO v E) w0 w' P R := Tw.kept (kRA p D) (kLB eO 51 2 v E) h g
abbrev Tc (w : World) (x : Addr) (r : Q) : Prop := w.cell? ⟨x.block, x.off + 1, none⟩ = some (.int .i64 r.i) ∧ w.cell? ⟨x.block, x.off + 2, none⟩ = some (.int .i64 r.l)
theorem tcOf {w : World} {x : Addr} {r : Q} (h : El3 w x r) : Tc w x r := ⟨h.at1, h.at2⟩
/-- A list that is all new, beside a thing. -/
theorem ofNew {A : World → (Nat → Prop) → Prop} {w0 w w' : World} {P : Nat → Prop} {v : Value} {D : List (Int × Int)} (hA : Keeps A) (h : On A w0 w P) (G : w.grownBy w' none) (l : OL w' w.heap.size v D) : Tw A (LO v D) w0 w' P (fun i => w.heap.size ≤ i ∧ i < w'.heap.size) := by
  have h1 := On.kept hA h G
  have h2 := h.gr.size
  exact ⟨h1.a, ⟨l.low, fun k hk => l.lt k hk⟩, h1.lo, fun i hi => ⟨by omega, hi.2⟩, fun i hi e => by have := (h.lo i hi).2; omega, h1.gr⟩
/-- The two cells of who is next. -/
abbrev Kc (w : World) (g k : Nat) (a l : Int) : Prop := w.cell? ⟨g, k * 2, none⟩ = some (.int .i64 a) ∧ w.cell? ⟨g, k * 2 + 1, none⟩ = some (.int .i64 l)
theorem kcOf {A : World → (Nat → Prop) → Prop} {w0 w : World} {P R : Nat → Prop} {g m d k : Nat} {D : List (Int × Int)} {a l : Int} (h : Tw A (LO (.slice (some ⟨g, 0, none⟩) m d) D) w0 w P R) (hm : D.length = m) (hk : D[k]? = some (a, l)) : Kc w g k a l := OL.at h.b.1 hm k (a, l) hk

set_option maxHeartbeats 8000000 in
set_option maxRecDepth 100000 in
theorem core (x0 : Option Addr) (len0 cap0 : Nat) (w : World) (hx0 : Acts3 w x0 len0) :
    Calls Try.prog 5 #[.slice x0 len0 cap0] w fun e w' => e = .returned (.bool true) ∧ w.grownBy w' none := by
  have HX := hideIt hx0
  clear hx0
  go_enter Try.func5, Try.ntmps5
  go_wp2_with fail
  refine (works_is w).mono ?_
  rintro e wa ⟨rfl, ga⟩
  go_wp2_with fail
  refine (newReady_is wa).mono ?_
  rintro e wb ⟨rfl, A1, s1, g1⟩
  have H2 : Hid (Od w wb (fun i => i = wa.heap.size) (fun _ => False) wa.heap.size [] none 0 0) := hideIt ⟨Tw.begin ⟨A1, fun i hi => by subst hi; exact ⟨ga.size, by omega⟩, gbTrans ga g1⟩, M.Gd.nil, rfl⟩
  obtain ⟨p, hp⟩ : ∃ p, wa.heap.size = p := ⟨_, rfl⟩
  rw [hp] at H2
  rw [hp]
  clear hp A1 s1 g1 ga
  go_wp2_with fail
  go_loopg [4, 5] 60 (fun gk v i wr => ∃ (j : Nat) (P R : Nat → Prop) (D : List (Int × Int)) (x : Option Addr) (m d : Nat), j + gk = 60 ∧ m ≤ j ∧ i = .int .i64 j ∧ v = .slice x m d ∧ Hid (Od w wr P R p D x m d))
  case atStart => exact ⟨0, _, _, [], none, 0, 0, rfl, by omega, rfl, rfl, H2⟩
  case round =>
    obtain ⟨j, P, R, D, x, m, d, hj, hm, rfl, rfl, H⟩ := hrel
    clear H2
    by_cases hlt : j < len0 ∧ j < 60
    · obtain ⟨c1, c2⟩ := hlt
      obtain ⟨xa, r, rfl, hE⟩ := HX.out j c1
      have hdj : decide ((j : Int) < 60) = true := by simp; omega
      replace hE := hideIt hE
      have hmL := hideIt H.out.len
      have Hd := hideIt (okp H.out.t (gbDrew (gbRefl wr none)))
      have T0 := tcOf (hE.out.kept H.out.t.gr)
      have T1 := tcOf (hE.out.kept Hd.out.gr)
      obtain ⟨f, hf⟩ : ∃ f, M.re D r.i r.l = f := ⟨_, rfl⟩
      replace hf := hideIt hf
      go_upto_region 8 with fail
      go_region_held3 (fun w' => Tc w' (xa.add (j * 3)) r)
        (first | with_reducible exact T0 | with_reducible exact T1 | with_reducible exact T6 | fail)
        ((first
          | (go_at_call 18; refine (put_is Hd.out.a H.out.gd (by rw [hmL.out]; omega) r.i r.l f hf.out).mono ?_; rintro e w6 ⟨rfl, Z6, F6⟩; have H6 := hideIt (oput Hd.out Z6 F6); have T6 := tcOf (hE.out.kept H6.out.gr); clear Z6 F6)))
      rename_i hold
      clear hold T0 T1
      by_cases k0 : (f == 0) = true
      · have hrl : M.rl D r.i r.l = D ++ [(r.i, r.l)] := by
          have e1 : M.re D r.i r.l = 0 := by rw [hf.out]; simpa using k0
          unfold M.re at e1
          unfold M.rl
          split at e1
          · rename_i q1
            split at e1
            · cases e1
            · rename_i q2
              rw [if_pos ⟨q1, q2⟩]
          · cases e1
        have hgd := hideIt (H.out.gd.put r.i r.l)
        rw [hrl] at H6 hgd
        clear hrl
        obtain ⟨x', cap', w7, hr, H7, _⟩ := Tw.app (kRA p (D ++ [(r.i, r.l)])) H6.out hmL.out run_append_o (gbDrew (gbAlloc w6 (.cells #[.int .i64 r.i, .int .i64 r.l] 51) none)) ⟨w6.heap.size, 0, none⟩ 1 (r.i, r.l) (rowO w6 (r.i, r.l)) (by omega)
        have H8 : Hid (Od w w7 _ _ p (D ++ [(r.i, r.l)]) x' (m + 1) cap') := hideIt ⟨H7.out, hgd.out, by rw [List.length_append, hmL.out]; rfl⟩
        obtain ⟨t1, t2⟩ := T6
        clear H H6 H7 Hd hgd hf
        go_upto_region 9 with fail
        go_region_law (refine step_append_run rfl (.tmp 38) (.tmp 50) rfl (.slice x m d) (.slice (some ⟨w6.heap.size, 0, none⟩) 1 1) rfl rfl (.slice x' (m + 1) cap') w7 hr ?_)
        all_goals
          go_wp2
          go_roundg (gk - 1)
          case rel => exact ⟨j + 1, _, _, _, x', m + 1, cap', by omega, by omega, by go_num, rfl, H8⟩
          case measure => omega
      · have k0 : (f == 0) = false := by simpa using k0
        have hrl : M.rl D r.i r.l = D := by
          have e1 : ¬ M.re D r.i r.l = 0 := by rw [hf.out]; simpa using k0
          unfold M.re at e1
          unfold M.rl
          split
          · rename_i q
            rw [if_pos q.1, if_neg q.2] at e1
            exact absurd rfl e1
          · rfl
        rw [hrl] at H6
        have H8 : Hid (Od w w6 _ R p D x m d) := hideIt ⟨H6.out, H.out.gd, H.out.len⟩
        clear H H6 Hd hrl hf T6
        go_wp2
        go_roundg (gk - 1)
        case rel => exact ⟨j + 1, _, _, D, x, m, d, by omega, by omega, by go_num, rfl, H8⟩
        case measure => omega
    · have hm60 : m ≤ 60 := by omega
      go_upto_region 6 with fail
      go_cut [22] from 15 to 22 (fun s wc => s = .bool false ∧ wc = wr)
      case first =>
        by_cases k1 : (j : Int) < (len0 : Int)
        · have k2 : ¬ (j : Int) < 60 := by omega
          go_wp2
          go_meet
          exact ⟨rfl, rfl⟩
        · go_wp2
          go_meet
          exact ⟨rfl, rfl⟩
      case rest =>
      obtain ⟨rfl, rfl⟩ := hcut
      clear hlt hj hm HX
      go_wp2_with fail
      go_loopg [4] 61 (fun gk v wr => ∃ (P R : Nat → Prop) (D : List (Int × Int)) (x : Option Addr) (m d : Nat), m + 1 ≤ gk ∧ m ≤ 60 ∧ v = .slice x m d ∧ Hid (Od w wr P R p D x m d))
      case atStart => exact ⟨P, R, D, x, m, d, by omega, hm60, rfl, H⟩
      case round =>
        obtain ⟨P, R, D, x, m, d, hmg, hm60, rfl, H⟩ := hrel
        by_cases h0 : 0 < m
        · have h0' : (0 : Int) < (m : Int) := by omega
          have hmL := hideIt H.out.len
          obtain ⟨g, cap, ex, hcap, _, _, hcap2⟩ := H.out.t.b.1.has H.out.len h0
          cases ex
          obtain ⟨go, hgo⟩ : ∃ go, go = gk := ⟨_, rfl⟩
          subst hgo
          obtain ⟨wo, hwo⟩ : ∃ wo, wo = wr := ⟨_, rfl⟩
          subst hwo
          go_wp2_with fail
          go_loopg [6, 7] m (fun gk k i wr => ∃ (kk ii : Nat), ii + gk = m + 1 ∧ ii ≤ m ∧ kk < ii ∧ k = .int .i64 kk ∧ i = .int .i64 ii ∧ Hid (M.Mx D ii kk) ∧ wo.grownBy wr none)
          case atStart => exact ⟨0, 1, by omega, by omega, by omega, rfl, rfl, hideIt (M.Mx.one D), gbRefl _ _⟩
          case round =>
            obtain ⟨kk, ii, hii, him, hki, rfl, rfl, HM, gw⟩ := hrel
            obtain ⟨⟨a, l⟩, hk⟩ : ∃ o, D[kk]? = some o := ⟨_, List.getElem?_eq_getElem (by rw [hmL.out]; omega)⟩
            by_cases hil : ii < m
            · have hil' : (ii : Int) < (m : Int) := by omega
              have hkl' : (kk : Int) < (m : Int) := by omega
              obtain ⟨⟨b, l'⟩, hi⟩ : ∃ o, D[ii]? = some o := ⟨_, List.getElem?_eq_getElem (by rw [hmL.out]; omega)⟩
              have e1 := gw.cell (OL.at H.out.t.b.1 hmL.out ii _ hi).2 (by simp)
              have e2 := gw.cell (OL.at H.out.t.b.1 hmL.out kk _ hk).2 (by simp)
              simp only at e1 e2
              by_cases hl : l < l'
              · have HN := hideIt (HM.out.turn hi hk hl)
                clear hi hk HM
                go_wp2
                go_quiet (fail)
                go_wp2
                go_roundg (gk - 1)
                case rel => exact ⟨ii, ii + 1, by omega, by omega, by omega, rfl, by go_num, HN, gbTrans gw (gbDrewN _ _ _)⟩
                case measure => omega
              · have HN := hideIt (HM.out.stay hi hk hl)
                clear hi hk HM
                go_wp2
                go_quiet (fail)
                go_wp2
                go_roundg (gk - 1)
                case rel => exact ⟨kk, ii + 1, by omega, by omega, by omega, rfl, by go_num, HN, gbTrans gw (gbDrewN _ _ _)⟩
                case measure => omega
            · have hil' : ¬ (ii : Int) < (m : Int) := by omega
              obtain rfl : ii = m := by omega
              have HO := hideIt (M.order H.out.gd (by rw [hmL.out]; exact HM.out) hk)
              obtain ⟨h, rfl, hh8, o1, o2, o3, o4, o5⟩ := HO.out
              obtain ⟨u, hu⟩ : ∃ u, M.lw D = u := ⟨_, rfl⟩
              rw [hu] at o3
              have hub : u < 256 := by rw [← hu]; exact M.lw_lt D
              have o3' : (u : Int) / 2 ^ h = 1 := by
                have : ((u / 2 ^ h : Nat) : Int) = 1 := by rw [o3]; rfl
                rw [← this]; norm_cast
              replace hu := hideIt hu
              replace o1 := hideIt o1
              replace o2 := hideIt o2
              replace o4 := hideIt o4
              replace o5 := hideIt o5
              replace hk := hideIt hk
              have Hg := hideIt (okp H.out.t gw)
              have hgd := hideIt H.out.gd
              clear HO HM o3 H gw
              go_wp2_with fail
              refine (next_is Hg.out.a (by rw [hmL.out]; omega) a true o1.out o2.out).mono ?_
              rintro e w3 ⟨rfl, g3⟩
              have H3 := hideIt (okp Hg.out g3)
              have Hd := hideIt (okp H3.out (gbDrew (gbRefl w3 none)))
              have T0 := kcOf H3.out hmL.out hk.out
              have T1 := kcOf Hd.out hmL.out hk.out
              have hkl' : (kk : Int) < (ii : Int) := by omega
              have hh0 : (0 : Int) ≤ (h : Int) := by omega
              clear Hg g3
              go_upto_region 18 with fail
              go_region_held3 (fun w' => Kc w' g kk a (h : Int))
                (first | with_reducible exact T0 | with_reducible exact T1 | with_reducible exact T5 | with_reducible exact T6 | fail)
                ((first
                  | (go_at_call 20; refine (drop_is H5.out.a hgd.out (by rw [hmL.out]; omega) a true o4.out).mono ?_; rintro e w6 ⟨rfl, Z6, F6⟩; have H6 := hideIt (oput H5.out Z6 F6); have T6 := kcOf H6.out hmL.out hk.out; clear Z6 F6)
                  | (go_at_call 24; refine (levels_is Hd.out.a (by rw [hmL.out]; omega) u hu.out).mono ?_; rintro e w5 ⟨rfl, g5⟩; have H5 := hideIt (okp Hd.out g5); have T5 := kcOf H5.out hmL.out hk.out)))
              rename_i hold
              clear hold T0 T1 T5 T6 o3'
              rw [o5.out] at H6
              have hgd' := hideIt (hgd.out.drop a)
              rw [o5.out] at hgd'
              obtain ⟨xx, hx⟩ : ∃ xx : Nat, Hid (xx = kk + 1) := ⟨_, hideIt rfl⟩
              have hR := fun ad c1 c2 had => twoRunsO (ad := ad) (c1 := c1) (c2 := c2) H6.out.b.1 hmL.out (by omega) hki hx.out hcap had
              have hxe : (kk : Int) + 1 = (xx : Int) := by rw [hx.out]; omega
              have hxw : IntKind.i64.wrap (xx : Int) = (xx : Int) := wI rfl (by have := hx.out; omega)
              have q1 : (xx : Int) ≤ (ii : Int) := by have := hx.out; omega
              have q2 : (kk : Int) ≤ (d : Int) := by omega
              have q3 : (kk : Int) ≤ (ii : Int) := by omega
              have q4 : (xx : Int) ≤ (d : Int) := by omega
              have q5 : (ii : Int) ≤ (d : Int) := by omega
              have q6 : xx ≤ ii := by omega
              have H7 := hideIt H6.out.one
              have hlen : Hid ((D.eraseIdx kk).length + 1 = ii) := hideIt (by rw [List.length_eraseIdx, hmL.out, if_pos hki]; omega)
              clear H6 H5 H3 Hd o1 o2 o4 o5 hk hgd hu
              by_cases hxc : xx < d
              · obtain ⟨x1, m1, d1, wy, x2, m2, d2, wz, r1, r2, G1, l2, G2⟩ := hR ⟨g, xx * 2, none⟩ d (d - xx) (fun _ => rfl)
                have H8 := hideIt (ofNew (kRA p (D.eraseIdx kk)) H7.out G2 l2)
                obtain ⟨x2', d2', ee, _⟩ := l2.arr
                have hm2 : Hid ((D.eraseIdx kk).length = m2) := hideIt (by cases ee; rfl)
                have hc3 : ¬ d = xx := by omega
                clear hR l2 ee G1 G2 H7
                go_upto_region 20 with fail
                go_region_law (first | (refine step_append_run rfl (.tmp 110) (.tmp 114) rfl (.slice x1 m1 d1) (.slice (some ⟨g, xx * 2, none⟩) (ii - xx) (d - xx)) (by simp [Act.eval]) (by simp [Act.eval]; done) (.slice x2 m2 d2) wz r2 ?_) | (refine step_append_run rfl (.tmp 106) (.tmp 109) rfl (.slice (some ⟨w6.heap.size, 0, none⟩) 0 0) (.slice (some ⟨g, 0, none⟩) kk d) (by simp [Act.eval]) (by simp [Act.eval]) (.slice x1 m1 d1) wy r1 ?_))
                all_goals
                  go_wp2
                  go_roundg (go - 1)
                  case rel => exact ⟨_, _, D.eraseIdx kk, x2, m2, d2, by have := hlen.out; have := hm2.out; omega, by have := hlen.out; have := hm2.out; omega, rfl, hideIt ⟨H8.out, hgd'.out, hm2.out⟩⟩
                  case measure => omega
              · obtain rfl : xx = d := by omega
                obtain ⟨x1, m1, d1, wy, x2, m2, d2, wz, r1, r2, G1, l2, G2⟩ := hR ⟨g, 0, none⟩ xx 0 (fun e => absurd e (Nat.lt_irrefl _))
                have H8 := hideIt (ofNew (kRA p (D.eraseIdx kk)) H7.out G2 l2)
                obtain ⟨x2', d2', ee, _⟩ := l2.arr
                have hm2 : Hid ((D.eraseIdx kk).length = m2) := hideIt (by cases ee; rfl)
                clear hR l2 ee G1 G2 H7
                go_upto_region 20 with fail
                go_region_law (first | (refine step_append_run rfl (.tmp 110) (.tmp 114) rfl (.slice x1 m1 d1) (.slice (some ⟨g, 0, none⟩) (ii - xx) 0) (by simp [Act.eval]) (by simp [Act.eval]; omega) (.slice x2 m2 d2) wz r2 ?_) | (refine step_append_run rfl (.tmp 106) (.tmp 109) rfl (.slice (some ⟨w6.heap.size, 0, none⟩) 0 0) (.slice (some ⟨g, 0, none⟩) kk xx) (by simp [Act.eval]) (by simp [Act.eval]) (.slice x1 m1 d1) wy r1 ?_))
                all_goals
                  go_wp2
                  go_roundg (go - 1)
                  case rel => exact ⟨_, _, D.eraseIdx kk, x2, m2, d2, by have := hlen.out; have := hm2.out; omega, by have := hlen.out; have := hm2.out; omega, rfl, hideIt ⟨H8.out, hgd'.out, hm2.out⟩⟩
                  case measure => omega
        · have h0' : ¬ (0 : Int) < (m : Int) := by omega
          obtain rfl : m = 0 := by omega
          obtain rfl : D = [] := List.eq_nil_of_length_eq_zero H.out.len
          have H1 := hideIt H.out.t.one
          clear H
          go_wp2_with fail
          refine (next_is H1.out.a (by simp) 0 false M.order_nil.1 M.order_nil.2.1).mono ?_
          rintro e w3 ⟨rfl, g3⟩
          have H3 := hideIt (On.kept (kRA p []) H1.out g3)
          clear H1 g3
          go_wp2_with fail
          refine (levels_is H3.out.a (by simp) 0 M.order_nil.2.2).mono ?_
          rintro e w4 ⟨rfl, g4⟩
          have G4 := hideIt (gbTrans H3.out.gr g4)
          clear H3 g4
          go_wp2
          go_ret
          exact ⟨rfl, G4.out⟩

theorem walk (x0 : Option Addr) (len0 cap0 : Nat) (w : World) (hx0 : Acts3 w x0 len0) :
    Calls Try.prog 5 #[.slice x0 len0 cap0] w fun e w' => e = .returned (.bool true) ∧ Below w.heap.size w w' := endWalk (core x0 len0 cap0 w hx0)

set_option maxRecDepth 100000 in
theorem lifted (os : Os) (started : os.Started) (H : Type) (enc : TypeId × Value → H) :
    ReturnsInHanded {} Try.checked os 5 .any (Rows.lineOrderSpec.pre6 enc Try.prog Try.f5 Rows.lineOrderRow.domain false) (Rows.lineOrderSpec.post enc Try.prog Try.f5 false true false false) := by
  refine returnsInHanded_of_change (C := Try.checked) own started (by kernel_rfl) Try.func5
    (ChangeSpec.witness6 (enc := enc) (C := Try.checked) false ⟨#[], #[.slice none 0 0], []⟩ 8 (by kernel_rfl) (by kernel_rfl) (by kernel_rfl) (by kernel_rfl)) ?_
  intro W base args ds gs before hval0 hW hcnd _
  have hval : ∀ (j : Nat) t v, Try.f5.params[j]? = some t → args[j]? = some v → Value.okWide Try.prog W .any base t v := hval0
  have hW' := hW
  obtain ⟨p, q, hA0, hV, rfl, hfz, hnd⟩ := hW
  have hA : DataW.TrodAll enc Try.prog W 0 (fun _ => true) true Try.f5.params.toList args.toList ds p := hA0
  rw [Try.params5] at hA hval
  obtain ⟨v0, vs0, d0, ds0, p0, q0, hargs, rfl, rfl, h0, r0⟩ := trodAll_cons hA
  obtain ⟨rfl, rfl, rfl⟩ := trodAll_nil r0
  obtain rfl : args = #[v0] := by cases args; simp_all
  obtain ⟨rfl, rfl⟩ := trodVars_none hV
  obtain ⟨x0, len0, cap0, rfl⟩ := okWide_slice Try.underlying22 (hval 0 22 v0 rfl rfl)
  have hx0 := opsArg h0
  have k0 := h0
  have lt0 : ∀ x ∈ p0, x.block < W.heap.size := by obtain ⟨m, hm⟩ := k0; exact DataW.trod_lt m _ _ _ hm
  clear hA0 hval0
  refine (walk x0 len0 cap0 W hx0).mono fun e W' ⟨he, bel⟩ => ?_
  subst he
  exact ⟨_, rfl, _, _, _, [], _, [], hW', trodAll_mk1 (shut_bool Try.underlying4 _), (trodAll_cons_mk (Below.trod laidOut (by kernel_rfl) (of_decide_eq_true (by kernel_rfl)) k0 bel lt0) trodAll_mk0), rfl, bel.frame _, fun h => by cases h⟩

theorem over : Rows.lineOrderRow.holds Try.pinned (OpenSpec.ofChange Rows.lineOrderSpec) :=
  OpenClaim.holds_of_wide 5 Try.f5 rfl rfl rfl rfl rfl rfl rfl ⟨rfl, rfl, rfl, rfl, rfl⟩ rfl rfl rfl rfl rfl (by kernel_rfl) Try.func5 (by kernel_rfl)
    (of_decide_eq_true (by kernel_rfl)) (by unfold Func.isWrapper; first | (rw [if_pos (by decide +kernel)]; kernel_rfl) | (rw [if_neg (by decide +kernel)]; exact ⟨rfl, rfl⟩))
    (fun os started H enc _ => lifted os started H enc)

theorem proved : Rows.LineOrderSaid := over
end Go.Proofs.Ytlekmpidhgjpdaa.lineOrder
namespace Go.Proofs.Ytlekmpidhgjpdaa
theorem lineOrder_holds : Rows.LineOrderSaid := lineOrder.proved
#print axioms lineOrder_holds
end Go.Proofs.Ytlekmpidhgjpdaa
