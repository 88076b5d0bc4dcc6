/- SchedPicks: whatever threads are put into a schedule of one domain, who is picked is of its highest level there, and with yields all of that level come in turn, twice round; if nobody is there, nobody is picked. For every input, no condition. -/
import Derived.Test.YtpacgdplbddclaaPck
import Derived.Test.YtpacgdplbddclaaArgs
import Derived.Deep.Cut
import Derived.Deep.DeepCutAuto
import Derived.Deep.CutBlock
import Derived.Deep.RegionHeld3
import Derived.Test.YtpacgdplbddclaaArgs
import Derived.ProofKit
import Derived.OpenShut
import Derived.ShutString
import Derived.ChangeOld
import Derived.Below
import Derived.Deep.Slices
namespace Go.Proofs.Ytpacgdplbddclaa.schedPicks
open Go.ChangeShapes Go.WideShapes Go.ChangeAt Go.RowKit
set_option linter.unusedVariables false

theorem own : ownKnob Try.prog.godebug = none := by kernel_rfl
theorem laidOut : laidOutB Try.prog = true := by kernel_rfl

abbrev pT (d : Nat) : List (Int × Int) := [((d : Int), 5)]
theorem pOk {d : Nat} (hd : d < 4) : M.Ok (pT d) := ⟨by simp, by simp, fun o ho => by simp at ho; subst ho; simp; omega⟩
theorem pPs (d : Nat) : M.Ps (pT d) 0 5 0 := ⟨by simp, by decide, by simp [M.tt], by simp [M.pre_zero, M.tt]⟩
/-- The schedule and the list of those of its highest level. -/
abbrev SL (w0 w : World) (P R : Nat → Prop) (p d : Nat) (F : Nat → List (Int × Int)) (v : Value) (D : List Int) : Prop := Tw (fun w O => SA w O p (pT d) 0 5 F) (LB eI 3 1 v D) w0 w P R
structure PI (w0 w : World) (P R : Nat → Prop) (p d : Nat) (F : Nat → List (Int × Int)) (v : Value) (D : List Int) (n : Nat) : Prop where
  t : SL w0 w P R p d F v D
  gf : M.GF F
  n : D.length = n
section
variable {w0 w w' : World} {P R : Nat → Prop} {p d : Nat} {F F' : Nat → List (Int × Int)} {v : Value} {D : List Int}
theorem pr (h : SL w0 w P R p d F v D) (Z : SA w' (wide P w w') p (pT d) 0 5 F') (f : Fr P w w') : SL w0 w' (wide P w w') R p d F' v D := Tw.prog (A' := fun w O => SA w O p (pT d) 0 5 F') (kLB eI 3 1 v D) h Z f
theorem kp (h : SL w0 w P R p d F v D) (g : w.grownBy w' none) : SL w0 w' P R p d F v D := Tw.kept (kSA p (pT d) 0 5 F) (kLB eI 3 1 v D) h g
end
theorem lbAt {w : World} {O : Nat → Prop} {x : Option Addr} {n c : Nat} {D : List Int} (h : LB eI 3 1 (.slice x n c) D w O) (m : Nat) (a : Int) (hm : D[m]? = some a) : ∃ g, x = some ⟨g, 0, none⟩ ∧ w.cell? ⟨g, m, none⟩ = some (.int .i64 a) := by
  rcases h.1.form with ⟨e, rfl⟩ | ⟨g, c', e, _⟩
  · simp at hm
  · cases e
    exact ⟨g, rfl, IL.at h.1 rfl m a hm⟩
theorem lvlen {F : Nat → List (Int × Int)} (g : M.GF F) {d : Nat} (hd : d < 4) {t : Int} {D : List Int} (h : M.Top (F d) t D) : D.length ≤ 64 := by
  have h1 := M.lv_len (F d) t
  have h2 := g.len hd
  rw [h.li] at h1
  omega

set_option maxHeartbeats 8000000 in
set_option maxRecDepth 100000 in
theorem core (x0 : Option Addr) (len0 cap0 : Nat) (a1 : Int) (w : World) (hx0 : Acts4 w x0 len0) :
    Calls Try.prog 5 #[.slice x0 len0 cap0, .int .i64 a1] w fun e w' => e = .returned (.bool true) ∧ w.grownBy w' none := by
  have HX := hideIt hx0
  clear hx0
  obtain ⟨U, d, q1, q2, hd⟩ := modArg a1 4 (by decide)
  replace q2 : (U : Int) % 4 = (d : Int) := q2
  go_enter Try.func5, Try.ntmps5
  go_wp2_with fail
  refine (works_is w).mono ?_
  rintro e wa ⟨rfl, ga⟩
  replace ga := hideIt ga
  go_wp2_with fail
  clear q1 q2
  refine (snew_ok _ _ 1 1 (pT d) (pairs1 wa d 5) rfl (pOk hd)).mono ?_
  rintro e wb ⟨p, rfl, A1, g1⟩
  rw [show M.tt (pT d) 0 = 5 from rfl] at A1
  have H2 : Hid (PI w wb (fun i => (wa.alloc (.cells #[.int .i64 d, .int .i64 5] 49)).heap.size ≤ i ∧ i < wb.heap.size) (fun _ => False) p d (fun _ => []) (.slice none 0 0) [] 0) := hideIt (by
    have gc := gbAlloc wa (.cells #[.int .i64 d, .int .i64 5] 49) none
    have s0 := ga.out.size
    have s1 := gc.size
    exact ⟨Tw.begin ⟨A1, fun i hi => by omega, gbTrans (gbTrans ga.out gc) g1⟩, M.GF.nil, rfl⟩)
  have HT2 : Hid (M.Top ((fun _ => [] : Nat → List (Int × Int)) d) (-1) []) := hideIt M.Top.nil
  clear A1 g1 ga
  go_wp2_with fail
  go_loopg [7, 8, 9] 60 (fun gk v u i wr => ∃ (j : Nat) (P R : Nat → Prop) (F : Nat → List (Int × Int)) (x : Option Addr) (n c : Nat) (t : Int) (D : List Int), j + gk = 60 ∧ v = .slice x n c ∧ u = .int .i64 t ∧ i = .int .i64 j ∧ Hid (PI w wr P R p d F (.slice x n c) D n) ∧ Hid (M.Top (F d) t D))
  case atStart => exact ⟨0, _, _, _, none, 0, 0, -1, _, rfl, rfl, rfl, rfl, H2, HT2⟩
  case round =>
    obtain ⟨j, P, R, F, xo, n, c, t, D, hj, rfl, rfl, rfl, H, HT⟩ := hrel
    clear H2 HT2
    by_cases hlt : j < len0 ∧ j < 60
    · obtain ⟨c1, c2⟩ := hlt
      obtain ⟨x, r, rfl, hE⟩ := HX.out j c1
      have hdj : decide ((j : Int) < 60) = true := by simp; omega
      obtain ⟨r0, r1, r2, r3⟩ := hE.kept H.out.t.gr
      clear hE
      go_upto_region 13 with fail
      obtain ⟨V, hV, Y, gY⟩ := qboxNew wr r
      rw [hV]
      clear hV r0 r1 r2 r3
      have hyP : ¬ P wr.heap.size := fun e => by have := (H.out.t.lo _ e).2; omega
      have hyR : ¬ R wr.heap.size := fun e => by have := (H.out.t.lr _ e).2; omega
      have H0 := hideIt (kp H.out.t gY)
      have hgf := hideIt H.out.gf
      have hDn := hideIt H.out.n
      obtain ⟨y, hy⟩ : ∃ y, wr.heap.size = y := ⟨_, rfl⟩
      rw [hy] at Y hyP hyR
      rw [hy]
      clear hy gY H
      have r1 := Y.at1
      have r2 := Y.at2
      have r3 := Y.at3
      replace Y := hideIt Y
      obtain ⟨f, hf⟩ : ∃ f, M.se F r.i r.d r.l = f := ⟨_, rfl⟩
      have hcs := hideIt (M.se_cases F r.i r.d r.l)
      rw [hf] at hcs
      replace hf := hideIt hf
      go_wp2_with fail
      refine (sput_is H0.out.a hgf.out r.i r.d r.l f hf.out).mono ?_
      rintro e w6 ⟨rfl, Z6, F6⟩
      have H6 := hideIt (pr H0.out Z6 F6)
      have Y6 := hideIt (Y.out.fr F6 hyP)
      have G6 := hideIt (hgf.out.put r.i r.d r.l)
      clear Z6 F6 r1 r2 r3 H0 Y hyP hf
      have r1 := Y6.out.at1
      have r2 := Y6.out.at2
      have r3 := Y6.out.at3
      rcases hcs.out with ⟨k0, e0, e4, l0, l8, hin, hsp⟩ | ⟨kne, hsp⟩
      · subst k0
        rw [hsp] at H6 G6
        obtain ⟨e, he⟩ : ∃ e : Nat, r.d = e := ⟨r.d.toNat, by omega⟩
        obtain ⟨l, hl⟩ : ∃ l : Nat, r.l = l := ⟨r.l.toNat, by omega⟩
        rw [he] at r2 H6 G6
        rw [hl] at r3 H6 G6
        rw [Int.toNat_natCast] at H6 G6
        have hl8 : l < 8 := by omega
        clear hcs hsp hin e0 e4 l0 l8 he hl
        by_cases hed : e = d
        · subst hed
          have hTb := HT.out.bd
          by_cases cA : t < (l : Int)
          · have HT6 : Hid (M.Top (upd F e (F e ++ [(r.i, (l : Int))]) e) l [r.i]) := hideIt (by rw [upd_at]; exact HT.out.more r.i hl8 cA)
            have H7 : Hid (SL w w6 _ (fun _ => False) p e (upd F e (F e ++ [(r.i, (l : Int))])) (.slice none 0 0) []) := hideIt (Tw.begin H6.out.one)
            obtain ⟨x6, cap6, w7, hr, H8, F8, G8⟩ := Tw.app (kSA p (pT e) 0 5 _) H7.out rfl run_append_i (gbAlloc w6 (.cells #[.int .i64 r.i] 3) none) ⟨w6.heap.size, 0, none⟩ 1 r.i (rowI w6 r.i) (by omega)
            have r1' := (gbAlloc w6 (.cells #[.int .i64 r.i] 3) none).cell r1 (by simp)
            clear H6 H7 F8 G8
            go_wp2_with (at_builtin; refine wpList_append_run rfl (.tmp 75) (.tmp 78) rfl (.slice none 0 0) (.slice (some ⟨w6.heap.size, 0, none⟩) 1 1) rfl rfl (.slice x6 (0 + 1) cap6) w7 hr ?_)
            go_roundg (gk - 1)
            case rel => exact ⟨j + 1, _, _, _, x6, 1, cap6, l, _, by omega, rfl, rfl, by go_num, hideIt ⟨H8.out, G6.out, rfl⟩, HT6⟩
            case measure => omega
          · by_cases cB : t = (l : Int)
            · subst cB
              have HT6 : Hid (M.Top (upd F e (F e ++ [(r.i, (l : Int))]) e) l (D ++ [r.i])) := hideIt (by rw [upd_at]; exact HT.out.level r.i hl8 rfl)
              have hD64 := lvlen hgf.out hd HT.out
              obtain ⟨x6, cap6, w7, hr, H8, F8, G8⟩ := Tw.app (kSA p (pT e) 0 5 _) H6.out hDn.out run_append_i (gbAlloc w6 (.cells #[.int .i64 r.i] 3) none) ⟨w6.heap.size, 0, none⟩ 1 r.i (rowI w6 r.i) (by rw [← hDn.out]; omega)
              have hn7 := hideIt (show (D ++ [r.i]).length = n + 1 by rw [List.length_append, hDn.out]; rfl)
              clear H6 F8 G8 hD64
              go_wp2_with (at_builtin; refine wpList_append_run rfl (.tmp 75) (.tmp 78) rfl (.slice xo n c) (.slice (some ⟨w6.heap.size, 0, none⟩) 1 1) rfl rfl (.slice x6 (n + 1) cap6) w7 hr ?_)
              go_roundg (gk - 1)
              case rel => exact ⟨j + 1, _, _, _, x6, n + 1, cap6, l, _, by omega, rfl, rfl, by go_num, hideIt ⟨H8.out, G6.out, hn7.out⟩, HT6⟩
              case measure => omega
            · have HT6 : Hid (M.Top (upd F e (F e ++ [(r.i, (l : Int))]) e) t D) := hideIt (by rw [upd_at]; exact HT.out.less r.i hl8 (by omega))
              have cB2 : ((l : Int) == t) = false := by simp; omega
              clear cB
              go_wp2
              go_roundg (gk - 1)
              case rel => exact ⟨j + 1, _, _, _, xo, n, c, t, _, by omega, rfl, rfl, by go_num, hideIt ⟨H6.out, G6.out, hDn.out⟩, HT6⟩
              case measure => omega
        · have HT6 : Hid (M.Top (upd F e (F e ++ [(r.i, (l : Int))]) d) t D) := hideIt (by rw [upd_ne _ _ (fun q => hed q.symm)]; exact HT.out)
          have hed2 : ((e : Int) == (d : Int)) = false := by simp; omega
          clear hed
          go_wp2
          go_roundg (gk - 1)
          case rel => exact ⟨j + 1, _, _, _, xo, n, c, t, _, by omega, rfl, rfl, by go_num, hideIt ⟨H6.out, G6.out, hDn.out⟩, HT6⟩
          case measure => omega
      · rw [hsp] at H6 G6
        have kne2 : (f == 0) = false := by simpa using kne
        clear hcs hsp kne
        go_wp2
        go_roundg (gk - 1)
        case rel => exact ⟨j + 1, _, _, _, xo, n, c, t, _, by omega, rfl, rfl, by go_num, hideIt ⟨H6.out, G6.out, hDn.out⟩, HT⟩
        case measure => omega
    · go_upto_region 10 with fail
      go_cut [43] from 36 to 43 (fun s wc => s = .bool false ∧ wc = wr)
      case first =>
        by_cases k1 : (j : Int) < (len0 : Int)
        · have k2 : ¬ (j : Int) < 60 := by omega
          go_wp2
          go_meet
          exact ⟨rfl, rfl⟩
        · go_wp2
          go_meet
          exact ⟨rfl, rfl⟩
      case rest =>
      obtain ⟨rfl, rfl⟩ := hcut
      clear hlt HX
      have hn64 : n ≤ 64 := by rw [← H.out.n]; exact lvlen H.out.gf hd HT.out
      go_wp2_with fail
      go_loopg [11] 3 (fun gk i wr => ∃ (k : Nat) (P : Nat → Prop) (F : Nat → List (Int × Int)), k + gk = 3 ∧ k ≤ 2 ∧ i = .int .i64 k ∧ Hid (PI w wr P R p d F (.slice xo n c) D n) ∧ Hid (M.Top (F d) t D))
      case atStart => exact ⟨0, _, _, rfl, by omega, rfl, H, HT⟩
      case round =>
        obtain ⟨k, P, F, hk, hk2, rfl, H, HT⟩ := hrel
        by_cases hlt : k < 2
        · have hlt' : (k : Int) < 2 := by omega
          obtain ⟨G, rfl⟩ : ∃ G, G = gk := ⟨_, rfl⟩
          have HT0 : Hid (M.Top (F d) t (M.rot D 0)) := hideIt (by rw [M.rot_zero]; exact HT.out)
          go_wp2_with fail
          go_loopg [12] (n + 1) (fun gk i wx => ∃ (m : Nat) (P : Nat → Prop) (F : Nat → List (Int × Int)), m + gk = n + 1 ∧ m ≤ n ∧ i = .int .i64 m ∧ Hid (PI w wx P R p d F (.slice xo n c) D n) ∧ Hid (M.Top (F d) t (M.rot D m)))
          case atStart => exact ⟨0, _, _, by omega, by omega, rfl, H, HT0⟩
          case round =>
            obtain ⟨m, P, F, hm, hmn, rfl, H, HT⟩ := hrel
            by_cases hlm : m < n
            · have hlm' : (m : Int) < (n : Int) := by omega
              obtain ⟨a, ha⟩ : ∃ a, D[m]? = some a := ⟨_, List.getElem?_eq_getElem (by rw [H.out.n]; exact hlm)⟩
              obtain ⟨g, rfl, e0⟩ := lbAt H.out.t.b m a ha
              obtain ⟨t1, t2⟩ := M.rot_at ha
              rw [t1] at HT
              obtain ⟨k1, k2, k3, k4⟩ := HT.out.head (H.out.gf.gd d hd)
              have hin : Hid (M.inn F a = true) := hideIt (M.inn_iff.2 ⟨d, hd, k4⟩)
              have HT2 : Hid (M.Top (M.sy F a d) t (M.rot D (m + 1))) := hideIt (by
                rw [t2]
                unfold M.sy
                rw [if_pos k4]
                exact HT.out.turn (H.out.gf.gd d hd))
              replace k1 := hideIt k1
              replace k2 := hideIt k2
              have hgf := hideIt H.out.gf
              have hDn := hideIt H.out.n
              have hm0 : (0 : Int) ≤ (m : Int) := by omega
              clear ha t1 t2 k3 k4 HT
              go_wp2_with fail
              refine (pick_is H.out.t.a (pOk hd) (pPs d) hgf.out d rfl a true k1.out k2.out).mono ?_
              rintro e w3 ⟨rfl, g3⟩
              have H3 := hideIt (kp H.out.t g3)
              have e0 := g3.cell e0 (by simp)
              clear g3 H
              go_wp2_with fail
              refine (syield_is H3.out.a hgf.out a true hin.out).mono ?_
              rintro e w4 ⟨rfl, Z4, F4⟩
              have H4 := hideIt (pr H3.out Z4 F4)
              clear Z4 F4 H3 e0
              go_wp2
              go_roundg (gk - 1)
              case rel => exact ⟨m + 1, _, _, by omega, by omega, by go_num, hideIt ⟨H4.out, hgf.out.yield a, hDn.out⟩, HT2⟩
              case measure => omega
            · have hlm' : ¬ (m : Int) < (n : Int) := by omega
              obtain rfl : m = n := by omega
              have HT2 : Hid (M.Top (F d) t D) := hideIt (by
                have := HT.out
                rw [← H.out.n, M.rot_all] at this
                exact this)
              clear HT
              go_wp2
              go_roundg (G - 1)
              case rel => exact ⟨k + 1, _, _, by omega, by omega, by go_num, H, HT2⟩
              case measure => omega
        · have hlt' : ¬ (k : Int) < 2 := by omega
          have hgf := hideIt H.out.gf
          obtain ⟨a, ha⟩ : ∃ a, M.nx (F d) = a := ⟨_, rfl⟩
          replace ha := hideIt ha
          by_cases hn0 : n = 0
          · subst hn0
            have hD : D = [] := List.eq_nil_of_length_eq_zero H.out.n
            have hb : Hid (M.nb (F d) = false) := hideIt (by
              have := HT.out
              rw [hD] at this
              exact this.none)
            clear hD
            go_wp2_with fail
            refine (pick_is H.out.t.a (pOk hd) (pPs d) hgf.out d rfl a false ha.out hb.out).mono ?_
            rintro e w3 ⟨rfl, g3⟩
            have H3 := hideIt (kp H.out.t g3)
            clear g3 H
            go_wp2
            go_ret
            exact ⟨rfl, H3.out.gr⟩
          · have hn1 : 0 < n := by omega
            have hn1' : (0 : Int) < (n : Int) := by omega
            have hb : Hid (M.nb (F d) = true) := hideIt (by
              have h1 := HT.out
              have h2 := H.out.n
              cases D with
              | nil => simp at h2; omega
              | cons x L => exact h1.some (H.out.gf.gd d hd))
            clear hn0
            go_wp2_with fail
            refine (pick_is H.out.t.a (pOk hd) (pPs d) hgf.out d rfl a true ha.out hb.out).mono ?_
            rintro e w3 ⟨rfl, g3⟩
            have H3 := hideIt (kp H.out.t g3)
            clear g3 H
            go_wp2
            go_ret
            exact ⟨rfl, H3.out.gr⟩

theorem walk (x0 : Option Addr) (len0 cap0 : Nat) (a1 : Int) (w : World) (hx0 : Acts4 w x0 len0) :
    Calls Try.prog 5 #[.slice x0 len0 cap0, .int .i64 a1] w fun e w' => e = .returned (.bool true) ∧ Below w.heap.size w w' := endWalk (core x0 len0 cap0 a1 w hx0)

set_option maxRecDepth 100000 in
theorem lifted (os : Os) (started : os.Started) (H : Type) (enc : TypeId × Value → H) :
    ReturnsInHanded {} Try.checked os 5 .any (Rows.schedPicksSpec.pre6 enc Try.prog Try.f5 Rows.schedPicksRow.domain false) (Rows.schedPicksSpec.post enc Try.prog Try.f5 false true false false) := by
  refine returnsInHanded_of_change (C := Try.checked) own started (by kernel_rfl) Try.func5
    (ChangeSpec.witness6 (enc := enc) (C := Try.checked) false ⟨#[], #[.slice none 0 0, .int .i64 0], []⟩ 8 (by kernel_rfl) (by kernel_rfl) (by kernel_rfl) (by kernel_rfl)) ?_
  intro W base args ds gs before hval0 hW hcnd _
  have hval : ∀ (j : Nat) t v, Try.f5.params[j]? = some t → args[j]? = some v → Value.okWide Try.prog W .any base t v := hval0
  have hW' := hW
  obtain ⟨p, q, hA0, hV, rfl, hfz, hnd⟩ := hW
  have hA : DataW.TrodAll enc Try.prog W 0 (fun _ => true) true Try.f5.params.toList args.toList ds p := hA0
  rw [Try.params5] at hA hval
  obtain ⟨v0, vs0, d0, ds0, p0, q0, hargs, rfl, rfl, h0, r0⟩ := trodAll_cons hA
  obtain ⟨v1, vs1, d1, ds1, p1, q1, rfl, rfl, rfl, h1, r1⟩ := trodAll_cons r0
  obtain ⟨rfl, rfl, rfl⟩ := trodAll_nil r1
  obtain rfl : args = #[v0, v1] := by cases args; simp_all
  obtain ⟨rfl, rfl⟩ := trodVars_none hV
  obtain ⟨x0, len0, cap0, rfl⟩ := okWide_slice Try.underlying23 (hval 0 23 v0 rfl rfl)
  have hx0 := opsArg h0
  have k0 := h0
  have lt0 : ∀ x ∈ p0, x.block < W.heap.size := by obtain ⟨m, hm⟩ := k0; exact DataW.trod_lt m _ _ _ hm
  obtain ⟨a1, rfl, rfl, rfl, w1⟩ := open_int Try.underlying3 (hval 1 3 v1 rfl rfl) h1
  clear hA0 hval0
  refine (walk x0 len0 cap0 a1 W hx0).mono fun e W' ⟨he, bel⟩ => ?_
  subst he
  exact ⟨_, rfl, _, _, _, [], _, [], hW', trodAll_mk1 (shut_bool Try.underlying4 _), (trodAll_cons_mk (Below.trod laidOut (by kernel_rfl) (of_decide_eq_true (by kernel_rfl)) k0 bel lt0) (trodAll_cons_mk (shut_int Try.underlying3 w1) trodAll_mk0)), rfl, bel.frame _, fun h => by cases h⟩

theorem over : Rows.schedPicksRow.holds Try.pinned (OpenSpec.ofChange Rows.schedPicksSpec) :=
  OpenClaim.holds_of_wide 5 Try.f5 rfl rfl rfl rfl rfl rfl rfl ⟨rfl, rfl, rfl, rfl, rfl⟩ rfl rfl rfl rfl rfl (by kernel_rfl) Try.func5 (by kernel_rfl)
    (of_decide_eq_true (by kernel_rfl)) (by unfold Func.isWrapper; first | (rw [if_pos (by decide +kernel)]; kernel_rfl) | (rw [if_neg (by decide +kernel)]; exact ⟨rfl, rfl⟩))
    (fun os started H enc _ => lifted os started H enc)

theorem proved : Rows.SchedPicksSaid := over
end Go.Proofs.Ytpacgdplbddclaa.schedPicks
namespace Go.Proofs.Ytpacgdplbddclaa
theorem schedPicks_holds : Rows.SchedPicksSaid := schedPicks.proved
#print axioms schedPicks_holds
end Go.Proofs.Ytpacgdplbddclaa
