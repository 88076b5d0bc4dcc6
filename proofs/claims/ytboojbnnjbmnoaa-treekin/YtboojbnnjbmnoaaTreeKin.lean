/- TreeKin: whatever slots come, as roots and as children: no slot is of its own kin, and a slot is of another one's kin just if its parents, one by one, lead there; no condition. -/
import Derived.Test.YtboojbnnjbmnoaaGrow
import Derived.Deep.Cut
import Derived.Deep.DeepCutAuto
import Derived.Test.YtboojbnnjbmnoaaArgs
import Derived.ProofKit
import Derived.OpenShut
import Derived.ShutString
import Derived.ChangeOld
import Derived.Below
import Derived.Deep.Slices
namespace Go.Proofs.Ytboojbnnjbmnoaa.treeKin
open Go.ChangeShapes Go.WideShapes Go.ChangeAt Go.RowKit
set_option linter.unusedVariables false

theorem own : ownKnob Try.prog.godebug = none := by kernel_rfl
theorem laidOut : laidOutB Try.prog = true := by kernel_rfl

set_option maxRecDepth 10000 in
set_option maxHeartbeats 4000000 in
theorem core (xo : Option Addr) (len cap : Nat) (w : World) (HX : Hid (∀ i, i < len → ∃ x k m n s t, xo = some x ∧ El5 w (x.add (i * 5)) k m n s t ∧ Op5 m n s t)) :
    Calls Try.prog 4 #[.slice xo len cap] w fun e w' => e = .returned (.bool true) ∧ w.grownBy w' none := by
  have qe := eqGuardSlots
  have qq := run_eql_slots
  go_enter Try.func4, Try.ntmps4
  go_wp2_with fail
  refine (works_is _).mono ?_
  rintro _ w1 ⟨rfl, g1⟩
  go_wp2_with fail
  refine (new_own g1).mono ?_
  rintro _ w2 ⟨p, O, rfl, A2, _, _⟩
  have HG2 : Hid (G9 w w2 p (.slice none 0 0) .nil []) := hideIt ⟨⟨O, A2, fun g e => (nomatch e)⟩, Lst.nil _ _, by simp, by simp [Fo.pre]⟩
  clear A2 g1
  go_wp2
  go_loopg [4, 5] 40 (fun y vin i wr => ∃ (j : Nat) (f : Fo) (I : List (Int × Int)), j + y = 40 ∧ i = .int .i64 j ∧ Hid (I.length ≤ j) ∧ Hid (G9 w wr p vin f I))
  case atStart => exact ⟨0, .nil, [], by omega, rfl, hideIt (by simp), HG2⟩
  case round =>
    obtain ⟨j, f, I, hj, rfl, HL, HG⟩ := hrel
    by_cases hlt : j < len ∧ j < 40
    · obtain ⟨hlt, hlt2⟩ := hlt
      have hlt' : (j : Int) < (len : Int) := by omega
      have hlt2' : (j : Int) < 40 := by omega
      obtain ⟨x, k, a, b, c, d, rfl, E0, ⟨ia, ib, ic, id⟩⟩ := HX.out j hlt
      obtain ⟨e0, e1, e2, e3, e4⟩ := E0.kept HG.out.gr
      clear E0
      go_upto_region 9 with fail
      obtain ⟨W, hW, BX, gW⟩ := oboxNew wr k a b c d
      rw [hW]
      clear hW e0 e1 e2 e3 e4
      obtain ⟨O, h1, h2⟩ := HG.out.own
      have hxO : ¬ O wr.heap.size := fun e => absurd (h1.lo _ e).2 (Nat.lt_irrefl _)
      have H1 := hideIt (h1.kept gW)
      have H2 := hideIt h2
      have HLs := hideIt (HG.out.lst.kept gW)
      have hfl : Hid (f.len ≤ 1000) := hideIt (by rw [HG.out.len]; have := HL.out; omega)
      have HND := hideIt HG.out.nd
      have HME := hideIt HG.out.mem
      have HGW := hideIt (HG.out.kept gW)
      have b0 := BX.at0
      have b1 := BX.at1
      have b2 := BX.at2
      have b3 := BX.at3
      have b4 := BX.at4
      clear h1 h2
      by_cases k0 : k = 0
      · have hk0 : (k == 0) = true := by simp [k0]
        have hk1 : (k == 1) = false := by simp [k0]
        clear k0
        cases hs : f.has (a, b) with
        | true =>
          have HE := hideIt (rootE_yes hs)
          go_wp2_with fail
          refine (root_own H1.out a b 4 ia ib hfl.out HE.out.1).mono ?_
          rintro _ w3 ⟨rfl, A3, F3⟩
          have B3 := G9.after H1.out H2.out HLs.out BX hxO A3 F3
          have HG3 := hideIt (B3.back HE.out.2 HND.out HME.out)
          clear b0 b1 b2 b3 b4
          have b0 := B3.box.at0
          clear A3 F3 B3
          go_wp2
          go_roundg (gk - 1)
          case rel => exact ⟨j + 1, f, I, by omega, by go_num, hideIt (by have := HL.out; omega), HG3⟩
          case measure => omega
        | false =>
          have HE := hideIt (rootE_no hs)
          have HM := hideIt (mem_root HND.out HME.out hs)
          go_wp2_with fail
          refine (root_own H1.out a b 0 ia ib hfl.out HE.out).mono ?_
          rintro _ w3 ⟨rfl, A3, F3⟩
          have B3 := G9.after H1.out H2.out HLs.out BX hxO A3 F3
          clear b0 b1 b2 b3 b4
          clear A3 F3
          have HB := hideIt B3
          have q1 := HB.out.box.at1
          have q2 := HB.out.box.at2
          have ga := gbAlloc w3 (.cells #[.int .i64 a, .int .i64 b] 31) none
          have HKL : Hid (Lst (w3.alloc (.cells #[.int .i64 a, .int .i64 b] 31)) w.heap.size u4 I) := hideIt (HB.out.lst.kept ga)
          have HR1 : Hid (Row (w3.alloc (.cells #[.int .i64 a, .int .i64 b] 31)) ⟨w3.heap.size, 0, none⟩ [(a, b)]) := hideIt (rowOne w3 a b)
          have hB : Hid (w.heap.size ≤ (w3.alloc (.cells #[.int .i64 a, .int .i64 b] 31)).heap.size) := hideIt (by have := HB.out.own.gr.size; simp; omega)
          have hdl2 : Hid (I.length + 1 ≤ 1000000) := hideIt (by have := HL.out; omega)
          have HMm := hideIt HM.out
          clear B3
          go_wp2_with (at_builtin; refine wpList_append_slot_at rfl (.tmp 38) (.tmp 41) rfl w.heap.size u4 I rfl HKL.out ⟨w3.heap.size, 0, none⟩ 1 1 [(a, b)] rfl rfl HR1.out hdl2.out hB.out ?_; intro v4 w4 l4 g4 o4; have HG4 : Hid (G9 w w4 p v4 _ (I ++ [(a, b)])) := hideIt (G9.app HB.out.own HB.out.far HB.out.lst HMm.out.1 HMm.out.2 l4 g4 o4); clear l4 g4 o4)
          go_roundg (gk - 1)
          case rel => exact ⟨j + 1, _, _, by omega, by go_num, hideIt (by have := HL.out; simp; omega), HG4⟩
          case measure => omega
      · by_cases k1 : k = 1
        · have hk0 : (k == 0) = false := by simp [k1]
          have hk1 : (k == 1) = true := by simp [k1]
          clear k0 k1
          rcases childE_cases f (a, b) (c, d) with ⟨he, ho, hs⟩ | ⟨e, he, hz, hf⟩
          · have HE := hideIt he
            have HM := hideIt (mem_child HND.out HME.out ho hs)
            go_wp2_with fail
            refine (child_own H1.out a b c d 0 ia ib ic id hfl.out HE.out).mono ?_
            rintro _ w3 ⟨rfl, A3, F3⟩
            have B3 := G9.after H1.out H2.out HLs.out BX hxO A3 F3
            clear b0 b1 b2 b3 b4
            clear A3 F3
            have HB := hideIt B3
            have q3 := HB.out.box.at3
            have q4 := HB.out.box.at4
            have ga := gbAlloc w3 (.cells #[.int .i64 c, .int .i64 d] 31) none
            have HKL : Hid (Lst (w3.alloc (.cells #[.int .i64 c, .int .i64 d] 31)) w.heap.size u4 I) := hideIt (HB.out.lst.kept ga)
            have HR1 : Hid (Row (w3.alloc (.cells #[.int .i64 c, .int .i64 d] 31)) ⟨w3.heap.size, 0, none⟩ [(c, d)]) := hideIt (rowOne w3 c d)
            have hB : Hid (w.heap.size ≤ (w3.alloc (.cells #[.int .i64 c, .int .i64 d] 31)).heap.size) := hideIt (by have := HB.out.own.gr.size; simp; omega)
            have hdl2 : Hid (I.length + 1 ≤ 1000000) := hideIt (by have := HL.out; omega)
            have HMm := hideIt HM.out
            clear B3
            go_wp2_with (at_builtin; refine wpList_append_slot_at rfl (.tmp 52) (.tmp 55) rfl w.heap.size u4 I rfl HKL.out ⟨w3.heap.size, 0, none⟩ 1 1 [(c, d)] rfl rfl HR1.out hdl2.out hB.out ?_; intro v4 w4 l4 g4 o4; have HG4 : Hid (G9 w w4 p v4 _ (I ++ [(c, d)])) := hideIt (G9.app HB.out.own HB.out.far HB.out.lst HMm.out.1 HMm.out.2 l4 g4 o4); clear l4 g4 o4)
            go_roundg (gk - 1)
            case rel => exact ⟨j + 1, _, _, by omega, by go_num, hideIt (by have := HL.out; simp; omega), HG4⟩
            case measure => omega
          · have HE := hideIt he
            have HFe := hideIt hf
            go_wp2_with fail
            refine (child_own H1.out a b c d e ia ib ic id hfl.out HE.out).mono ?_
            rintro _ w3 ⟨rfl, A3, F3⟩
            have B3 := G9.after H1.out H2.out HLs.out BX hxO A3 F3
            have HG3 := hideIt (B3.back HFe.out HND.out HME.out)
            clear b0 b1 b2 b3 b4 A3 F3 B3
            go_wp2
            go_roundg (gk - 1)
            case rel => exact ⟨j + 1, f, I, by omega, by go_num, hideIt (by have := HL.out; omega), HG3⟩
            case measure => omega
        · have hk0 : (k == 0) = false := by simp [k0]
          have hk1 : (k == 1) = false := by simp [k1]
          clear k0 k1
          go_wp2
          go_roundg (gk - 1)
          case rel => exact ⟨j + 1, f, I, by omega, by go_num, hideIt (by have := HL.out; omega), HGW⟩
          case measure => omega
    · obtain ⟨n, hn⟩ : ∃ n, I.length = n := ⟨_, rfl⟩
      have hn40 : n ≤ 40 := by have := HL.out; omega
      obtain ⟨xi, ci, hvin, _, hrow⟩ := HG.out.lst.src hn
      subst hvin
      obtain ⟨O, h1, h2⟩ := HG.out.own
      have HOwn := hideIt h1
      have HRow := hideIt hrow
      have HNl := hideIt hn
      have hlenf : Hid (f.len = n) := hideIt (HG.out.len.trans hn)
      have HND := hideIt HG.out.nd
      have HME := hideIt HG.out.mem
      clear hn hrow h1 h2
      go_upto_region 6 with fail
      go_cut [22] (fun s wc => s = .bool false ∧ wc = wr)
      case first =>
        by_cases k1 : (j : Int) < (len : Int)
        · have k2 : ¬ (j : Int) < 40 := by omega
          go_wp2
          go_meet
          exact ⟨rfl, rfl⟩
        · go_wp2
          go_meet
          exact ⟨rfl, rfl⟩
      case rest =>
      obtain ⟨rfl, rfl⟩ := hcut
      have hlt0 := hlt
      clear hlt hj HL hlt0
      obtain ⟨wo, hwo⟩ : ∃ wo, wo = wc := ⟨_, rfl⟩
      subst hwo
      go_wp2_with fail
      refine (len_is HOwn.out.tat n hlenf.out).mono ?_
      rintro _ wl ⟨rfl, hwl⟩
      subst hwl
      go_wp2
      go_loopg [7] n (fun y i wr => ∃ c : Nat, c + y = n ∧ i = .int .i64 c ∧ wl.grownBy wr none)
      case atStart => exact ⟨0, by omega, rfl, gbRefl _ _⟩
      case round =>
        obtain ⟨c, hc, rfl, gw⟩ := hrel
        by_cases hcn : c < n
        · have hcn' : (c : Int) < (n : Int) := by omega
          obtain ⟨⟨a, b⟩, hab⟩ : ∃ q, I[c]? = some q := ⟨_, List.getElem?_eq_getElem (by rw [HNl.out]; exact hcn)⟩
          have hin : (a, b) ∈ f.pre := (HME.out _).1 (List.mem_of_getElem? hab)
          obtain ⟨ia, ib⟩ := HOwn.out.good.num _ hin
          simp only at ia ib
          obtain ⟨ad, rfl⟩ : ∃ ad, xi = some ad := by
            cases xi with
            | some ad => exact ⟨ad, rfl⟩
            | none =>
              have h0 := HG.out.lst.form
              rcases h0 with ⟨e, e2⟩ | ⟨_, _, e, _⟩
              · have := HNl.out; rw [e2] at this; simp at this; omega
              · cases e
          have HR := hideIt (HRow.out ad rfl)
          have Hab := hideIt hab
          have E := (HR.out.kept gw) c _ hab
          simp only at E
          have e0 := E.at0
          have e1 := E.at1
          have hfl : Hid (f.len ≤ 1000) := hideIt (by rw [hlenf.out]; omega)
          clear hab E
          go_wp2_with fail
          refine (kin_is (HOwn.out.kept gw).tat HOwn.out.good a b ia ib hfl.out _ rfl).mono ?_
          rintro _ w5 ⟨vk, rfl, lk, g5⟩
          obtain ⟨L, hL⟩ : ∃ L, f.kin (a, b) = L := ⟨_, rfl⟩
          rw [hL] at lk
          obtain ⟨m, hm⟩ : ∃ m, L.length = m := ⟨_, rfl⟩
          obtain ⟨xk, ck, hvk, _, hrowk⟩ := lk.src hm
          subst hvk
          have HLk := hideIt hL
          have HRk := hideIt hrowk
          have HMk := hideIt hm
          have hm40 : m ≤ 40 := by
            have := Fo.kin_len (f := f) (a, b)
            rw [hL, hm, hlenf.out] at this
            omega
          have hno : Hid (xk = none → m = 0) := hideIt (fun e => by
            subst e
            rcases lk.form with ⟨e, e2⟩ | ⟨_, _, e, _⟩
            · rw [← hm, e2]; rfl
            · cases e)
          have G5 := gbTrans gw g5
          have Hlead : Hid (∀ x : Int × Int, M.lead f 60 x (a, b) = decide (x ∈ L)) := hideIt (fun x => by rw [Fo.lead_is HOwn.out.good.nd (by rw [hlenf.out]; omega), hL])
          have HOut := hideIt (show c + gk = n from hc)
          obtain ⟨Gk, hGk⟩ : ∃ Gk, Gk = gk := ⟨_, rfl⟩
          subst hGk
          clear lk hL hm hrowk e0 e1 hc
          go_wp2
          go_loopg [9, 10] n (fun y cn i wr => ∃ k t : Nat, k + y = n ∧ i = .int .i64 k ∧ cn = .int .i64 t ∧ Hid (t = M.cnt I L k) ∧ w5.grownBy wr none)
          case atStart => exact ⟨0, 0, by omega, rfl, rfl, hideIt rfl, gbRefl _ _⟩
          case round =>
            obtain ⟨k, t, hk, rfl, rfl, HT, g6⟩ := hrel
            by_cases hkn : k < n
            · have hkn' : (k : Int) < (n : Int) := by omega
              obtain ⟨⟨a2, b2⟩, hab2⟩ : ∃ q, I[k]? = some q := ⟨_, List.getElem?_eq_getElem (by rw [HNl.out]; exact hkn)⟩
              have hin2 : (a2, b2) ∈ f.pre := (HME.out _).1 (List.mem_of_getElem? hab2)
              obtain ⟨ia2, ib2⟩ := HOwn.out.good.num _ hin2
              simp only at ia2 ib2
              have G6 := gbTrans G5 g6
              have E := fun y : Gr wr => (HR.out.kept (gbTrans G6 y.g)) c _ Hab.out
              have E2 := fun y : Gr wr => (HR.out.kept (gbTrans G6 y.g)) k _ hab2
              simp only at E E2
              have e0 := fun y => (E y).at0
              have e1 := fun y => (E y).at1
              have e2 := fun y => (E2 y).at0
              have e3 := fun y => (E2 y).at1
              obtain ⟨v, hv⟩ : ∃ v, decide ((a2, b2) ∈ L) = v := ⟨_, rfl⟩
              have HI : ∀ y : Gr wr, Calls Try.prog 15 #[.pointer (some ⟨p, 0, none⟩), sv a2 b2, sv a b] y.w fun e w' => e = .returned (.bool v) ∧ y.w.grownBy w' none := fun y => leads_core (hideIt (HOwn.out.kept (gbTrans G6 y.g)).tat) (hideIt HOwn.out.good) a2 b2 a b ia2 ib2 v (hideIt ((Hlead.out _).trans hv))
              have HC : Hid (M.cnt I L (k + 1) = M.cnt I L k + if v then 1 else 0) := hideIt (by rw [← hv]; exact M.cnt_succ hab2)
              have ht40 : t ≤ 40 := by have := HT.out; have := M.cnt_le I L k; omega
              clear hab2 E E2 hv hin2
              go_wp2
              refine wp_region_grown (by kernel_rfl) (by kernel_rfl) fun _ => ?_
              repeat (go_big_quiet_step ((go_at_call 15; with_reducible exact callsGr (HI _))))
              refine wpQuiet_nil ?_
              rintro w7 ⟨⟨_, g7⟩, rfl⟩
              clear e0 e1 e2 e3 HI
              cases v
              · go_wp2
                go_roundg (gk - 1)
                case rel => exact ⟨k + 1, t, by omega, by go_num, rfl, hideIt (by rw [HC.out, HT.out]; rfl), gbTrans g6 g7⟩
                case measure => omega
              · go_wp2
                go_roundg (gk - 1)
                case rel => exact ⟨k + 1, t + 1, by omega, by go_num, by go_num, hideIt (by rw [HC.out, HT.out]; rfl), gbTrans g6 g7⟩
                case measure => omega
            · have hkn' : ¬ (k : Int) < (n : Int) := by omega
              have HTm : Hid (t = m) := hideIt (by
                have h1 : k = I.length := by have := HNl.out; omega
                have h2 := HT.out
                rw [h1] at h2
                rw [h2, ← HMk.out, ← HLk.out]
                exact M.cnt_all HND.out (Fo.kin_nodup _ HOwn.out.good.nd) (fun x hx => (HME.out x).2 (Fo.kin_in hx)))
              have htm := HTm.out
              subst htm
              have G6 := gbTrans G5 g6
              obtain ⟨w8, hw8⟩ : ∃ w8, w8 = wr := ⟨_, rfl⟩
              subst hw8
              clear HT hk
              go_wp2
              go_loopg [11] t (fun y i wr => ∃ k : Nat, k + y = t ∧ i = .int .i64 k ∧ w8.grownBy wr none)
              case atStart => exact ⟨0, by omega, rfl, gbRefl _ _⟩
              case round =>
                obtain ⟨k, hk, rfl, g9⟩ := hrel
                have G9' := gbTrans G6 g9
                by_cases hkm : k < t
                · have hkm' : (k : Int) < (t : Int) := by omega
                  obtain ⟨⟨a2, b2⟩, hab2⟩ : ∃ q, L[k]? = some q := ⟨_, List.getElem?_eq_getElem (by rw [HMk.out]; exact hkm)⟩
                  have hinL : (a2, b2) ∈ L := List.mem_of_getElem? hab2
                  have hinK : (a2, b2) ∈ f.kin (a, b) := by rw [HLk.out]; exact hinL
                  obtain ⟨ia2, ib2⟩ := HOwn.out.good.num _ (Fo.kin_in hinK)
                  simp only at ia2 ib2
                  have hsq : M.seq a2 b2 a b = false := M.seq_not.2 (fun e => Fo.kin_self HOwn.out.good.nd (e ▸ hinK))
                  obtain ⟨ak, rfl⟩ : ∃ ak, xk = some ak := by
                    cases xk with
                    | some ak => exact ⟨ak, rfl⟩
                    | none => have := hno.out rfl; omega
                  have E := fun y : Gr wr => (HR.out.kept (gbTrans G9' y.g)) c _ Hab.out
                  have E2 := fun y : Gr wr => ((HRk.out ak rfl).kept (gbTrans (gbTrans g6 g9) y.g)) k _ hab2
                  simp only at E E2
                  have e0 := fun y => (E y).at0
                  have e1 := fun y => (E y).at1
                  have e2 := fun y => (E2 y).at0
                  have e3 := fun y => (E2 y).at1
                  have HI : ∀ y : Gr wr, Calls Try.prog 15 #[.pointer (some ⟨p, 0, none⟩), sv a2 b2, sv a b] y.w fun e w' => e = .returned (.bool true) ∧ y.w.grownBy w' none := fun y => leads_core (hideIt (HOwn.out.kept (gbTrans G9' y.g)).tat) (hideIt HOwn.out.good) a2 b2 a b ia2 ib2 true (hideIt ((Hlead.out _).trans (decide_eq_true hinL)))
                  clear hab2 E E2 hinK hinL
                  go_wp2
                  refine wp_region_grown (by kernel_rfl) (by kernel_rfl) fun _ => ?_
                  repeat (go_big_quiet_step ((go_at_call 15; with_reducible exact callsGr (HI _))))
                  refine wpQuiet_nil ?_
                  rintro w10 ⟨⟨_, g10⟩, rfl⟩
                  clear e0 e1 e2 e3 HI
                  go_wp2
                  go_roundg (gk - 1)
                  case rel => exact ⟨k + 1, by omega, by go_num, gbTrans g9 g10⟩
                  case measure => omega
                · have hkm' : ¬ (k : Int) < (t : Int) := by omega
                  have hc := HOut.out
                  go_wp2
                  go_roundg (Gk - 1)
                  case rel => exact ⟨c + 1, by omega, by go_num, G9'⟩
                  case measure => omega
        · have hcn' : ¬ (c : Int) < (n : Int) := by omega
          go_wp2
          go_ret
          exact ⟨rfl, gbTrans HOwn.out.gr gw⟩

theorem walk (xo : Option Addr) (len cap : Nat) (w : World) (hx : ∀ i, i < len → ∃ x k m n s t, xo = some x ∧ El5 w (x.add (i * 5)) k m n s t ∧ Op5 m n s t) :
    Calls Try.prog 4 #[.slice xo len cap] w fun e w' => e = .returned (.bool true) ∧ Below w.heap.size w w' :=
  (core xo len cap w (hideIt hx)).mono fun _ _ ⟨h1, h2⟩ => ⟨h1, gbEnd h2⟩

set_option maxRecDepth 100000 in
theorem lifted (os : Os) (started : os.Started) (H : Type) (enc : TypeId × Value → H) :
    ReturnsInHanded {} Try.checked os 4 .any (Rows.treeKinSpec.pre6 enc Try.prog Try.f4 Rows.treeKinRow.domain false) (Rows.treeKinSpec.post enc Try.prog Try.f4 false true false false) := by
  refine returnsInHanded_of_change (C := Try.checked) own started (by kernel_rfl) Try.func4
    (ChangeSpec.witness6 (enc := enc) (C := Try.checked) false ⟨#[], #[.slice none 0 0], []⟩ 8 (by kernel_rfl) (by kernel_rfl) (by kernel_rfl) (by kernel_rfl)) ?_
  intro W base args ds gs before hval0 hW hcnd _
  have hval : ∀ (j : Nat) t v, Try.f4.params[j]? = some t → args[j]? = some v → Value.okWide Try.prog W .any base t v := hval0
  have hW' := hW
  obtain ⟨p, q, hA0, hV, rfl, hfz, hnd⟩ := hW
  have hA : DataW.TrodAll enc Try.prog W 0 (fun _ => true) true Try.f4.params.toList args.toList ds p := hA0
  rw [Try.params4] at hA hval
  obtain ⟨v0, vs0, d0, ds0, p0, q0, hargs, rfl, rfl, h0, r0⟩ := trodAll_cons hA
  obtain ⟨rfl, rfl, rfl⟩ := trodAll_nil r0
  obtain rfl : args = #[v0] := by cases args; simp_all
  obtain ⟨rfl, rfl⟩ := trodVars_none hV
  obtain ⟨x0, len0, cap0, rfl⟩ := okWide_slice Try.underlying22 (hval 0 22 v0 rfl rfl)
  have hx0 := opsArg h0
  have k0 := h0
  have lt0 : ∀ x ∈ p0, x.block < W.heap.size := by obtain ⟨m, hm⟩ := k0; exact DataW.trod_lt m _ _ _ hm
  clear hA0 hval0
  refine (walk x0 len0 cap0 W hx0).mono fun e W' ⟨he, bel⟩ => ?_
  subst he
  exact ⟨_, rfl, _, _, _, [], _, [], hW', trodAll_mk1 (shut_bool Try.underlying4 _), (trodAll_cons_mk (Below.trod laidOut (by kernel_rfl) (of_decide_eq_true (by kernel_rfl)) k0 bel lt0) trodAll_mk0), rfl, bel.frame _, fun h => by cases h⟩

theorem over : Rows.treeKinRow.holds Try.pinned (OpenSpec.ofChange Rows.treeKinSpec) :=
  OpenClaim.holds_of_wide 4 Try.f4 rfl rfl rfl rfl rfl rfl rfl ⟨rfl, rfl, rfl, rfl, rfl⟩ rfl rfl rfl rfl rfl (by kernel_rfl) Try.func4 (by kernel_rfl)
    (of_decide_eq_true (by kernel_rfl)) (by unfold Func.isWrapper; first | (rw [if_pos (by decide +kernel)]; kernel_rfl) | (rw [if_neg (by decide +kernel)]; exact ⟨rfl, rfl⟩))
    (fun os started H enc _ => lifted os started H enc)

theorem proved : Rows.TreeKinSaid := over
end Go.Proofs.Ytboojbnnjbmnoaa.treeKin
namespace Go.Proofs.Ytboojbnnjbmnoaa
theorem treeKin_holds : Rows.TreeKinSaid := treeKin.proved
#print axioms treeKin_holds
end Go.Proofs.Ytboojbnnjbmnoaa
