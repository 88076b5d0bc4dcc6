/- EndpointMeets: for every list of acts, and every fate of the machine, the call ends and answers true: each that waits is met once, in the order in which they came, by one of the other side; nobody meets who has been met, or waits no longer. No condition beyond the statement's own. -/
import Derived.Test.YtenljiciiocagaaMts
import Derived.Deep.Cut
import Derived.Deep.DeepCutAuto
import Derived.Deep.CutBlock
import Derived.Deep.RegionHeld3
import Derived.Test.YtenljiciiocagaaArgs
import Derived.ProofKit
import Derived.OpenShut
import Derived.ShutString
import Derived.ChangeOld
import Derived.Below
import Derived.Deep.Slices
namespace Go.Proofs.Ytenljiciiocagaa.endpointMeets
open Go.ChangeShapes Go.WideShapes Go.ChangeAt Go.RowKit
set_option linter.unusedVariables false

theorem own : ownKnob Try.prog.godebug = none := by kernel_rfl
theorem laidOut : laidOutB Try.prog = true := by kernel_rfl

abbrev LQ (v : Value) (I : List Q) : World → (Nat → Prop) → Prop := LB eQ 30 3 v I
/-- An endpoint, and the list of the acts of those that wait. -/
abbrev TQ (w0 w : World) (P R : Nat → Prop) (p : Nat) (k : Int) (L : List Int) (v : Value) (I : List Q) : Prop := Tw (fun w O => PA w O p k L) (LQ v I) w0 w P R
theorem qt {w0 w w' : World} {P R : Nat → Prop} {p : Nat} {k k' : Int} {L L' : List Int} {v : Value} {I : List Q} (h : TQ w0 w P R p k L v I) (T : PA w' (wide P w w') p k' L') (f : Fr P w w') : TQ w0 w' (wide P w w') R p k' L' v I := Tw.prog (A' := fun w O => PA w O p k' L') (kLB eQ 30 3 v I) h T f
theorem qk {w0 w w' : World} {P R : Nat → Prop} {p : Nat} {k : Int} {L : List Int} {v : Value} {I : List Q} (h : TQ w0 w P R p k L v I) (g : w.grownBy w' none) : TQ w0 w' P R p k L v I := Tw.kept (kPA p k L) (kLB eQ 30 3 v I) h g
structure Ms (w0 w : World) (P R : Nat → Prop) (p : Nat) (I : List Q) (x : Option Addr) (m d : Nat) : Prop where
  t : TQ w0 w P R p (M.wk I) (M.ids I) (.slice x m d) I
  gd : M.Wd I
  len : I.length = m
/-- A list without its first one, made anew. -/
theorem runTail {w : World} {B g n cap : Nat} {q : Q} {I : List Q} (h : QL w B (.slice (some ⟨g, 0, none⟩) n cap) (q :: I)) (hn : I.length + 1 = n) (hl : n ≤ 1000) (ad : Addr) (c : Nat) (had : 1 < cap → ad = (⟨g, 3, none⟩ : Addr)) (hc : n ≤ cap) :
    ∃ x' d' w', (Builtin.append_ #[22, 22] 22 #[.slice (some ⟨w.heap.size, 0, none⟩) 0 0, .slice (some ad) (n - 1) c]).run Try.prog (w.alloc (.cells #[] 30)) = .ok (.slice x' (n - 1) d') w' ∧ QL w' w.heap.size (.slice x' (n - 1) d') I ∧ w.grownBy w' none := by
  obtain ⟨v', w', h1, h2, h3, _⟩ := run_append_q (w.alloc (.cells #[] 30)) w.heap.size (.slice (some ⟨w.heap.size, 0, none⟩) 0 0) [] (Ls.empty eQ 30 3 w) 22 (some ad) (n - 1) c I (by omega) (by simp) (by
    rintro ad' ⟨⟩ j u hu
    have hlt : 0 < I.length := by
      have := (List.getElem?_eq_some_iff.1 hu).1
      rw [cl_len encQ] at this
      omega
    obtain rfl := had (by omega)
    have := (h.kept (gbAlloc w (.cells #[] 30) none)).row encQ hn 1 I (fun j => .inr (by rw [Nat.add_comm, List.getElem?_cons_succ])) j u hu
    simpa using this) (by simp; omega) (by simp)
  obtain ⟨x', d', rfl, _⟩ := h2.arr
  have e : ([] ++ I).length = n - 1 := by simp; omega
  rw [e] at h1 h2
  exact ⟨x', d', w', h1, h2, gbNew (gbTrans (gbAny (gbAlloc _ _ _) _) h3) (Nat.le_refl _)⟩

set_option maxHeartbeats 8000000 in
set_option maxRecDepth 100000 in
theorem core (x0 : Option Addr) (len0 cap0 : Nat) (w : World) (hx0 : Acts3 w x0 len0) :
    Calls Try.prog 4 #[.slice x0 len0 cap0] w fun e w' => e = .returned (.bool true) ∧ w.grownBy w' none := by
  have HX := hideIt hx0
  clear hx0
  go_enter Try.func4, Try.ntmps4
  go_wp2_with fail
  refine (works_is w).mono ?_
  rintro e wa ⟨rfl, ga⟩
  replace ga := hideIt ga
  go_wp2_with fail
  refine (enew_is wa).mono ?_
  rintro e wb ⟨p, rfl, A1, g1⟩
  have H2 : Hid (Ms w wb (fun i => wa.heap.size ≤ i ∧ i < wb.heap.size) (fun _ => False) p [] none 0 0) := hideIt ⟨Tw.begin ⟨A1, fun i hi => by have := ga.out.size; omega, gbTrans ga.out g1⟩, M.Wd.nil, rfl⟩
  clear A1 g1 ga
  go_wp2_with fail
  go_loopg [4, 5] 100 (fun gk v i wr => ∃ (j : Nat) (P R : Nat → Prop) (I : List Q) (x : Option Addr) (m d : Nat), j + gk = 100 ∧ m ≤ j ∧ i = .int .i64 j ∧ v = .slice x m d ∧ Hid (Ms w wr P R p I x m d))
  case atStart => exact ⟨0, _, _, [], none, 0, 0, rfl, by omega, rfl, rfl, H2⟩
  case round =>
    obtain ⟨j, P, R, I, x, m, d, hj, hm, rfl, rfl, H⟩ := hrel
    clear H2
    have hmL := hideIt H.out.len
    have hids : Hid ((M.ids I).length = m) := hideIt (by rw [M.ids_len, hmL.out])
    by_cases hlt : j < len0 ∧ j < 100
    · obtain ⟨c1, c2⟩ := hlt
      obtain ⟨xa, r, rfl, hE⟩ := HX.out j c1
      have hdj : decide ((j : Int) < 100) = true := by simp; omega
      obtain ⟨r0, r1, r2⟩ := hE.kept H.out.t.gr
      clear hE
      go_upto_region 9 with fail
      obtain ⟨W, hW, Y, gY⟩ := qboxNew wr r
      rw [hW]
      clear hW r0 r1 r2
      have hyP : ¬ P wr.heap.size := fun e => by have := (H.out.t.lo _ e).2; omega
      have hyR : ¬ R wr.heap.size := fun e => by have := (H.out.t.lr _ e).2; omega
      have H0 := hideIt (qk H.out.t gY)
      have hgd := hideIt H.out.gd
      obtain ⟨y, hy⟩ : ∃ y, wr.heap.size = y := ⟨_, rfl⟩
      rw [hy] at Y hyP hyR
      rw [hy]
      clear hy gY H
      replace Y := hideIt Y
      by_cases k2 : (r.k == 2) = true
      · have k2e : r.k = 2 := by simpa using k2
        clear k2
        obtain ⟨b, hb⟩ : ∃ b, (M.ids I).contains r.i = b := ⟨_, rfl⟩
        replace hb := hideIt hb
        have r0 : W.cell? ⟨y, 0, none⟩ = some (.int .i64 2) := by rw [← k2e]; exact Y.out.at0
        have r1 := Y.out.at1
        replace k2e := hideIt k2e
        go_wp2_with fail
        refine (cancel_is H0.out.a (by rw [hids.out]; omega) hgd.out.nd r.i b hb.out).mono ?_
        rintro e w6 ⟨rfl, Z, F⟩
        rw [(hgd.out.cancel r.i).2, M.ids_lv] at Z
        have H6 := hideIt (qt H0.out Z F)
        have Y6 := hideIt (Y.out.fr F hyP)
        clear Z F r0 r1 H0 Y
        go_wp2_with fail
        go_loopg [7, 8] (m + 1) (fun gk v i wr => ∃ (c : Nat) (x' : Option Addr) (m' d' : Nat), c + gk = m + 1 ∧ c ≤ m ∧ m' ≤ c ∧ i = .int .i64 c ∧ v = .slice x' m' d' ∧ Hid (QL wr w6.heap.size (.slice x' m' d') (M.lv (I.take c) r.i) ∧ (M.lv (I.take c) r.i).length = m') ∧ w6.grownBy wr none)
        case atStart => exact ⟨0, none, 0, 0, by omega, by omega, by omega, rfl, rfl, hideIt ⟨Ls.nil _ _ _ _ _, rfl⟩, gbRefl _ _⟩
        case round =>
          obtain ⟨c, x', m', d', hc, hcm, hm', rfl, rfl, HL, gw⟩ := hrel
          by_cases hcl : c < m
          · have hcl' : (c : Int) < (m : Int) := by omega
            obtain ⟨q, ho⟩ : ∃ o, I[c]? = some o := ⟨_, List.getElem?_eq_getElem (by rw [hmL.out]; exact hcl)⟩
            have hin := H6.out.b.1
            obtain ⟨g, cap, ex, hcap, _, _, hcap2⟩ := hin.has hmL.out (by omega)
            cases ex
            obtain ⟨e0, e1, e2⟩ := QL.at (hin.kept gw) hmL.out c q ho
            have z1 := (Y6.out.kept gw).at1
            clear hin
            by_cases hk : (q.i == r.i) = true
            · have hs := hideIt (M.lv_in ho hk)
              clear ho
              go_wp2
              go_region
              go_wp2
              go_roundg (gk - 1)
              case rel => exact ⟨c + 1, x', m', d', by omega, by omega, by omega, by go_num, rfl, by rw [hs.out]; exact hideIt ⟨HL.out.1.kept (gbDrewN _ 1 none), HL.out.2⟩, gbDrew gw⟩
              case measure => omega
            · have hk : (q.i == r.i) = false := by simpa using hk
              have hs := hideIt (M.lv_out ho hk)
              clear ho
              have gd := gbDrew (gbRefl wr none)
              have e0' := gd.cell e0 (by simp)
              have e1' := gd.cell e1 (by simp)
              have e2' := gd.cell e2 (by simp)
              obtain ⟨v1, w1, hr, l1, g1, o1⟩ := run_append_q (wr.drew.alloc (.cells #[.int .i64 q.k, .int .i64 q.i, .bool q.b] 30)) w6.heap.size (.slice x' m' d') (M.lv (I.take c) r.i) ((HL.out.1.kept gd).kept (gbAlloc _ _ _)) 22 (some ⟨wr.drew.heap.size, 0, none⟩) 1 1 [q] rfl (by simp) (by rintro ad ⟨⟩; exact rowQ wr.drew q) (by rw [HL.out.2]; omega) (by have := gw.size; simp [drewHeap]; omega)
              have HF : Hid (QL w1 w6.heap.size v1 (M.lv (I.take (c + 1)) r.i) ∧ (M.lv (I.take (c + 1)) r.i).length = m' + 1) := hideIt (by
                rw [hs.out]
                exact ⟨l1, by rw [List.length_append, HL.out.2]; rfl⟩)
              obtain ⟨x1, d1, e3, _⟩ := HF.out.1.arr
              rw [HF.out.2] at e3
              subst e3
              have G1 : w6.grownBy w1 none := gbNews (gbTrans (gbAny (gbAllocN (gbTrans gw gd) _) _) g1) (fun k' hk' => (HL.out.1.lt k' hk').1)
              clear l1 g1 o1
              go_wp2
              go_region
              go_wp2_with (at_builtin; refine wpList_append_run rfl (.tmp 54) (.tmp 59) rfl (.slice x' m' d') (.slice (some ⟨wr.heap.size, 0, none⟩) 1 1) rfl rfl (.slice x1 (m' + 1) d1) w1 hr ?_)
              clear hr
              go_roundg (gk - 1)
              case rel => exact ⟨c + 1, x1, m' + 1, d1, by omega, by omega, by omega, by go_num, rfl, HF, G1⟩
              case measure => omega
          · have hcl' : ¬ (c : Int) < (m : Int) := by omega
            obtain rfl : c = m := by omega
            have HT := hideIt (List.take_of_length_le (Nat.le_of_eq hmL.out))
            rw [HT.out] at HL
            have H7 : Hid (Ms w wr _ _ p (M.lv I r.i) x' m' d') := hideIt ⟨Tw.fresh (kPA p _ _) H6.out gw HL.out.1, (hgd.out.cancel r.i).1, HL.out.2⟩
            have z0 : wr.cell? ⟨y, 0, none⟩ = some (.int .i64 2) := by rw [← k2e.out]; exact (Y6.out.kept gw).at0
            clear HT HL H6 gw hc
            go_wp2
            go_roundg (100 - (j + 1))
            case rel => exact ⟨j + 1, _, _, _, x', m', d', by omega, by omega, by go_num, rfl, H7⟩
            case measure => omega
      · have k2 : (r.k == 2) = false := by simpa using k2
        by_cases k0 : (r.k == 0) = true
        · have ke : r.k = 0 := by simpa using k0
          clear k0 k2
          replace ke := hideIt ke
          have z0 : W.cell? ⟨y, 0, none⟩ = some (.int .i64 0) := by rw [← ke.out]; exact Y.out.at0
          have z1 := Y.out.at1
          have z2 := Y.out.at2
          have sd : M.Sd r 1 2 := ⟨.inl ⟨ke.out, rfl, rfl⟩⟩
          obtain ⟨xv, hx⟩ : ∃ v, M.ex (M.wk I) (M.ids I) 2 r.i = v := ⟨_, rfl⟩
          obtain ⟨bv, hb⟩ : ∃ v, M.eb (M.wk I) (M.ids I) 2 r.i = v := ⟨_, rfl⟩
          obtain ⟨f, hf⟩ : ∃ v, M.pe (M.ids I) r.i = v := ⟨_, rfl⟩
          replace hx := hideIt hx
          replace hb := hideIt hb
          replace hf := hideIt hf
          go_wp2_with fail
          refine (send_is H0.out.a (by rw [hids.out]; omega) hgd.out.nd r.i r.b xv bv f hx.out hb.out hf.out).mono ?_
          rintro e w6 ⟨rfl, Z, F⟩
          have H6 := hideIt (qt H0.out Z F)
          have Y6 := hideIt (Y.out.fr F hyP)
          have hyP6 := wideNo (w' := w6) hyP Y.out.lt
          clear Z F z0 z1 z2 H0 Y
          by_cases f0 : (f == 0) = true
          · obtain rfl : f = 0 := by simpa using f0
            clear f0
            have z0 : w6.cell? ⟨y, 0, none⟩ = some (.int .i64 0) := by rw [← ke.out]; exact Y6.out.at0
            have gd := gbDrew (gbRefl w6 none)
            have z1' := (Y6.out.kept gd).at1
            have z0' := gd.cell z0 (by simp)
            go_upto_region 26 with fail
            by_cases hI : I = []
            · have m0 : m = 0 := by rw [← hmL.out, hI]; rfl
              have st := hideIt (hgd.out.stay sd (by rw [hI]; intro q hq; cases hq) hf.out)
              obtain rfl : false = bv := by rw [← hb.out, st.out.1]
              clear hI
              subst m0
              by_cases hrb : r.b = true
              · rw [hrb, st.out.2.1.1, st.out.2.1.2.1] at H6
                have z2 : w6.cell? ⟨y, 2, none⟩ = some (.bool true) := by rw [← hrb]; exact Y6.out.at2
                have z2' := gd.cell z2 (by simp)
                have H6d := hideIt (qk H6.out gd)
                obtain ⟨x', cap', w7, hr, H7, _⟩ := Tw.app (kPA p _ _) H6d.out hmL.out run_append_q (gbAlloc w6.drew (.cells #[.int .i64 r.k, .int .i64 r.i, .bool r.b] 30) none) ⟨w6.drew.heap.size, 0, none⟩ 1 r (rowQ w6.drew r) (by omega)
                rw [ke.out, hrb] at hr
                replace hrb := hideIt hrb
                have H8 : Hid (Ms w w7 _ _ p (I ++ [r]) x' (0 + 1) cap') := hideIt ⟨H7.out, st.out.2.1.2.2, by rw [List.length_append, hmL.out]; rfl⟩
                obtain ⟨m2, hm2⟩ : ∃ m2, 0 + 1 = m2 := ⟨_, rfl⟩
                rw [hm2] at H8 hr
                have hm2j : m2 ≤ j + 1 := by omega
                clear H6 H6d H7 st hm2
                go_wp2
                go_region
                go_wp2_with (at_builtin; refine wpList_append_run rfl (.tmp 128) (.tmp 130) rfl (.slice x 0 d) (.slice (some ⟨w6.heap.size, 0, none⟩) 1 1) rfl rfl (.slice x' m2 cap') w7 hr ?_)
                clear hr
                have hl2 := hideIt H8.out.len
                go_loopg [13] (m2 + 1) (fun gk i wr => ∃ (c : Nat), c + gk = m2 + 2 ∧ 1 ≤ c ∧ c ≤ m2 + 1 ∧ i = .int .i64 c ∧ World.grownBy w7 wr none)
                case atStart => exact ⟨1, by omega, by omega, by omega, rfl, gbRefl _ _⟩
                case round =>
                  obtain ⟨c, hc, hc1, hcm, rfl, gw⟩ := hrel
                  by_cases hcl : c < m2
                  · have hcl' : (c : Int) < ((m2 : Nat) : Int) := by omega
                    obtain ⟨q', ho⟩ : ∃ o, _ = some o := ⟨_, List.getElem?_eq_getElem (i := c) (by rw [hl2.out]; exact hcl)⟩
                    obtain ⟨q0, ho0⟩ : ∃ o, _ = some o := ⟨_, List.getElem?_eq_getElem (i := 0) (by rw [hl2.out]; omega)⟩
                    have hin := H8.out.t.b.1
                    obtain ⟨g', cap2, ex, hcap', _, _, hcap2'⟩ := hin.has hl2.out (by omega)
                    cases ex
                    obtain ⟨e0, _, _⟩ := QL.at (hin.kept gw) hl2.out c q' ho
                    obtain ⟨e1, _, _⟩ := QL.at (hin.kept gw) hl2.out 0 q0 ho0
                    rw [H8.out.gd.same ho0 ho, Nat.zero_mul] at e1
                    have hm0 : 0 < m2 := by omega
                    clear hin ho ho0
                    go_wp2
                    go_region
                    go_wp2
                    go_roundg (gk - 1)
                    case rel => exact ⟨c + 1, by omega, by omega, by omega, by go_num, gbDrew gw⟩
                    case measure => omega
                  · have hcl' : ¬ (c : Int) < ((m2 : Nat) : Int) := by omega
                    have H9 : Hid (Ms w wr _ _ p _ _ _ _) := hideIt ⟨qk H8.out.t gw, H8.out.gd, H8.out.len⟩
                    clear H8 gw
                    go_wp2
                    go_roundg (100 - (j + 1))
                    case rel => exact ⟨j + 1, _, _, _, _, _, _, by omega, by omega, by go_num, rfl, H9⟩
                    case measure => omega
              · have hrb : r.b = false := by simpa using hrb
                rw [hrb, st.out.2.2.1, st.out.2.2.2] at H6
                have z2 : w6.cell? ⟨y, 2, none⟩ = some (.bool false) := by rw [← hrb]; exact Y6.out.at2
                have z2' := gd.cell z2 (by simp)
                replace hrb := hideIt hrb
                have H7 : Hid (Ms w w6.drew (wide P W w6) R p I x 0 d) := hideIt ⟨qk H6.out gd, hgd.out, hmL.out⟩
                clear H6 st
                go_wp2
                go_region
                go_wp2
                go_loopg [13] 1 (fun gk i wr => gk = 1 ∧ i = .int .i64 1 ∧ World.grownBy w6.drew wr none)
                case atStart => exact ⟨rfl, rfl, gbRefl _ _⟩
                case round =>
                  obtain ⟨_, rfl, gw⟩ := hrel
                  have H9 : Hid (Ms w wr _ _ p _ _ _ _) := hideIt ⟨qk H7.out.t gw, H7.out.gd, H7.out.len⟩
                  clear H7 gw
                  go_wp2
                  go_roundg (100 - (j + 1))
                  case rel => exact ⟨j + 1, _, _, _, _, _, _, by omega, by omega, by go_num, rfl, H9⟩
                  case measure => omega
            · obtain ⟨q, I', rfl⟩ := List.exists_cons_of_ne_nil hI
              have hm0 : 0 < m := by have := hmL.out; simp at this; omega
              have hin := H6.out.b.1
              obtain ⟨g, cap, ex, hcap, _, _, hcap2⟩ := hin.has hmL.out hm0
              cases ex
              obtain ⟨e0, e1, _⟩ := QL.at hin hmL.out 0 q rfl
              have hq := (hgd.out.one q (List.mem_cons_self ..)).1
              clear hI hin
              by_cases hk : (q.k == r.k) = true
              · have hkq : q.k = 0 := by rw [← ke.out]; simpa using hk
                rw [hkq] at e0
                have e0' := gd.cell e0 (by simp)
                have e1' := gd.cell e1 (by simp)
                have st := hideIt (hgd.out.stay sd (by intro s hs; cases hs; simpa using hk) hf.out)
                obtain rfl : false = bv := by rw [← hb.out, st.out.1]
                clear hk hkq hq
                by_cases hrb : r.b = true
                · rw [hrb, st.out.2.1.1, st.out.2.1.2.1] at H6
                  have z2 : w6.cell? ⟨y, 2, none⟩ = some (.bool true) := by rw [← hrb]; exact Y6.out.at2
                  have z2' := gd.cell z2 (by simp)
                  have H6d := hideIt (qk H6.out gd)
                  obtain ⟨x', cap', w7, hr, H7, _⟩ := Tw.app (kPA p _ _) H6d.out hmL.out run_append_q (gbAlloc w6.drew (.cells #[.int .i64 r.k, .int .i64 r.i, .bool r.b] 30) none) ⟨w6.drew.heap.size, 0, none⟩ 1 r (rowQ w6.drew r) (by omega)
                  rw [ke.out, hrb] at hr
                  replace hrb := hideIt hrb
                  have H8 : Hid (Ms w w7 _ _ p ((q :: I') ++ [r]) x' (m + 1) cap') := hideIt ⟨H7.out, st.out.2.1.2.2, by rw [List.length_append, hmL.out]; rfl⟩
                  obtain ⟨m2, hm2⟩ : ∃ m2, m + 1 = m2 := ⟨_, rfl⟩
                  rw [hm2] at H8 hr
                  have hm2j : m2 ≤ j + 1 := by omega
                  clear H6 H6d H7 st hm2
                  go_wp2
                  go_region
                  go_wp2_with (at_builtin; refine wpList_append_run rfl (.tmp 128) (.tmp 130) rfl (.slice (some ⟨g, 0, none⟩) m d) (.slice (some ⟨w6.heap.size, 0, none⟩) 1 1) rfl rfl (.slice x' m2 cap') w7 hr ?_)
                  clear hr
                  have hl2 := hideIt H8.out.len
                  go_loopg [13] (m2 + 1) (fun gk i wr => ∃ (c : Nat), c + gk = m2 + 2 ∧ 1 ≤ c ∧ c ≤ m2 + 1 ∧ i = .int .i64 c ∧ World.grownBy w7 wr none)
                  case atStart => exact ⟨1, by omega, by omega, by omega, rfl, gbRefl _ _⟩
                  case round =>
                    obtain ⟨c, hc, hc1, hcm, rfl, gw⟩ := hrel
                    by_cases hcl : c < m2
                    · have hcl' : (c : Int) < ((m2 : Nat) : Int) := by omega
                      obtain ⟨q', ho⟩ : ∃ o, _ = some o := ⟨_, List.getElem?_eq_getElem (i := c) (by rw [hl2.out]; exact hcl)⟩
                      obtain ⟨q0, ho0⟩ : ∃ o, _ = some o := ⟨_, List.getElem?_eq_getElem (i := 0) (by rw [hl2.out]; omega)⟩
                      have hin := H8.out.t.b.1
                      obtain ⟨g', cap2, ex, hcap', _, _, hcap2'⟩ := hin.has hl2.out (by omega)
                      cases ex
                      obtain ⟨e0, _, _⟩ := QL.at (hin.kept gw) hl2.out c q' ho
                      obtain ⟨e1, _, _⟩ := QL.at (hin.kept gw) hl2.out 0 q0 ho0
                      rw [H8.out.gd.same ho0 ho, Nat.zero_mul] at e1
                      have hm0 : 0 < m2 := by omega
                      clear hin ho ho0
                      go_wp2
                      go_region
                      go_wp2
                      go_roundg (gk - 1)
                      case rel => exact ⟨c + 1, by omega, by omega, by omega, by go_num, gbDrew gw⟩
                      case measure => omega
                    · have hcl' : ¬ (c : Int) < ((m2 : Nat) : Int) := by omega
                      have H9 : Hid (Ms w wr _ _ p _ _ _ _) := hideIt ⟨qk H8.out.t gw, H8.out.gd, H8.out.len⟩
                      clear H8 gw
                      go_wp2
                      go_roundg (100 - (j + 1))
                      case rel => exact ⟨j + 1, _, _, _, _, _, _, by omega, by omega, by go_num, rfl, H9⟩
                      case measure => omega
                · have hrb : r.b = false := by simpa using hrb
                  rw [hrb, st.out.2.2.1, st.out.2.2.2] at H6
                  have z2 : w6.cell? ⟨y, 2, none⟩ = some (.bool false) := by rw [← hrb]; exact Y6.out.at2
                  have z2' := gd.cell z2 (by simp)
                  replace hrb := hideIt hrb
                  have H7 : Hid (Ms w w6.drew (wide P W w6) R p (q :: I') (some ⟨g, 0, none⟩) m d) := hideIt ⟨qk H6.out gd, hgd.out, hmL.out⟩
                  clear H6 st
                  go_wp2
                  go_region
                  go_wp2
                  have hl2 := hideIt H7.out.len
                  go_loopg [13] (m + 1) (fun gk i wr => ∃ (c : Nat), c + gk = m + 2 ∧ 1 ≤ c ∧ c ≤ m + 1 ∧ i = .int .i64 c ∧ World.grownBy w6.drew wr none)
                  case atStart => exact ⟨1, by omega, by omega, by omega, rfl, gbRefl _ _⟩
                  case round =>
                    obtain ⟨c, hc, hc1, hcm, rfl, gw⟩ := hrel
                    by_cases hcl : c < m
                    · have hcl' : (c : Int) < ((m : Nat) : Int) := by omega
                      obtain ⟨q', ho⟩ : ∃ o, _ = some o := ⟨_, List.getElem?_eq_getElem (i := c) (by rw [hl2.out]; exact hcl)⟩
                      obtain ⟨q0, ho0⟩ : ∃ o, _ = some o := ⟨_, List.getElem?_eq_getElem (i := 0) (by rw [hl2.out]; omega)⟩
                      have hin := H7.out.t.b.1
                      obtain ⟨g', cap2, ex, hcap', _, _, hcap2'⟩ := hin.has hl2.out (by omega)
                      cases ex
                      obtain ⟨e0, _, _⟩ := QL.at (hin.kept gw) hl2.out c q' ho
                      obtain ⟨e1, _, _⟩ := QL.at (hin.kept gw) hl2.out 0 q0 ho0
                      rw [H7.out.gd.same ho0 ho, Nat.zero_mul] at e1
                      have hm0 : 0 < m := by omega
                      clear hin ho ho0
                      go_wp2
                      go_region
                      go_wp2
                      go_roundg (gk - 1)
                      case rel => exact ⟨c + 1, by omega, by omega, by omega, by go_num, gbDrew gw⟩
                      case measure => omega
                    · have hcl' : ¬ (c : Int) < ((m : Nat) : Int) := by omega
                      have H9 : Hid (Ms w wr _ _ p _ _ _ _) := hideIt ⟨qk H7.out.t gw, H7.out.gd, H7.out.len⟩
                      clear H7 gw
                      go_wp2
                      go_roundg (100 - (j + 1))
                      case rel => exact ⟨j + 1, _, _, _, _, _, _, by omega, by omega, by go_num, rfl, H9⟩
                      case measure => omega
              · have hk : (q.k == r.k) = false := by simpa using hk
                have hkq : q.k = 1 := by
                  have h1 : ¬ q.k = r.k := by simpa using hk
                  rw [ke.out] at h1
                  omega
                rw [hkq] at e0
                have e0' := gd.cell e0 (by simp)
                have e1' := gd.cell e1 (by simp)
                clear hkq hq
                have mt := hideIt (hgd.out.meet sd hk hf.out r.b)
                obtain rfl : true = bv := by rw [← hb.out, mt.out.1]
                obtain rfl : q.i = xv := by rw [← hx.out, mt.out.2.1]
                rw [mt.out.2.2.1, mt.out.2.2.2.1] at H6
                have h6 := H6.out.b.1.kept gd
                have hm1 : 1 ≤ m := by omega
                have hm1' : (1 : Int) ≤ (m : Int) := by omega
                have hd1 : 1 ≤ d := by omega
                clear hk
                by_cases hc1 : 1 < d
                · have hc3 : ¬ d = 1 := by omega
                  obtain ⟨x', d', w7, hr, l7, g7⟩ := runTail h6 hmL.out (by omega) ⟨g, 3, none⟩ (d - 1) (fun _ => rfl) hcap
                  have H8 : Hid (Ms w w7 _ _ p I' x' (m - 1) d') := hideIt ⟨Tw.fresh (kPA p _ _) (qk H6.out gd) g7 l7, mt.out.2.2.2.2, by have := hmL.out; simp at this ⊢; omega⟩
                  clear H6 mt l7 g7 h6
                  go_wp2
                  go_region
                  go_wp2_with (at_builtin; refine wpList_append_run rfl (.tmp 122) (.tmp 124) rfl (.slice (some ⟨w6.heap.size, 0, none⟩) 0 0) (.slice (some ⟨g, 3, none⟩) (m - 1) (d - 1)) rfl (by simp [Act.eval]) _ w7 hr ?_)
                  clear hr
                  obtain ⟨m2, hm2⟩ : ∃ m2, m - 1 = m2 := ⟨_, rfl⟩
                  rw [hm2] at H8
                  rw [hm2]
                  have hm2j : m2 ≤ j + 1 := by omega
                  clear hm2
                  have hl2 := hideIt H8.out.len
                  go_loopg [13] (m2 + 1) (fun gk i wr => ∃ (c : Nat), c + gk = m2 + 2 ∧ 1 ≤ c ∧ c ≤ m2 + 1 ∧ i = .int .i64 c ∧ World.grownBy w7 wr none)
                  case atStart => exact ⟨1, by omega, by omega, by omega, rfl, gbRefl _ _⟩
                  case round =>
                    obtain ⟨c, hc, hc1, hcm, rfl, gw⟩ := hrel
                    by_cases hcl : c < m2
                    · have hcl' : (c : Int) < ((m2 : Nat) : Int) := by omega
                      obtain ⟨q', ho⟩ : ∃ o, _ = some o := ⟨_, List.getElem?_eq_getElem (i := c) (by rw [hl2.out]; exact hcl)⟩
                      obtain ⟨q0, ho0⟩ : ∃ o, _ = some o := ⟨_, List.getElem?_eq_getElem (i := 0) (by rw [hl2.out]; omega)⟩
                      have hin := H8.out.t.b.1
                      obtain ⟨g', cap2, ex, hcap', _, _, hcap2'⟩ := hin.has hl2.out (by omega)
                      cases ex
                      obtain ⟨e0, _, _⟩ := QL.at (hin.kept gw) hl2.out c q' ho
                      obtain ⟨e1, _, _⟩ := QL.at (hin.kept gw) hl2.out 0 q0 ho0
                      rw [H8.out.gd.same ho0 ho, Nat.zero_mul] at e1
                      have hm0 : 0 < m2 := by omega
                      clear hin ho ho0
                      go_wp2
                      go_region
                      go_wp2
                      go_roundg (gk - 1)
                      case rel => exact ⟨c + 1, by omega, by omega, by omega, by go_num, gbDrew gw⟩
                      case measure => omega
                    · have hcl' : ¬ (c : Int) < ((m2 : Nat) : Int) := by omega
                      have H9 : Hid (Ms w wr _ _ p _ _ _ _) := hideIt ⟨qk H8.out.t gw, H8.out.gd, H8.out.len⟩
                      clear H8 gw
                      go_wp2
                      go_roundg (100 - (j + 1))
                      case rel => exact ⟨j + 1, _, _, _, _, _, _, by omega, by omega, by go_num, rfl, H9⟩
                      case measure => omega
                · obtain rfl : d = 1 := by omega
                  obtain rfl : m = 1 := by omega
                  obtain ⟨x', d', w7, hr, l7, g7⟩ := runTail h6 hmL.out (by omega) ⟨g, 0, none⟩ (1 - 1) (fun h => absurd h (by decide)) hcap
                  have H8 : Hid (Ms w w7 _ _ p I' x' (1 - 1) d') := hideIt ⟨Tw.fresh (kPA p _ _) (qk H6.out gd) g7 l7, mt.out.2.2.2.2, by have := hmL.out; simp at this ⊢; omega⟩
                  clear H6 mt l7 g7 h6
                  go_wp2
                  go_region
                  go_wp2_with (at_builtin; refine wpList_append_run rfl (.tmp 122) (.tmp 124) rfl (.slice (some ⟨w6.heap.size, 0, none⟩) 0 0) (.slice (some ⟨g, 0, none⟩) (1 - 1) (1 - 1)) rfl (by simp [Act.eval]) _ w7 hr ?_)
                  clear hr
                  go_loopg [13] 1 (fun gk i wr => gk = 1 ∧ i = .int .i64 1 ∧ World.grownBy w7 wr none)
                  case atStart => exact ⟨rfl, rfl, gbRefl _ _⟩
                  case round =>
                    obtain ⟨_, rfl, gw⟩ := hrel
                    have H9 : Hid (Ms w wr _ _ p _ _ _ _) := hideIt ⟨qk H8.out.t gw, H8.out.gd, H8.out.len⟩
                    clear H8 gw
                    go_wp2
                    go_roundg (100 - (j + 1))
                    case rel => exact ⟨j + 1, _, _, _, _, _, _, by omega, by omega, by go_num, rfl, H9⟩
                    case measure => omega
          · have f0 : (f == 0) = false := by simpa using f0
            have hn := M.Wd.no (I := I) (a := r.i) (o := 2) (t := 1) (wt := r.b) (by rw [hf.out]; simpa using f0)
            rw [hn.1, hn.2] at H6
            have H7 : Hid (Ms w w6 (wide P W w6) R p I x m d) := hideIt ⟨H6.out, hgd.out, hmL.out⟩
            clear hn H6
            go_wp2
            go_roundg (gk - 1)
            case rel => exact ⟨j + 1, _, _, I, x, m, d, by omega, by omega, by go_num, rfl, H7⟩
            case measure => omega
        · have k0 : (r.k == 0) = false := by simpa using k0
          by_cases k1 : (r.k == 1) = true
          · have ke : r.k = 1 := by simpa using k1
            clear k0 k1 k2
            replace ke := hideIt ke
            have z0 : W.cell? ⟨y, 0, none⟩ = some (.int .i64 1) := by rw [← ke.out]; exact Y.out.at0
            have z1 := Y.out.at1
            have z2 := Y.out.at2
            have sd : M.Sd r 2 1 := ⟨.inr ⟨ke.out, rfl, rfl⟩⟩
            obtain ⟨xv, hx⟩ : ∃ v, M.ex (M.wk I) (M.ids I) 1 r.i = v := ⟨_, rfl⟩
            obtain ⟨bv, hb⟩ : ∃ v, M.eb (M.wk I) (M.ids I) 1 r.i = v := ⟨_, rfl⟩
            obtain ⟨f, hf⟩ : ∃ v, M.pe (M.ids I) r.i = v := ⟨_, rfl⟩
            replace hx := hideIt hx
            replace hb := hideIt hb
            replace hf := hideIt hf
            go_wp2_with fail
            refine (recv_is H0.out.a (by rw [hids.out]; omega) hgd.out.nd r.i r.b xv bv f hx.out hb.out hf.out).mono ?_
            rintro e w6 ⟨rfl, Z, F⟩
            have H6 := hideIt (qt H0.out Z F)
            have Y6 := hideIt (Y.out.fr F hyP)
            have hyP6 := wideNo (w' := w6) hyP Y.out.lt
            clear Z F z0 z1 z2 H0 Y
            by_cases f0 : (f == 0) = true
            · obtain rfl : f = 0 := by simpa using f0
              clear f0
              have z0 : w6.cell? ⟨y, 0, none⟩ = some (.int .i64 1) := by rw [← ke.out]; exact Y6.out.at0
              have gd := gbDrew (gbRefl w6 none)
              have z1' := (Y6.out.kept gd).at1
              have z0' := gd.cell z0 (by simp)
              go_upto_region 26 with fail
              by_cases hI : I = []
              · have m0 : m = 0 := by rw [← hmL.out, hI]; rfl
                have st := hideIt (hgd.out.stay sd (by rw [hI]; intro q hq; cases hq) hf.out)
                obtain rfl : false = bv := by rw [← hb.out, st.out.1]
                clear hI
                subst m0
                by_cases hrb : r.b = true
                · rw [hrb, st.out.2.1.1, st.out.2.1.2.1] at H6
                  have z2 : w6.cell? ⟨y, 2, none⟩ = some (.bool true) := by rw [← hrb]; exact Y6.out.at2
                  have z2' := gd.cell z2 (by simp)
                  have H6d := hideIt (qk H6.out gd)
                  obtain ⟨x', cap', w7, hr, H7, _⟩ := Tw.app (kPA p _ _) H6d.out hmL.out run_append_q (gbAlloc w6.drew (.cells #[.int .i64 r.k, .int .i64 r.i, .bool r.b] 30) none) ⟨w6.drew.heap.size, 0, none⟩ 1 r (rowQ w6.drew r) (by omega)
                  rw [ke.out, hrb] at hr
                  replace hrb := hideIt hrb
                  have H8 : Hid (Ms w w7 _ _ p (I ++ [r]) x' (0 + 1) cap') := hideIt ⟨H7.out, st.out.2.1.2.2, by rw [List.length_append, hmL.out]; rfl⟩
                  obtain ⟨m2, hm2⟩ : ∃ m2, 0 + 1 = m2 := ⟨_, rfl⟩
                  rw [hm2] at H8 hr
                  have hm2j : m2 ≤ j + 1 := by omega
                  clear H6 H6d H7 st hm2
                  go_wp2
                  go_region
                  go_wp2_with (at_builtin; refine wpList_append_run rfl (.tmp 128) (.tmp 130) rfl (.slice x 0 d) (.slice (some ⟨w6.heap.size, 0, none⟩) 1 1) rfl rfl (.slice x' m2 cap') w7 hr ?_)
                  clear hr
                  have hl2 := hideIt H8.out.len
                  go_loopg [13] (m2 + 1) (fun gk i wr => ∃ (c : Nat), c + gk = m2 + 2 ∧ 1 ≤ c ∧ c ≤ m2 + 1 ∧ i = .int .i64 c ∧ World.grownBy w7 wr none)
                  case atStart => exact ⟨1, by omega, by omega, by omega, rfl, gbRefl _ _⟩
                  case round =>
                    obtain ⟨c, hc, hc1, hcm, rfl, gw⟩ := hrel
                    by_cases hcl : c < m2
                    · have hcl' : (c : Int) < ((m2 : Nat) : Int) := by omega
                      obtain ⟨q', ho⟩ : ∃ o, _ = some o := ⟨_, List.getElem?_eq_getElem (i := c) (by rw [hl2.out]; exact hcl)⟩
                      obtain ⟨q0, ho0⟩ : ∃ o, _ = some o := ⟨_, List.getElem?_eq_getElem (i := 0) (by rw [hl2.out]; omega)⟩
                      have hin := H8.out.t.b.1
                      obtain ⟨g', cap2, ex, hcap', _, _, hcap2'⟩ := hin.has hl2.out (by omega)
                      cases ex
                      obtain ⟨e0, _, _⟩ := QL.at (hin.kept gw) hl2.out c q' ho
                      obtain ⟨e1, _, _⟩ := QL.at (hin.kept gw) hl2.out 0 q0 ho0
                      rw [H8.out.gd.same ho0 ho, Nat.zero_mul] at e1
                      have hm0 : 0 < m2 := by omega
                      clear hin ho ho0
                      go_wp2
                      go_region
                      go_wp2
                      go_roundg (gk - 1)
                      case rel => exact ⟨c + 1, by omega, by omega, by omega, by go_num, gbDrew gw⟩
                      case measure => omega
                    · have hcl' : ¬ (c : Int) < ((m2 : Nat) : Int) := by omega
                      have H9 : Hid (Ms w wr _ _ p _ _ _ _) := hideIt ⟨qk H8.out.t gw, H8.out.gd, H8.out.len⟩
                      clear H8 gw
                      go_wp2
                      go_roundg (100 - (j + 1))
                      case rel => exact ⟨j + 1, _, _, _, _, _, _, by omega, by omega, by go_num, rfl, H9⟩
                      case measure => omega
                · have hrb : r.b = false := by simpa using hrb
                  rw [hrb, st.out.2.2.1, st.out.2.2.2] at H6
                  have z2 : w6.cell? ⟨y, 2, none⟩ = some (.bool false) := by rw [← hrb]; exact Y6.out.at2
                  have z2' := gd.cell z2 (by simp)
                  replace hrb := hideIt hrb
                  have H7 : Hid (Ms w w6.drew (wide P W w6) R p I x 0 d) := hideIt ⟨qk H6.out gd, hgd.out, hmL.out⟩
                  clear H6 st
                  go_wp2
                  go_region
                  go_wp2
                  go_loopg [13] 1 (fun gk i wr => gk = 1 ∧ i = .int .i64 1 ∧ World.grownBy w6.drew wr none)
                  case atStart => exact ⟨rfl, rfl, gbRefl _ _⟩
                  case round =>
                    obtain ⟨_, rfl, gw⟩ := hrel
                    have H9 : Hid (Ms w wr _ _ p _ _ _ _) := hideIt ⟨qk H7.out.t gw, H7.out.gd, H7.out.len⟩
                    clear H7 gw
                    go_wp2
                    go_roundg (100 - (j + 1))
                    case rel => exact ⟨j + 1, _, _, _, _, _, _, by omega, by omega, by go_num, rfl, H9⟩
                    case measure => omega
              · obtain ⟨q, I', rfl⟩ := List.exists_cons_of_ne_nil hI
                have hm0 : 0 < m := by have := hmL.out; simp at this; omega
                have hin := H6.out.b.1
                obtain ⟨g, cap, ex, hcap, _, _, hcap2⟩ := hin.has hmL.out hm0
                cases ex
                obtain ⟨e0, e1, _⟩ := QL.at hin hmL.out 0 q rfl
                have hq := (hgd.out.one q (List.mem_cons_self ..)).1
                clear hI hin
                by_cases hk : (q.k == r.k) = true
                · have hkq : q.k = 1 := by rw [← ke.out]; simpa using hk
                  rw [hkq] at e0
                  have e0' := gd.cell e0 (by simp)
                  have e1' := gd.cell e1 (by simp)
                  have st := hideIt (hgd.out.stay sd (by intro s hs; cases hs; simpa using hk) hf.out)
                  obtain rfl : false = bv := by rw [← hb.out, st.out.1]
                  clear hk hkq hq
                  by_cases hrb : r.b = true
                  · rw [hrb, st.out.2.1.1, st.out.2.1.2.1] at H6
                    have z2 : w6.cell? ⟨y, 2, none⟩ = some (.bool true) := by rw [← hrb]; exact Y6.out.at2
                    have z2' := gd.cell z2 (by simp)
                    have H6d := hideIt (qk H6.out gd)
                    obtain ⟨x', cap', w7, hr, H7, _⟩ := Tw.app (kPA p _ _) H6d.out hmL.out run_append_q (gbAlloc w6.drew (.cells #[.int .i64 r.k, .int .i64 r.i, .bool r.b] 30) none) ⟨w6.drew.heap.size, 0, none⟩ 1 r (rowQ w6.drew r) (by omega)
                    rw [ke.out, hrb] at hr
                    replace hrb := hideIt hrb
                    have H8 : Hid (Ms w w7 _ _ p ((q :: I') ++ [r]) x' (m + 1) cap') := hideIt ⟨H7.out, st.out.2.1.2.2, by rw [List.length_append, hmL.out]; rfl⟩
                    obtain ⟨m2, hm2⟩ : ∃ m2, m + 1 = m2 := ⟨_, rfl⟩
                    rw [hm2] at H8 hr
                    have hm2j : m2 ≤ j + 1 := by omega
                    clear H6 H6d H7 st hm2
                    go_wp2
                    go_region
                    go_wp2_with (at_builtin; refine wpList_append_run rfl (.tmp 128) (.tmp 130) rfl (.slice (some ⟨g, 0, none⟩) m d) (.slice (some ⟨w6.heap.size, 0, none⟩) 1 1) rfl rfl (.slice x' m2 cap') w7 hr ?_)
                    clear hr
                    have hl2 := hideIt H8.out.len
                    go_loopg [13] (m2 + 1) (fun gk i wr => ∃ (c : Nat), c + gk = m2 + 2 ∧ 1 ≤ c ∧ c ≤ m2 + 1 ∧ i = .int .i64 c ∧ World.grownBy w7 wr none)
                    case atStart => exact ⟨1, by omega, by omega, by omega, rfl, gbRefl _ _⟩
                    case round =>
                      obtain ⟨c, hc, hc1, hcm, rfl, gw⟩ := hrel
                      by_cases hcl : c < m2
                      · have hcl' : (c : Int) < ((m2 : Nat) : Int) := by omega
                        obtain ⟨q', ho⟩ : ∃ o, _ = some o := ⟨_, List.getElem?_eq_getElem (i := c) (by rw [hl2.out]; exact hcl)⟩
                        obtain ⟨q0, ho0⟩ : ∃ o, _ = some o := ⟨_, List.getElem?_eq_getElem (i := 0) (by rw [hl2.out]; omega)⟩
                        have hin := H8.out.t.b.1
                        obtain ⟨g', cap2, ex, hcap', _, _, hcap2'⟩ := hin.has hl2.out (by omega)
                        cases ex
                        obtain ⟨e0, _, _⟩ := QL.at (hin.kept gw) hl2.out c q' ho
                        obtain ⟨e1, _, _⟩ := QL.at (hin.kept gw) hl2.out 0 q0 ho0
                        rw [H8.out.gd.same ho0 ho, Nat.zero_mul] at e1
                        have hm0 : 0 < m2 := by omega
                        clear hin ho ho0
                        go_wp2
                        go_region
                        go_wp2
                        go_roundg (gk - 1)
                        case rel => exact ⟨c + 1, by omega, by omega, by omega, by go_num, gbDrew gw⟩
                        case measure => omega
                      · have hcl' : ¬ (c : Int) < ((m2 : Nat) : Int) := by omega
                        have H9 : Hid (Ms w wr _ _ p _ _ _ _) := hideIt ⟨qk H8.out.t gw, H8.out.gd, H8.out.len⟩
                        clear H8 gw
                        go_wp2
                        go_roundg (100 - (j + 1))
                        case rel => exact ⟨j + 1, _, _, _, _, _, _, by omega, by omega, by go_num, rfl, H9⟩
                        case measure => omega
                  · have hrb : r.b = false := by simpa using hrb
                    rw [hrb, st.out.2.2.1, st.out.2.2.2] at H6
                    have z2 : w6.cell? ⟨y, 2, none⟩ = some (.bool false) := by rw [← hrb]; exact Y6.out.at2
                    have z2' := gd.cell z2 (by simp)
                    replace hrb := hideIt hrb
                    have H7 : Hid (Ms w w6.drew (wide P W w6) R p (q :: I') (some ⟨g, 0, none⟩) m d) := hideIt ⟨qk H6.out gd, hgd.out, hmL.out⟩
                    clear H6 st
                    go_wp2
                    go_region
                    go_wp2
                    have hl2 := hideIt H7.out.len
                    go_loopg [13] (m + 1) (fun gk i wr => ∃ (c : Nat), c + gk = m + 2 ∧ 1 ≤ c ∧ c ≤ m + 1 ∧ i = .int .i64 c ∧ World.grownBy w6.drew wr none)
                    case atStart => exact ⟨1, by omega, by omega, by omega, rfl, gbRefl _ _⟩
                    case round =>
                      obtain ⟨c, hc, hc1, hcm, rfl, gw⟩ := hrel
                      by_cases hcl : c < m
                      · have hcl' : (c : Int) < ((m : Nat) : Int) := by omega
                        obtain ⟨q', ho⟩ : ∃ o, _ = some o := ⟨_, List.getElem?_eq_getElem (i := c) (by rw [hl2.out]; exact hcl)⟩
                        obtain ⟨q0, ho0⟩ : ∃ o, _ = some o := ⟨_, List.getElem?_eq_getElem (i := 0) (by rw [hl2.out]; omega)⟩
                        have hin := H7.out.t.b.1
                        obtain ⟨g', cap2, ex, hcap', _, _, hcap2'⟩ := hin.has hl2.out (by omega)
                        cases ex
                        obtain ⟨e0, _, _⟩ := QL.at (hin.kept gw) hl2.out c q' ho
                        obtain ⟨e1, _, _⟩ := QL.at (hin.kept gw) hl2.out 0 q0 ho0
                        rw [H7.out.gd.same ho0 ho, Nat.zero_mul] at e1
                        have hm0 : 0 < m := by omega
                        clear hin ho ho0
                        go_wp2
                        go_region
                        go_wp2
                        go_roundg (gk - 1)
                        case rel => exact ⟨c + 1, by omega, by omega, by omega, by go_num, gbDrew gw⟩
                        case measure => omega
                      · have hcl' : ¬ (c : Int) < ((m : Nat) : Int) := by omega
                        have H9 : Hid (Ms w wr _ _ p _ _ _ _) := hideIt ⟨qk H7.out.t gw, H7.out.gd, H7.out.len⟩
                        clear H7 gw
                        go_wp2
                        go_roundg (100 - (j + 1))
                        case rel => exact ⟨j + 1, _, _, _, _, _, _, by omega, by omega, by go_num, rfl, H9⟩
                        case measure => omega
                · have hk : (q.k == r.k) = false := by simpa using hk
                  have hkq : q.k = 0 := by
                    have h1 : ¬ q.k = r.k := by simpa using hk
                    rw [ke.out] at h1
                    omega
                  rw [hkq] at e0
                  have e0' := gd.cell e0 (by simp)
                  have e1' := gd.cell e1 (by simp)
                  clear hkq hq
                  have mt := hideIt (hgd.out.meet sd hk hf.out r.b)
                  obtain rfl : true = bv := by rw [← hb.out, mt.out.1]
                  obtain rfl : q.i = xv := by rw [← hx.out, mt.out.2.1]
                  rw [mt.out.2.2.1, mt.out.2.2.2.1] at H6
                  have h6 := H6.out.b.1.kept gd
                  have hm1 : 1 ≤ m := by omega
                  have hm1' : (1 : Int) ≤ (m : Int) := by omega
                  have hd1 : 1 ≤ d := by omega
                  clear hk
                  by_cases hc1 : 1 < d
                  · have hc3 : ¬ d = 1 := by omega
                    obtain ⟨x', d', w7, hr, l7, g7⟩ := runTail h6 hmL.out (by omega) ⟨g, 3, none⟩ (d - 1) (fun _ => rfl) hcap
                    have H8 : Hid (Ms w w7 _ _ p I' x' (m - 1) d') := hideIt ⟨Tw.fresh (kPA p _ _) (qk H6.out gd) g7 l7, mt.out.2.2.2.2, by have := hmL.out; simp at this ⊢; omega⟩
                    clear H6 mt l7 g7 h6
                    go_wp2
                    go_region
                    go_wp2_with (at_builtin; refine wpList_append_run rfl (.tmp 122) (.tmp 124) rfl (.slice (some ⟨w6.heap.size, 0, none⟩) 0 0) (.slice (some ⟨g, 3, none⟩) (m - 1) (d - 1)) rfl (by simp [Act.eval]) _ w7 hr ?_)
                    clear hr
                    obtain ⟨m2, hm2⟩ : ∃ m2, m - 1 = m2 := ⟨_, rfl⟩
                    rw [hm2] at H8
                    rw [hm2]
                    have hm2j : m2 ≤ j + 1 := by omega
                    clear hm2
                    have hl2 := hideIt H8.out.len
                    go_loopg [13] (m2 + 1) (fun gk i wr => ∃ (c : Nat), c + gk = m2 + 2 ∧ 1 ≤ c ∧ c ≤ m2 + 1 ∧ i = .int .i64 c ∧ World.grownBy w7 wr none)
                    case atStart => exact ⟨1, by omega, by omega, by omega, rfl, gbRefl _ _⟩
                    case round =>
                      obtain ⟨c, hc, hc1, hcm, rfl, gw⟩ := hrel
                      by_cases hcl : c < m2
                      · have hcl' : (c : Int) < ((m2 : Nat) : Int) := by omega
                        obtain ⟨q', ho⟩ : ∃ o, _ = some o := ⟨_, List.getElem?_eq_getElem (i := c) (by rw [hl2.out]; exact hcl)⟩
                        obtain ⟨q0, ho0⟩ : ∃ o, _ = some o := ⟨_, List.getElem?_eq_getElem (i := 0) (by rw [hl2.out]; omega)⟩
                        have hin := H8.out.t.b.1
                        obtain ⟨g', cap2, ex, hcap', _, _, hcap2'⟩ := hin.has hl2.out (by omega)
                        cases ex
                        obtain ⟨e0, _, _⟩ := QL.at (hin.kept gw) hl2.out c q' ho
                        obtain ⟨e1, _, _⟩ := QL.at (hin.kept gw) hl2.out 0 q0 ho0
                        rw [H8.out.gd.same ho0 ho, Nat.zero_mul] at e1
                        have hm0 : 0 < m2 := by omega
                        clear hin ho ho0
                        go_wp2
                        go_region
                        go_wp2
                        go_roundg (gk - 1)
                        case rel => exact ⟨c + 1, by omega, by omega, by omega, by go_num, gbDrew gw⟩
                        case measure => omega
                      · have hcl' : ¬ (c : Int) < ((m2 : Nat) : Int) := by omega
                        have H9 : Hid (Ms w wr _ _ p _ _ _ _) := hideIt ⟨qk H8.out.t gw, H8.out.gd, H8.out.len⟩
                        clear H8 gw
                        go_wp2
                        go_roundg (100 - (j + 1))
                        case rel => exact ⟨j + 1, _, _, _, _, _, _, by omega, by omega, by go_num, rfl, H9⟩
                        case measure => omega
                  · obtain rfl : d = 1 := by omega
                    obtain rfl : m = 1 := by omega
                    obtain ⟨x', d', w7, hr, l7, g7⟩ := runTail h6 hmL.out (by omega) ⟨g, 0, none⟩ (1 - 1) (fun h => absurd h (by decide)) hcap
                    have H8 : Hid (Ms w w7 _ _ p I' x' (1 - 1) d') := hideIt ⟨Tw.fresh (kPA p _ _) (qk H6.out gd) g7 l7, mt.out.2.2.2.2, by have := hmL.out; simp at this ⊢; omega⟩
                    clear H6 mt l7 g7 h6
                    go_wp2
                    go_region
                    go_wp2_with (at_builtin; refine wpList_append_run rfl (.tmp 122) (.tmp 124) rfl (.slice (some ⟨w6.heap.size, 0, none⟩) 0 0) (.slice (some ⟨g, 0, none⟩) (1 - 1) (1 - 1)) rfl (by simp [Act.eval]) _ w7 hr ?_)
                    clear hr
                    go_loopg [13] 1 (fun gk i wr => gk = 1 ∧ i = .int .i64 1 ∧ World.grownBy w7 wr none)
                    case atStart => exact ⟨rfl, rfl, gbRefl _ _⟩
                    case round =>
                      obtain ⟨_, rfl, gw⟩ := hrel
                      have H9 : Hid (Ms w wr _ _ p _ _ _ _) := hideIt ⟨qk H8.out.t gw, H8.out.gd, H8.out.len⟩
                      clear H8 gw
                      go_wp2
                      go_roundg (100 - (j + 1))
                      case rel => exact ⟨j + 1, _, _, _, _, _, _, by omega, by omega, by go_num, rfl, H9⟩
                      case measure => omega
            · have f0 : (f == 0) = false := by simpa using f0
              have hn := M.Wd.no (I := I) (a := r.i) (o := 1) (t := 2) (wt := r.b) (by rw [hf.out]; simpa using f0)
              rw [hn.1, hn.2] at H6
              have H7 : Hid (Ms w w6 (wide P W w6) R p I x m d) := hideIt ⟨H6.out, hgd.out, hmL.out⟩
              clear hn H6
              go_wp2
              go_roundg (gk - 1)
              case rel => exact ⟨j + 1, _, _, I, x, m, d, by omega, by omega, by go_num, rfl, H7⟩
              case measure => omega
          · have k0n : ¬ r.k = 0 := by simpa using k0
            have k1n : ¬ r.k = 1 := by simpa using k1
            have k1 : (r.k == 1) = false := by simpa using k1
            have k0b : (r.k != 0) = true := by simpa using k0n
            have k1b : (r.k != 1) = true := by simpa using k1n
            clear k0n k1n
            have H7 : Hid (Ms w W P R p I x m d) := hideIt ⟨H0.out, hgd.out, hmL.out⟩
            obtain ⟨z0, _, _, _⟩ := id Y.out
            clear H0
            go_wp2
            go_roundg (gk - 1)
            case rel => exact ⟨j + 1, _, _, I, x, m, d, by omega, by omega, by go_num, rfl, H7⟩
            case measure => omega
    ·
      have hm100 : m ≤ 100 := by omega
      go_upto_region 6 with fail
      go_cut [26] from 19 to 26 (fun s wc => s = .bool false ∧ wc = wr)
      case first =>
        by_cases k1 : (j : Int) < (len0 : Int)
        · have k2 : ¬ (j : Int) < 100 := by omega
          go_wp2
          go_meet
          exact ⟨rfl, rfl⟩
        · go_wp2
          go_meet
          exact ⟨rfl, rfl⟩
      case rest =>
      obtain ⟨rfl, rfl⟩ := hcut
      clear hlt hj hm
      go_wp2_with fail
      refine (state_is H.out.t.a (by rw [hids.out]; omega)).mono ?_
      rintro e w3 ⟨v3, rfl, l3, g3⟩
      have H3 := hideIt (qk H.out.t g3)
      obtain ⟨x3, c3, rfl, _⟩ := l3.arr
      rw [hids.out]
      clear l3 g3 H
      go_wp2
      go_ret
      exact ⟨rfl, H3.out.gr⟩

theorem walk (x0 : Option Addr) (len0 cap0 : Nat) (w : World) (hx0 : Acts3 w x0 len0) :
    Calls Try.prog 4 #[.slice x0 len0 cap0] w fun e w' => e = .returned (.bool true) ∧ Below w.heap.size w w' := endWalk (core x0 len0 cap0 w hx0)

set_option maxRecDepth 100000 in
theorem lifted (os : Os) (started : os.Started) (H : Type) (enc : TypeId × Value → H) :
    ReturnsInHanded {} Try.checked os 4 .any (Rows.endpointMeetsSpec.pre6 enc Try.prog Try.f4 Rows.endpointMeetsRow.domain false) (Rows.endpointMeetsSpec.post enc Try.prog Try.f4 false true false false) := by
  refine returnsInHanded_of_change (C := Try.checked) own started (by kernel_rfl) Try.func4
    (ChangeSpec.witness6 (enc := enc) (C := Try.checked) false ⟨#[], #[.slice none 0 0], []⟩ 8 (by kernel_rfl) (by kernel_rfl) (by kernel_rfl) (by kernel_rfl)) ?_
  intro W base args ds gs before hval0 hW hcnd _
  have hval : ∀ (j : Nat) t v, Try.f4.params[j]? = some t → args[j]? = some v → Value.okWide Try.prog W .any base t v := hval0
  have hW' := hW
  obtain ⟨p, q, hA0, hV, rfl, hfz, hnd⟩ := hW
  have hA : DataW.TrodAll enc Try.prog W 0 (fun _ => true) true Try.f4.params.toList args.toList ds p := hA0
  rw [Try.params4] at hA hval
  obtain ⟨v0, vs0, d0, ds0, p0, q0, hargs, rfl, rfl, h0, r0⟩ := trodAll_cons hA
  obtain ⟨rfl, rfl, rfl⟩ := trodAll_nil r0
  obtain rfl : args = #[v0] := by cases args; simp_all
  obtain ⟨rfl, rfl⟩ := trodVars_none hV
  obtain ⟨x0, len0, cap0, rfl⟩ := okWide_slice Try.underlying22 (hval 0 22 v0 rfl rfl)
  have hx0 := opsArg h0
  have k0 := h0
  have lt0 : ∀ x ∈ p0, x.block < W.heap.size := by obtain ⟨m, hm⟩ := k0; exact DataW.trod_lt m _ _ _ hm
  clear hA0 hval0
  refine (walk x0 len0 cap0 W hx0).mono fun e W' ⟨he, bel⟩ => ?_
  subst he
  exact ⟨_, rfl, _, _, _, [], _, [], hW', trodAll_mk1 (shut_bool Try.underlying4 _), (trodAll_cons_mk (Below.trod laidOut (by kernel_rfl) (of_decide_eq_true (by kernel_rfl)) k0 bel lt0) trodAll_mk0), rfl, bel.frame _, fun h => by cases h⟩

theorem over : Rows.endpointMeetsRow.holds Try.pinned (OpenSpec.ofChange Rows.endpointMeetsSpec) :=
  OpenClaim.holds_of_wide 4 Try.f4 rfl rfl rfl rfl rfl rfl rfl ⟨rfl, rfl, rfl, rfl, rfl⟩ rfl rfl rfl rfl rfl (by kernel_rfl) Try.func4 (by kernel_rfl)
    (of_decide_eq_true (by kernel_rfl)) (by unfold Func.isWrapper; first | (rw [if_pos (by decide +kernel)]; kernel_rfl) | (rw [if_neg (by decide +kernel)]; exact ⟨rfl, rfl⟩))
    (fun os started H enc _ => lifted os started H enc)

theorem proved : Rows.EndpointMeetsSaid := over
end Go.Proofs.Ytenljiciiocagaa.endpointMeets
namespace Go.Proofs.Ytenljiciiocagaa
theorem endpointMeets_holds : Rows.EndpointMeetsSaid := endpointMeets.proved
#print axioms endpointMeets_holds
end Go.Proofs.Ytenljiciiocagaa
