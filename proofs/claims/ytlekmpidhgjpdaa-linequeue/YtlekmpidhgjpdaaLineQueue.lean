/- LineQueue: for every list of numbers and every number, and every fate of the machine, the call ends and answers true: who is pushed is popped in that order; one that is taken out does not come, and changes nothing of the others. No condition beyond the statement's own. -/
import Derived.Test.YtlekmpidhgjpdaaArgs
import Derived.Test.YtlekmpidhgjpdaaBes
import Derived.Deep.Cut
import Derived.Deep.DeepCutAuto
import Derived.Deep.CutBlock
import Derived.Deep.RegionHeld3
import Derived.Test.YtlekmpidhgjpdaaArgs
import Derived.ProofKit
import Derived.OpenShut
import Derived.ShutString
import Derived.ChangeOld
import Derived.Below
import Derived.Deep.Slices
namespace Go.Proofs.Ytlekmpidhgjpdaa.lineQueue
open Go.ChangeShapes Go.WideShapes Go.ChangeAt Go.RowKit
set_option linter.unusedVariables false

theorem own : ownKnob Try.prog.godebug = none := by kernel_rfl
theorem laidOut : laidOutB Try.prog = true := by kernel_rfl

/-- A line, and the list of whom it has. -/
structure Qs (w0 w : World) (P R : Nat → Prop) (q : Nat) (L : List Int) (x : Option Addr) (m d : Nat) : Prop where
  t : Tw (fun w O => LA w O q L) (LB eI 3 1 (.slice x m d) L) w0 w P R
  nd : L.Nodup
  len : L.length = m
theorem qpush {w0 w w' : World} {P R : Nat → Prop} {q : Nat} {L L' D : List Int} {v : Value} (h : Tw (fun w O => LA w O q L) (LB eI 3 1 v D) w0 w P R) (T : LA w' (wide P w w') q L') (k : Fr P w w') : Tw (fun w O => LA w O q L') (LB eI 3 1 v D) w0 w' (wide P w w') R :=
  Tw.prog (A' := fun w O => LA w O q L') (kLB eI 3 1 v D) h T k
theorem wo_snoc_in {L : List Int} {y : Int} {c : Nat} (h : L[c]? = some y) : M.wo (L.take (c + 1)) y = M.wo (L.take c) y ∧ (L.take (c + 1)).contains y = true := by
  rw [List.take_add_one, h]
  unfold M.wo
  simp
theorem wo_snoc_out {L : List Int} {y a : Int} {c : Nat} (h : L[c]? = some a) (e : (a == y) = false) : M.wo (L.take (c + 1)) y = M.wo (L.take c) y ++ [a] ∧ (L.take (c + 1)).contains y = (L.take c).contains y := by
  have e2 : ¬ a = y := by simpa using e
  have e3 : ¬ y = a := fun q => e2 q.symm
  rw [List.take_add_one, h]
  unfold M.wo
  simp [e2, e3]
/-- While it is popped: what was there before stays. -/
structure Q3 (w0 w3 : World) (P3 : Nat → Prop) (w : World) (P R : Nat → Prop) (q : Nat) (L D : List Int) (v : Value) : Prop where
  t : Tw (fun w O => LA w O q L) (LB eI 3 1 v D) w0 w P R
  f : Fr P3 w3 w
  pp : ∀ i, i < w3.heap.size → P i → P3 i
  rr : ∀ i, R i → w3.heap.size ≤ i
theorem Q3.pop {w0 w3 w w' : World} {P3 P R : Nat → Prop} {q : Nat} {L L' D : List Int} {v : Value} (h : Q3 w0 w3 P3 w P R q L D v) (T : LA w' (wide P w w') q L') (k : Fr P w w') : Q3 w0 w3 P3 w' (wide P w w') R q L' D v :=
  ⟨qpush h.t T k, h.f.join k h.pp, fun i hi e => by
    rcases e with e | e
    · exact h.pp i hi e
    · have := h.f.size; omega, h.rr⟩
theorem Q3.app {w0 w3 w w' : World} {P3 P R : Nat → Prop} {q : Nat} {L D D' : List Int} {v v' : Value} (h : Q3 w0 w3 P3 w P R q L D v) (T : Tw (fun w O => LA w O q L) (LB eI 3 1 v' D') w0 w' P (wide R w w')) (k : Fr R w w') : Q3 w0 w3 P3 w' P (wide R w w') q L D' v' :=
  ⟨T, h.f.join k (fun i hi e => by have := h.rr i e; omega), h.pp, fun i hi => by
    rcases hi with e | e
    · exact h.rr i e
    · have := h.f.size; omega⟩

set_option maxHeartbeats 8000000 in
set_option maxRecDepth 100000 in
theorem core (x0 : Option Addr) (len0 cap0 : Nat) (a1 : Int) (w : World) (hx0 : ∀ i, i < len0 → ∃ x z, x0 = some x ∧ w.cell? (x.add i) = some (.int .i64 z)) (U1 y1 : Nat) (hu1 : IntKind.u64.wrap a1 = (U1 : Int)) (hy1 : (U1 : Int) % 64 = (y1 : Int)) (hy1b : y1 < 64) :
    Calls Try.prog 6 #[.slice x0 len0 cap0, .int .i64 a1] w fun e w' => e = .returned (.bool true) ∧ w.grownBy w' none := by
  have HX := hideIt hx0
  replace hu1 := hideIt hu1
  replace hy1 := hideIt hy1
  clear hx0
  go_enter Try.func6, Try.ntmps6
  go_wp2_with fail
  refine (works_is w).mono ?_
  rintro e wa ⟨rfl, ga⟩
  go_wp2_with fail
  refine (new_is wa).mono ?_
  rintro e wb ⟨rfl, A1, s1, g1⟩
  have H2 : Hid (Qs w wb (fun i => i = wa.heap.size) (fun _ => False) wa.heap.size [] none 0 0) := hideIt ⟨Tw.begin ⟨A1, fun i hi => by subst hi; exact ⟨ga.size, by omega⟩, gbTrans ga g1⟩, by simp, rfl⟩
  obtain ⟨q, hq⟩ : ∃ q, wa.heap.size = q := ⟨_, rfl⟩
  rw [hq] at H2
  rw [hq]
  clear hq A1 s1 g1 ga
  go_wp2_with fail
  go_loopg [6, 7] 64 (fun gk v i wr => ∃ (j : Nat) (P R : Nat → Prop) (L : List Int) (x : Option Addr) (m d : Nat), j + gk = 64 ∧ m ≤ j ∧ i = .int .i64 j ∧ v = .slice x m d ∧ Hid (Qs w wr P R q L x m d))
  case atStart => exact ⟨0, _, _, [], none, 0, 0, rfl, by omega, rfl, rfl, H2⟩
  case round =>
    obtain ⟨j, P, R, L, x, m, d, hj, hm, rfl, rfl, H⟩ := hrel
    clear H2
    by_cases hlt : j < len0 ∧ j < 64
    · obtain ⟨c1, c2⟩ := hlt
      obtain ⟨xa, z, rfl, hz⟩ := HX.out j c1
      have hdj : decide ((j : Int) < 64) = true := by simp; omega
      replace hz := H.out.t.gr.cell hz (by simp)
      obtain ⟨U, y, hu, hy, hyb⟩ := modArg z 64 (by decide)
      replace hy : (U : Int) % 64 = (y : Int) := hy
      have hmL := H.out.len
      by_cases hyL : (y : Int) ∈ L
      · have hf : M.pe L (y : Int) = 4 := by unfold M.pe; rw [if_pos (by omega), if_pos hyL]
        have hp : M.pl L (y : Int) = L := by unfold M.pl; rw [if_neg (fun e => e.2.2 hyL)]
        replace hf := hideIt hf
        replace hp := hideIt hp
        replace hmL := hideIt hmL
        clear hyL
        go_wp2_with fail
        refine (push_is H.out.t.a (by rw [hmL.out]; omega) y 4 hf.out).mono ?_
        rintro e w3 ⟨rfl, Z, F⟩
        rw [hp.out] at Z
        have H3 : Hid (Qs w w3 (wide P wr w3) R q L x m d) := hideIt ⟨qpush H.out.t Z F, H.out.nd, H.out.len⟩
        clear Z F H hu hy hz
        go_wp2
        go_roundg (gk - 1)
        case rel => exact ⟨j + 1, _, _, L, x, m, d, by omega, by omega, by go_num, rfl, H3⟩
        case measure => omega
      · have hf : M.pe L (y : Int) = 0 := by unfold M.pe; rw [if_pos (by omega), if_neg hyL]
        have hp : M.pl L (y : Int) = L ++ [(y : Int)] := by unfold M.pl; rw [if_pos ⟨by omega, by omega, hyL⟩]
        replace hf := hideIt hf
        replace hp := hideIt hp
        replace hmL := hideIt hmL
        clear hyL
        go_wp2_with fail
        refine (push_is H.out.t.a (by rw [hmL.out]; omega) y 0 hf.out).mono ?_
        rintro e w3 ⟨rfl, Z, F⟩
        have hnd := hideIt (M.pl_nodup (y : Int) H.out.nd)
        rw [hp.out] at Z hnd
        have H3 := hideIt (qpush H.out.t Z F)
        obtain ⟨x', cap', w6, hr, H6, _⟩ := Tw.app (kLA q (L ++ [(y : Int)])) H3.out hmL.out run_append_i (gbAlloc w3 (.cells #[.int .i64 (y : Int)] 3) none) ⟨w3.heap.size, 0, none⟩ 1 (y : Int) (rowI w3 y) (by omega)
        have H7 : Hid (Qs w w6 (wide P wr w3) (wide R w3 w6) q (L ++ [(y : Int)]) x' (m + 1) cap') := hideIt ⟨H6.out, hnd.out, by rw [List.length_append, hmL.out]; rfl⟩
        clear Z F H hu hy hz H3 H6
        go_wp2_with (at_builtin; refine wpList_append_run rfl (.tmp 40) (.tmp 42) rfl (.slice x m d) (.slice (some ⟨w3.heap.size, 0, none⟩) 1 1) rfl rfl (.slice x' (m + 1) cap') w6 hr ?_)
        clear hr
        go_roundg (gk - 1)
        case rel => exact ⟨j + 1, _, _, _, x', m + 1, cap', by omega, by omega, by go_num, rfl, H7⟩
        case measure => omega
    · have hm64 : m ≤ 64 := by omega
      go_upto_region 6 with fail
      go_cut [26] from 19 to 26 (fun s wc => s = .bool false ∧ wc = wr)
      case first =>
        by_cases k1 : (j : Int) < (len0 : Int)
        · have k2 : ¬ (j : Int) < 64 := by omega
          go_wp2
          go_meet
          exact ⟨rfl, rfl⟩
        · go_wp2
          go_meet
          exact ⟨rfl, rfl⟩
      case rest =>
      obtain ⟨rfl, rfl⟩ := hcut
      clear hlt hj hm HX
      have hu1 := hu1.out
      have hy1 := hy1.out
      go_upto_region 12 with fail
      clear hu1 hy1
      obtain ⟨wl, hwl⟩ : ∃ wl, wl = wc := ⟨_, rfl⟩
      subst hwl
      go_wp2_with fail
      go_loopg [9, 10, 11] (m + 1) (fun gk b v i wr => ∃ (c : Nat) (z : Bool) (x' : Option Addr) (m' d' : Nat), c + gk = m + 1 ∧ c ≤ m ∧ m' ≤ c ∧ i = .int .i64 c ∧ b = .bool z ∧ v = .slice x' m' d' ∧ Hid ((L.take c).contains (y1 : Int) = z) ∧ Hid (IL wr wl.heap.size (.slice x' m' d') (M.wo (L.take c) (y1 : Int)) ∧ (M.wo (L.take c) (y1 : Int)).length = m') ∧ wl.grownBy wr none)
      case atStart => exact ⟨0, false, none, 0, 0, by omega, by omega, by omega, rfl, rfl, rfl, hideIt rfl, hideIt ⟨Ls.nil _ _ _ _ _, rfl⟩, gbRefl _ _⟩
      case round =>
        obtain ⟨c, z, x', m', d', hc, hcm, hm', rfl, rfl, rfl, hz, HL, gw⟩ := hrel
        by_cases hcl : c < m
        · have hcl' : (c : Int) < (m : Int) := by omega
          obtain ⟨a, ho⟩ : ∃ o, L[c]? = some o := ⟨_, List.getElem?_eq_getElem (by rw [H.out.len]; exact hcl)⟩
          have hin := H.out.t.b.1
          obtain ⟨g, cap, ex, _⟩ := hin.has H.out.len (by omega)
          cases ex
          have e0 := gw.cell (IL.at hin H.out.len c a ho) (by simp)
          clear hin
          by_cases hk : (a == (y1 : Int)) = true
          · obtain rfl : a = (y1 : Int) := by simpa using hk
            have hs := hideIt (wo_snoc_in ho)
            clear ho hk
            go_wp2
            go_roundg (gk - 1)
            case rel => exact ⟨c + 1, true, x', m', d', by omega, by omega, by omega, by go_num, rfl, rfl, hideIt hs.out.2, by rw [hs.out.1]; exact HL, gw⟩
            case measure => omega
          · have hk : (a == (y1 : Int)) = false := by simpa using hk
            have hs := hideIt (wo_snoc_out ho hk)
            clear ho
            obtain ⟨v1, w1, hr, l1, g1, o1⟩ := run_append_i (wr.alloc (.cells #[.int .i64 a] 3)) wl.heap.size (.slice x' m' d') (M.wo (L.take c) (y1 : Int)) (HL.out.1.kept (gbAlloc _ _ _)) 26 (some ⟨wr.heap.size, 0, none⟩) 1 1 [a] rfl (by simp) (by rintro ad ⟨⟩; exact rowI wr a) (by rw [HL.out.2]; omega) (by have := gw.size; simp; omega)
            have HF : Hid (IL w1 wl.heap.size v1 (M.wo (L.take (c + 1)) (y1 : Int)) ∧ (M.wo (L.take (c + 1)) (y1 : Int)).length = m' + 1) := hideIt (by
              rw [hs.out.1]
              exact ⟨l1, by rw [List.length_append, HL.out.2]; rfl⟩)
            obtain ⟨x1, d1, e3, _⟩ := HF.out.1.arr
            rw [HF.out.2] at e3
            subst e3
            have G1 : wl.grownBy w1 none := gbNews (gbTrans (gbAny (gbAllocN gw _) _) g1) (fun k' hk' => (HL.out.1.lt k' hk').1)
            clear l1 g1 o1
            go_wp2_with (at_builtin; refine wpList_append_run rfl (.tmp 60) (.tmp 65) rfl (.slice x' m' d') (.slice (some ⟨wr.heap.size, 0, none⟩) 1 1) rfl rfl (.slice x1 (m' + 1) d1) w1 hr ?_)
            clear hr e0
            go_roundg (gk - 1)
            case rel => exact ⟨c + 1, z, x1, m' + 1, d1, by omega, by omega, by omega, by go_num, rfl, rfl, hideIt (hs.out.2.trans hz.out), HF, G1⟩
            case measure => omega
        · have hcl' : ¬ (c : Int) < (m : Int) := by omega
          obtain rfl : c = m := by omega
          have HT := hideIt (List.take_of_length_le (Nat.le_of_eq H.out.len))
          rw [HT.out] at HL hz
          have HA := hideIt (Tw.kept (kLA q L) (kLB eI 3 1 _ L) H.out.t gw)
          have hnd := hideIt H.out.nd
          have hlen := hideIt H.out.len
          have hPl := hideIt (fun i hi => (H.out.t.lo i hi).2)
          clear H gw hc HT
          obtain ⟨Wn, hWn⟩ : ∃ Wn, M.wo L (y1 : Int) = Wn := ⟨_, rfl⟩
          have hWd := hideIt (M.wo_nodup (a := (y1 : Int)) hnd.out)
          rw [hWn] at HL hWd
          replace hWn := hideIt hWn
          go_wp2_with fail
          refine (remove_is HA.out.a (by rw [hlen.out]; omega) hnd.out y1 z hz.out).mono ?_
          rintro e w4 ⟨rfl, Z, F⟩
          rw [hWn.out] at Z
          obtain ⟨P4, hP4⟩ : ∃ P4, P4 = wide P wr w4 := ⟨_, rfl⟩
          have H4 : Hid (Q3 w w4 P4 w4 P4 (fun _ => False) q Wn [] (.slice none 0 0)) := hideIt (by rw [hP4]; exact ⟨Tw.begin (qpush HA.out Z F).one, Fr.refl _ _, fun _ _ e => e, fun i e => e.elim⟩)
          have HW : Hid (IL w4 0 (.slice x' m' d') Wn ∧ ∀ k, Value.ownBlock (.slice x' m' d') = some k → ¬ P4 k) := hideIt (by
            have nP : ∀ k, Value.ownBlock (.slice x' m' d') = some k → ¬ P k := fun k hk e => by have := (HL.out.1.lt k hk).1; have := hPl.out k e; omega
            exact ⟨(HL.out.1.fr F nP).low, fun k hk => by rw [hP4]; exact wideNo (nP k hk) (HL.out.1.lt k hk).2⟩)
          have hm2 := HL.out.2
          clear hP4 Z F HA HL hPl hz hnd hlen hWn
          have hm64' : m' ≤ 64 := by omega
          replace hm2 := hideIt hm2
          go_wp2_with fail
          go_loopg [12, 13] (m' + 1) (fun gk v i wr => ∃ (c : Nat) (P R : Nat → Prop) (x3 : Option Addr) (d3 : Nat), c + gk = m' + 1 ∧ c ≤ m' ∧ i = .int .i64 c ∧ v = .slice x3 c d3 ∧ Hid (Q3 w w4 P4 wr P R q (Wn.drop c) (Wn.take c) (.slice x3 c d3)))
          case atStart => exact ⟨0, P4, _, none, 0, by omega, by omega, rfl, rfl, H4⟩
          case round =>
            obtain ⟨c, P', R', x3, d3, hc, hcm, rfl, rfl, H⟩ := hrel
            clear H4
            have hc65 : (c : Int) < 65 := by omega
            by_cases hcl : c < m'
            · obtain ⟨a, ho⟩ : ∃ o, Wn[c]? = some o := ⟨_, List.getElem?_eq_getElem (by rw [hm2.out]; exact hcl)⟩
              have hd : Wn.drop c = a :: Wn.drop (c + 1) := by
                obtain ⟨h1, h2⟩ := List.getElem?_eq_some_iff.1 ho
                rw [List.drop_eq_getElem_cons h1, h2]
              have ht : Wn.take (c + 1) = Wn.take c ++ [a] := by rw [List.take_add_one, ho]; rfl
              replace hd := hideIt hd
              replace ht := hideIt ht
              clear ho
              go_wp2_with fail
              refine (pop_is H.out.t.a (by rw [List.length_drop, hm2.out]; omega) (hWd.out.sublist (List.drop_sublist _ _)) a true (by rw [hd.out]; rfl) (by rw [hd.out]; rfl)).mono ?_
              rintro e w5 ⟨rfl, Z, F⟩
              have et : (Wn.drop c).tail = Wn.drop (c + 1) := by rw [hd.out]; rfl
              rw [et] at Z
              clear et
              have H5 := hideIt (H.out.pop Z F)
              obtain ⟨x', cap', w6, hr, H6, F6, _⟩ := Tw.app (kLA q (Wn.drop (c + 1))) H5.out.t (by rw [List.length_take, hm2.out]; omega) run_append_i (gbAlloc w5 (.cells #[.int .i64 a] 3) none) ⟨w5.heap.size, 0, none⟩ 1 a (rowI w5 a) (by omega)
              have H7 := hideIt (H5.out.app H6.out F6.out)
              rw [← ht.out] at H7
              clear Z F H H5 H6 F6
              go_wp2_with (at_builtin; refine wpList_append_run rfl (.tmp 83) (.tmp 85) rfl (.slice x3 c d3) (.slice (some ⟨w5.heap.size, 0, none⟩) 1 1) rfl rfl (.slice x' (c + 1) cap') w6 hr ?_)
              clear hr
              go_roundg (gk - 1)
              case rel => exact ⟨c + 1, _, _, x', cap', by omega, by omega, by go_num, rfl, H7⟩
              case measure => omega
            · obtain rfl : c = m' := by omega
              have hd : Wn.drop c = [] := List.drop_eq_nil_of_le (by rw [hm2.out]; exact Nat.le_refl _)
              have ht : Wn.take c = Wn := List.take_of_length_le (by rw [hm2.out]; exact Nat.le_refl _)
              rw [hd, ht] at H
              clear hd ht hcl
              go_wp2_with fail
              refine (pop_is H.out.t.a (by simp) (by simp) 0 false rfl rfl).mono ?_
              rintro e w5 ⟨rfl, Z, F⟩
              have H5 := hideIt (H.out.pop Z F)
              clear Z F H
              go_wp2_with fail
              refine (same_is H5.out.t.b.1 (HW.out.1.fr H5.out.f HW.out.2) (by rw [hm2.out]; omega)).mono ?_
              rintro e w6 ⟨rfl, g6⟩
              have H6 := hideIt (On.kept (kLA q []) H5.out.t.one g6)
              clear H5 g6
              go_wp2_with fail
              refine (list_is H6.out.a (by simp)).mono ?_
              rintro e w7 ⟨v7, rfl, l7, g7⟩
              obtain ⟨x7, c7, rfl, _⟩ := l7.arr
              have G7 := hideIt (gbTrans H6.out.gr g7)
              clear l7 g7 H6
              go_wp2
              go_ret
              exact ⟨rfl, G7.out⟩

theorem walk (x0 : Option Addr) (len0 cap0 : Nat) (a1 : Int) (w : World) (hx0 : ∀ i, i < len0 → ∃ x z, x0 = some x ∧ w.cell? (x.add i) = some (.int .i64 z)) :
    Calls Try.prog 6 #[.slice x0 len0 cap0, .int .i64 a1] w fun e w' => e = .returned (.bool true) ∧ Below w.heap.size w w' := by
  refine endWalk ?_
  obtain ⟨U, y, hu, hy, hyb⟩ := modArg a1 64 (by decide)
  exact core x0 len0 cap0 a1 w hx0 U y hu hy hyb

set_option maxRecDepth 100000 in
theorem lifted (os : Os) (started : os.Started) (H : Type) (enc : TypeId × Value → H) :
    ReturnsInHanded {} Try.checked os 6 .any (Rows.lineQueueSpec.pre6 enc Try.prog Try.f6 Rows.lineQueueRow.domain false) (Rows.lineQueueSpec.post enc Try.prog Try.f6 false true false false) := by
  refine returnsInHanded_of_change (C := Try.checked) own started (by kernel_rfl) Try.func6
    (ChangeSpec.witness6 (enc := enc) (C := Try.checked) false ⟨#[], #[.slice none 0 0, .int .i64 0], []⟩ 8 (by kernel_rfl) (by kernel_rfl) (by kernel_rfl) (by kernel_rfl)) ?_
  intro W base args ds gs before hval0 hW hcnd _
  have hval : ∀ (j : Nat) t v, Try.f6.params[j]? = some t → args[j]? = some v → Value.okWide Try.prog W .any base t v := hval0
  have hW' := hW
  obtain ⟨p, q, hA0, hV, rfl, hfz, hnd⟩ := hW
  have hA : DataW.TrodAll enc Try.prog W 0 (fun _ => true) true Try.f6.params.toList args.toList ds p := hA0
  rw [Try.params6] at hA hval
  obtain ⟨v0, vs0, d0, ds0, p0, q0, hargs, rfl, rfl, h0, r0⟩ := trodAll_cons hA
  obtain ⟨v1, vs1, d1, ds1, p1, q1, rfl, rfl, rfl, h1, r1⟩ := trodAll_cons r0
  obtain ⟨rfl, rfl, rfl⟩ := trodAll_nil r1
  obtain rfl : args = #[v0, v1] := by cases args; simp_all
  obtain ⟨rfl, rfl⟩ := trodVars_none hV
  obtain ⟨x0, len0, cap0, rfl⟩ := okWide_slice Try.underlying26 (hval 0 26 v0 rfl rfl)
  have hx0 := intsArg h0
  have k0 := h0
  have lt0 : ∀ x ∈ p0, x.block < W.heap.size := by obtain ⟨m, hm⟩ := k0; exact DataW.trod_lt m _ _ _ hm
  obtain ⟨a1, rfl, rfl, rfl, w1⟩ := open_int Try.underlying3 (hval 1 3 v1 rfl rfl) h1
  clear hA0 hval0
  refine (walk x0 len0 cap0 a1 W hx0).mono fun e W' ⟨he, bel⟩ => ?_
  subst he
  exact ⟨_, rfl, _, _, _, [], _, [], hW', trodAll_mk1 (shut_bool Try.underlying4 _), (trodAll_cons_mk (Below.trod laidOut (by kernel_rfl) (of_decide_eq_true (by kernel_rfl)) k0 bel lt0) (trodAll_cons_mk (shut_int Try.underlying3 w1) trodAll_mk0)), rfl, bel.frame _, fun h => by cases h⟩

theorem over : Rows.lineQueueRow.holds Try.pinned (OpenSpec.ofChange Rows.lineQueueSpec) :=
  OpenClaim.holds_of_wide 6 Try.f6 rfl rfl rfl rfl rfl rfl rfl ⟨rfl, rfl, rfl, rfl, rfl⟩ rfl rfl rfl rfl rfl (by kernel_rfl) Try.func6 (by kernel_rfl)
    (of_decide_eq_true (by kernel_rfl)) (by unfold Func.isWrapper; first | (rw [if_pos (by decide +kernel)]; kernel_rfl) | (rw [if_neg (by decide +kernel)]; exact ⟨rfl, rfl⟩))
    (fun os started H enc _ => lifted os started H enc)

theorem proved : Rows.LineQueueSaid := over
end Go.Proofs.Ytlekmpidhgjpdaa.lineQueue
namespace Go.Proofs.Ytlekmpidhgjpdaa
theorem lineQueue_holds : Rows.LineQueueSaid := lineQueue.proved
#print axioms lineQueue_holds
end Go.Proofs.Ytlekmpidhgjpdaa
