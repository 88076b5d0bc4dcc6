/- MovesTakes holds for every input: works, and then, whatever is planted and copied (at most fifty acts), what is taken out one by one, in any order, is what was there, and gone; what came of it comes of what it came of; at the end nothing is left, and both nodes are cleared. No condition. -/
import Derived.Test.YtkpcdfiebjigbaaWks
import Derived.Test.YtkpcdfiebjigbaaFall
import Derived.Deep.Cut
import Derived.Deep.CutRange
import Derived.Deep.DeepCutAuto
import Derived.Deep.CutBlock
import Derived.Deep.RegionHeld3
import Derived.Deep.LoopGhost
import Derived.Test.YtkpcdfiebjigbaaArgs
import Derived.ProofKit
import Derived.OpenShut
import Derived.ShutString
import Derived.ChangeOld
import Derived.Below
import Derived.Deep.Slices
namespace Go.Proofs.Ytkpcdfiebjigbaa.movesTakes
open Go.ChangeShapes Go.WideShapes Go.ChangeAt Go.RowKit
set_option linter.unusedVariables false

theorem own : ownKnob Try.prog.godebug = none := by kernel_rfl
theorem laidOut : laidOutB Try.prog = true := by kernel_rfl

set_option maxRecDepth 10000 in
set_option maxHeartbeats 8000000 in
theorem core (xo : Option Addr) (len cap : Nat) (xo2 : Option Addr) (len2 cap2 : Nat) (w : World) (HX : Hid (∀ i, i < len → ∃ x q, xo = some x ∧ El18 w (x.add (i * 18)) q ∧ Op18 q)) (HT : Hid (∀ i, i < len2 → ∃ x z, xo2 = some x ∧ w.cell? (x.add i) = some (.int .i64 z))) :
    Calls Try.prog 6 #[.slice xo len cap, .slice xo2 len2 cap2] w fun e w' => e = .returned (.bool true) ∧ Below w.heap.size w w' := by
  have qn := run_neq_cap
  have qg := eqGuardCap
  have qs := T9.run_neq_slots
  have qh := T9.eqGuardSlots
  go_enter Try.func6, Try.ntmps6
  go_wp2_with fail
  refine (works_is _).mono ?_
  rintro _ w1 ⟨rfl, g1⟩
  go_wp2_with fail
  refine (newCaps g1).mono ?_
  rintro _ w2 ⟨p, s, t, rfl, A, _⟩
  have H2 := hideIt A
  clear A g1
  go_wp2_with fail
  refine (H2.out.nodeA 0 3 0 (i64s _ (by decide) (by decide)) (by decide) (by decide +kernel)).mono ?_
  rintro _ w3 ⟨rfl, A, _⟩
  have H3 := hideIt A
  clear A H2
  go_wp2_with fail
  refine (H3.out.nodeA 1 3 0 (i64s _ (by decide) (by decide)) (by decide) (by decide +kernel)).mono ?_
  rintro _ w4 ⟨rfl, A, _⟩
  have H4 := hideIt A
  clear A H3
  have I4 : Hid (M.Inv (M.addS (M.addS (fun _ => none) 0 3) 1 3) .nil) := (M.Inv.none.same (fun x => M.gc_add _ _ _ x)).same (fun x => M.gc_add _ _ _ x)
  have J4 : Hid (M.Sh (M.addS (M.addS (fun _ => none) 0 3) 1 3)) := M.Sh.start
  generalize M.addS (M.addS (fun _ => none) 0 3) 1 3 = S4 at H4 I4 J4
  go_wp2
  go_loopg [6] 50 (fun y i wr => ∃ (j : Nat) (S : St) (f : T9.Fo) (O : Nat → Prop), j + y = 50 ∧ i = .int .i64 j ∧ Hid (Cs w wr O p s t 2 S f) ∧ Hid (M.Inv S f) ∧ Hid (f.len ≤ j) ∧ Hid (M.Sh S))
  case atStart => exact ⟨0, S4, .nil, _, by omega, rfl, H4, I4, Nat.le_refl 0, J4⟩
  case round =>
    obtain ⟨j, S, f, O, hj, rfl, HC, HI, HL, HS⟩ := hrel
    by_cases hlt : j < len ∧ j < 50
    · obtain ⟨hlt, hlt2⟩ := hlt
      have hlt' : (j : Int) < (len : Int) := by omega
      have hlt2' : (j : Int) < 50 := by omega
      obtain ⟨x, ⟨k0, a, a2, b, b2, d, d2, ⟨ck, co, cr, cb, cg, cn⟩, n, rt, bd, gd, bt⟩, rfl, E0, QQ⟩ := HX.out j hlt
      obtain ⟨ik, ia, ia2, ib, ib2, idd, id2, inn, hcb, hcg, hbd, hgd⟩ := QQ
      simp only at ik ia ia2 ib ib2 idd id2 inn hcb hcg hbd hgd
      have HE0 := hideIt E0
      have E := hideIt (E0.kept (gbTrans HC.out.gr (gbDrewN wr 1 none)))
      have e0 := (E0.kept HC.out.gr).at0
      simp only at e0
      clear E0
      have hm : f.len ≤ 1000 := Nat.le_trans HL.out (by omega)
      go_upto_block 2 with fail
      clear e0
      by_cases q2 : k0 = 2
      · subst q2
        go_upto_region 11 with fail
        have T0 : wr.drew.cell? ⟨(x.add (j * 18)).block, (x.add (j * 18)).off + 1, none⟩ = some (.int .i64 a) ∧ wr.drew.cell? ⟨(x.add (j * 18)).block, (x.add (j * 18)).off + 2, none⟩ = some (.int .i64 a2) ∧ wr.drew.cell? ⟨(x.add (j * 18)).block, (x.add (j * 18)).off + 7, none⟩ = some (.int .i64 ck) ∧ wr.drew.cell? ⟨(x.add (j * 18)).block, (x.add (j * 18)).off + 8, none⟩ = some (.int .i64 co) ∧ wr.drew.cell? ⟨(x.add (j * 18)).block, (x.add (j * 18)).off + 9, none⟩ = some (.int .i64 cr) ∧ wr.drew.cell? ⟨(x.add (j * 18)).block, (x.add (j * 18)).off + 10, none⟩ = some (.int .u64 cb) ∧ wr.drew.cell? ⟨(x.add (j * 18)).block, (x.add (j * 18)).off + 11, none⟩ = some (.int .u64 cg) ∧ wr.drew.cell? ⟨(x.add (j * 18)).block, (x.add (j * 18)).off + 12, none⟩ = some (.int .i64 cn) := ⟨E.out.at1, E.out.at2, E.out.at7, E.out.at8, E.out.at9, E.out.at10, E.out.at11, E.out.at12⟩
        go_region_held3 (fun w' => w'.cell? ⟨(x.add (j * 18)).block, (x.add (j * 18)).off + 1, none⟩ = some (.int .i64 a) ∧ w'.cell? ⟨(x.add (j * 18)).block, (x.add (j * 18)).off + 2, none⟩ = some (.int .i64 a2) ∧ w'.cell? ⟨(x.add (j * 18)).block, (x.add (j * 18)).off + 7, none⟩ = some (.int .i64 ck) ∧ w'.cell? ⟨(x.add (j * 18)).block, (x.add (j * 18)).off + 8, none⟩ = some (.int .i64 co) ∧ w'.cell? ⟨(x.add (j * 18)).block, (x.add (j * 18)).off + 9, none⟩ = some (.int .i64 cr) ∧ w'.cell? ⟨(x.add (j * 18)).block, (x.add (j * 18)).off + 10, none⟩ = some (.int .u64 cb) ∧ w'.cell? ⟨(x.add (j * 18)).block, (x.add (j * 18)).off + 11, none⟩ = some (.int .u64 cg) ∧ w'.cell? ⟨(x.add (j * 18)).block, (x.add (j * 18)).off + 12, none⟩ = some (.int .i64 cn))
          (first | with_reducible exact T0 | with_reducible exact T1 | fail)
          ((first | (go_at_call 10; refine ((HC.out.kept (gbDrewN wr 1 none)).plant HI.out a a2 ck co cr cb cg cn _ ia ia2 hcb hcg hm rfl).mono ?_; rintro _ w6 ⟨rfl, A, F⟩; have HA := hideIt A; have E6 := hideIt (HE0.out.kept A.gr); have T1 : w6.cell? ⟨(x.add (j * 18)).block, (x.add (j * 18)).off + 1, none⟩ = some (.int .i64 a) ∧ w6.cell? ⟨(x.add (j * 18)).block, (x.add (j * 18)).off + 2, none⟩ = some (.int .i64 a2) ∧ w6.cell? ⟨(x.add (j * 18)).block, (x.add (j * 18)).off + 7, none⟩ = some (.int .i64 ck) ∧ w6.cell? ⟨(x.add (j * 18)).block, (x.add (j * 18)).off + 8, none⟩ = some (.int .i64 co) ∧ w6.cell? ⟨(x.add (j * 18)).block, (x.add (j * 18)).off + 9, none⟩ = some (.int .i64 cr) ∧ w6.cell? ⟨(x.add (j * 18)).block, (x.add (j * 18)).off + 10, none⟩ = some (.int .u64 cb) ∧ w6.cell? ⟨(x.add (j * 18)).block, (x.add (j * 18)).off + 11, none⟩ = some (.int .u64 cg) ∧ w6.cell? ⟨(x.add (j * 18)).block, (x.add (j * 18)).off + 12, none⟩ = some (.int .i64 cn) := ⟨E6.out.at1, E6.out.at2, E6.out.at7, E6.out.at8, E6.out.at9, E6.out.at10, E6.out.at11, E6.out.at12⟩; clear A F E6) | fail))
        rename_i hold
        clear hold T0 T1 E HE0
        go_wp2
        go_roundg (gk - 1)
        case rel => exact ⟨j + 1, _, _, _, by omega, by go_num, HA, hideIt (HI.out.pla (a, a2) hcb hcg), hideIt (Nat.le_trans (M.len_pla S f (a, a2) _) (Nat.succ_le_succ HL.out)), hideIt (HS.out.pla (a, a2) _)⟩
        case measure => omega
      · have z2 : (k0 == 2) = false := by simpa using q2
        by_cases q4 : k0 = 4
        · subst q4
          go_upto_region 13 with fail
          have T0 : wr.drew.cell? ⟨(x.add (j * 18)).block, (x.add (j * 18)).off + 1, none⟩ = some (.int .i64 a) ∧ wr.drew.cell? ⟨(x.add (j * 18)).block, (x.add (j * 18)).off + 2, none⟩ = some (.int .i64 a2) ∧ wr.drew.cell? ⟨(x.add (j * 18)).block, (x.add (j * 18)).off + 3, none⟩ = some (.int .i64 b) ∧ wr.drew.cell? ⟨(x.add (j * 18)).block, (x.add (j * 18)).off + 4, none⟩ = some (.int .i64 b2) ∧ wr.drew.cell? ⟨(x.add (j * 18)).block, (x.add (j * 18)).off + 14, none⟩ = some (.int .i64 rt) := ⟨E.out.at1, E.out.at2, E.out.at3, E.out.at4, E.out.at14⟩
          go_region_held3 (fun w' => w'.cell? ⟨(x.add (j * 18)).block, (x.add (j * 18)).off + 1, none⟩ = some (.int .i64 a) ∧ w'.cell? ⟨(x.add (j * 18)).block, (x.add (j * 18)).off + 2, none⟩ = some (.int .i64 a2) ∧ w'.cell? ⟨(x.add (j * 18)).block, (x.add (j * 18)).off + 3, none⟩ = some (.int .i64 b) ∧ w'.cell? ⟨(x.add (j * 18)).block, (x.add (j * 18)).off + 4, none⟩ = some (.int .i64 b2) ∧ w'.cell? ⟨(x.add (j * 18)).block, (x.add (j * 18)).off + 14, none⟩ = some (.int .i64 rt))
            (first | with_reducible exact T0 | with_reducible exact T1 | fail)
            ((first | (go_at_call 11; refine ((HC.out.kept (gbDrewN wr 1 none)).copy HI.out a a2 b b2 rt _ ia ia2 ib ib2 hm rfl).mono ?_; rintro _ w6 ⟨rfl, A, F⟩; have HA := hideIt A; have E6 := hideIt (HE0.out.kept A.gr); have T1 : w6.cell? ⟨(x.add (j * 18)).block, (x.add (j * 18)).off + 1, none⟩ = some (.int .i64 a) ∧ w6.cell? ⟨(x.add (j * 18)).block, (x.add (j * 18)).off + 2, none⟩ = some (.int .i64 a2) ∧ w6.cell? ⟨(x.add (j * 18)).block, (x.add (j * 18)).off + 3, none⟩ = some (.int .i64 b) ∧ w6.cell? ⟨(x.add (j * 18)).block, (x.add (j * 18)).off + 4, none⟩ = some (.int .i64 b2) ∧ w6.cell? ⟨(x.add (j * 18)).block, (x.add (j * 18)).off + 14, none⟩ = some (.int .i64 rt) := ⟨E6.out.at1, E6.out.at2, E6.out.at3, E6.out.at4, E6.out.at14⟩; clear A F E6) | fail))
          rename_i hold
          clear hold T0 T1 E HE0
          go_wp2
          go_roundg (gk - 1)
          case rel => exact ⟨j + 1, _, _, _, by omega, by go_num, HA, hideIt (HI.out.cop (a, a2) (b, b2) rt), hideIt (Nat.le_trans (M.len_cop S HC.out.gt (a, a2) (b, b2) rt) (Nat.succ_le_succ HL.out)), hideIt (HS.out.cop (a, a2) (b, b2) rt)⟩
          case measure => omega
        · have z4 : (k0 == 4) = false := by simpa using q4
          go_wp2
          go_roundg (gk - 1)
          case rel => exact ⟨j + 1, S, f, _, by omega, by go_num, HC, HI, hideIt (Nat.le_succ_of_le HL.out), HS⟩
          case measure => omega
    · have h12 : ¬ (j < len ∧ j < 50) := hlt
      have HM : Hid (f.len ≤ 50) := Nat.le_trans HL.out (by omega)
      go_upto_region 7 with fail
      go_cut [35] (fun s wc => s = .bool false ∧ wc = wr)
      case first =>
        by_cases k1 : (j : Int) < (len : Int)
        · have k2 : ¬ (j : Int) < 50 := by omega
          go_wp2
          go_meet
          exact ⟨rfl, rfl⟩
        · go_wp2
          go_meet
          exact ⟨rfl, rfl⟩
      case rest =>
      obtain ⟨rfl, rfl⟩ := hcut
      clear hlt h12 hj HL
      have HR0 : Hid ((M.full S).length + 0 ≤ 16 ∨ M.full S = []) := .inl (HS.out.len HC.out.gs)
      go_wp2
      go_loopg [7] 20 (fun y i wr => ∃ (k : Nat) (S : St) (f : T9.Fo) (O : Nat → Prop), k + y = 20 ∧ i = .int .i64 k ∧ Hid (Cs w wr O p s t 2 S f) ∧ Hid (M.Inv S f) ∧ Hid (f.len ≤ 50) ∧ Hid (M.Sh S) ∧ Hid ((M.full S).length + k ≤ 16 ∨ M.full S = []))
      case atStart => exact ⟨0, S, f, _, by omega, rfl, HC, HI, HM, HS, HR0⟩
      clear HC HI HM HS HR0
      case round =>
        obtain ⟨k, S, f, O, hk, rfl, HC, HI, HM, HS, HR⟩ := hrel
        by_cases hk20 : k < 20
        · have hk' : (k : Int) < 20 := by omega
          have c0 := HC.out.c0
          go_wp2_with fail
          refine (HC.out.full).mono ?_
          rintro _ w6 ⟨vf, rfl, lf, g6⟩
          have LF6 := hideIt (LB.new HC.out lf)
          have HC6 := hideIt (HC.out.kept g6)
          clear lf c0 g6 HC
          obtain ⟨xf, cf, rfl⟩ := LF6.out.slice
          obtain ⟨L, hL⟩ : ∃ L, M.full S = L := ⟨_, rfl⟩
          have hLn : L.length ≤ 1024 := hL ▸ M.full_len S
          rw [hL] at LF6 HR ⊢
          have HLm : Hid (∀ x ∈ L, (M.gc S x).k ≠ 0) := fun x hx => (M.mem_full HC6.out.gs x).1 (hL ▸ hx)
          have HLL := hideIt hL
          clear hL
          by_cases hz : L.length = 0
          · have hz' : ((L.length : Int) == 0) = true := by simp [hz]
            have HEm : Hid (M.full S = []) := HLL.out.trans (List.eq_nil_of_length_eq_zero hz)
            have hd := hideIt (HS.out.clear HC6.out.gs HEm.out)
            have c0 := HC6.out.c0
            go_wp2_with fail
            refine (HC6.out.full).mono ?_
            rintro _ w7 ⟨vg, rfl, lg, g7⟩
            have LG := hideIt (LB.new HC6.out lg)
            rw [HEm.out] at LG
            have HC7 := hideIt (HC6.out.kept g7)
            clear lg c0 g7 HC6
            obtain ⟨xg, cg, rfl⟩ := LG.out.slice
            go_wp2_with fail
            refine (HC7.out.clear 0 0 (i64s _ (by decide) (by decide)) hd.out.1).mono ?_
            rintro _ w8 ⟨rfl, A, F⟩
            have HC8 := hideIt A
            clear A F HC7
            go_wp2_with fail
            refine (HC8.out.clear 1 0 (i64s _ (by decide) (by decide)) hd.out.2).mono ?_
            rintro _ w9 ⟨rfl, A, F⟩
            have HG := hideIt A.gr
            clear A F HC8
            go_wp2
            go_ret
            exact ⟨rfl, gbEnd HG.out⟩
          · have hz' : ((L.length : Int) == 0) = false := by simpa using hz
            have hRk : L.length + k ≤ 16 := HR.out.resolve_right (fun e => hz (by rw [e]; rfl))
            go_upto_if 91 with fail
            go_cut [9] from 88 to 101 (fun s9 wc => ∃ i0 : Nat, s9 = .int .i64 i0 ∧ i0 < L.length ∧ wc = w6)
            case first =>
              by_cases ht : k < len2
              · have ht' : (k : Int) < (len2 : Int) := by omega
                obtain ⟨xt, zt, rfl, hct⟩ := HT.out k ht
                have hc := HC6.out.gr.cell hct (by simp)
                obtain ⟨U, i0, hU, hU64, hi, hi0⟩ := turnIdx zt L.length (by omega) hLn
                have hln : IntKind.u64.wrap (L.length : Int) = (L.length : Int) := turnLen hLn
                have hz0 : (L.length : Int) ≠ 0 := by omega
                clear hct
                go_wp2
                go_meet
                exact ⟨i0, rfl, hi0, rfl⟩
              · have ht' : ¬ (k : Int) < (len2 : Int) := by omega
                go_wp2
                go_meet
                exact ⟨0, rfl, by omega, rfl⟩
            case rest =>
            obtain ⟨i0, rfl, hi0, hwc⟩ := hcut
            subst hwc
            have hm : f.len ≤ 1000 := Nat.le_trans HM.out (by decide)
            have hi0' : (i0 : Int) < (L.length : Int) := by omega
            obtain ⟨gg, A, B, rfl, hAB, E, _⟩ := LF6.out.el hi0
            have hkk := HLm.out (A, B) (List.mem_of_getElem? hAB)
            have hth := M.gc_th hkk
            obtain ⟨iA, iB⟩ := M.th_i64 HC6.out.gs hth
            have HGE := hideIt (M.getE_ok hth)
            have HSE := hideIt (M.srcE_yes hkk)
            have HFT := hideIt (M.full_tak HC6.out.gs HSE.out)
            rw [HLL.out] at HFT
            obtain ⟨⟨xk, xq, xr, xb, xg, xn⟩, hx⟩ : ∃ x, M.gc S (A, B) = x := ⟨_, rfl⟩
            have HXX := hideIt hx
            have HSC := hideIt ((M.srcC_ok HSE.out).trans hx)
            clear hkk hth hx hAB
            obtain ⟨e0, e1⟩ := E
            obtain ⟨wa, hwa⟩ : ∃ wa, wa = wc := ⟨_, rfl⟩
            subst hwa
            obtain ⟨Gk, rfl⟩ : ∃ Gk, Gk = gk := ⟨_, rfl⟩
            go_upto_region 23 with fail
            obtain ⟨W7, hW7, X7, g7⟩ := sboxNew wa A B
            rw [hW7]
            clear hW7 e0 e1
            have HX7 : Hid (SB W7 O wa.heap.size A B) := ⟨X7, fun e => absurd (HC6.out.lo _ e).2 (Nat.lt_irrefl _)⟩
            have HC7 := hideIt (HC6.out.kept g7)
            clear X7 g7 HC6 LF6
            obtain ⟨pn, h1⟩ : ∃ x, T9.oN (f.parent (A, B)) = x := ⟨_, rfl⟩
            obtain ⟨pa, h2⟩ : ∃ x, T9.oA (f.parent (A, B)) = x := ⟨_, rfl⟩
            obtain ⟨pb, h3⟩ : ∃ x, T9.oB (f.parent (A, B)) = x := ⟨_, rfl⟩
            have H1 := hideIt h1
            have H2 := hideIt h2
            have H3 := hideIt h3
            clear h1 h2 h3
            go_upto_region 23 with fail
            go_cut [11, 12] from 106 to 114 (fun sz se wc => ∃ Z : Nat, sz = .pointer (some ⟨Z, 0, none⟩) ∧ se = .bool pb ∧ Hid (SBox wc Z pn pa) ∧ Hid (W7.heap.size ≤ Z) ∧ Hid (W7.grownBy wc none))
            case first =>
              have T0b : Rx W7 p 1 t wa.heap.size 0 1 A B := ⟨HC7.out.c1, HX7.out.sb.at0, HX7.out.sb.at1⟩
              have T0 : Rx W7.drew p 1 t wa.heap.size 0 1 A B := T0b.kept (gbDrewN W7 1 none)
              go_region_held3 (fun w' => Rx w' p 1 t wa.heap.size 0 1 A B)
                (first | with_reducible exact T0 | (focus (refine Rx.kept T0b ?_; (repeat (first | with_reducible exact G6 | with_reducible exact gbRefl W7 none | with_reducible refine gbDrew ?_ | with_reducible refine gbAllocN ?_ _ | with_reducible refine gbSetNew ?_ _ _ _ (by with_reducible first | exact Nat.le_refl _ | exact G6.size))); done)) | fail)
                ((first | (go_at_call 24; refine ((HC7.out.kept (by repeat (first | with_reducible exact gbRefl W7 none | with_reducible refine gbDrew ?_ | with_reducible refine gbAllocN ?_ _))).parent A B iA iB pn pa pb H1.out H2.out H3.out).mono ?_; rintro _ u6 ⟨rfl, g6⟩; have hc6 := gcell g6; have hf6 := gfroz g6; have G6 : W7.grownBy u6 none := (by first | exact gbTrans (gbDrewN W7 1 none) g6 | exact gbTrans (gbDrew (gbAllocN (gbRefl W7 none) _)) g6)) | fail))
              · rename_i hold
                clear hold T0
                obtain ⟨W6, hW6, Z6, g7⟩ := sboxNew u6 pn pa
                rw [hW6]
                go_wp2
                go_meet
                exact ⟨_, rfl, rfl, Z6, G6.size, gbTrans G6 g7⟩
              · rename_i hold
                clear hold T0
                have Z0 : SBox u6 W7.heap.size 0 0 := ((SBox.made W7 0 0).kept (gbDrew (gbRefl _ none))).kept g6
                obtain ⟨W6, hW6, Z6, g7⟩ := Z0.put pn pa
                rw [hW6]
                go_wp2
                go_meet
                exact ⟨_, rfl, rfl, Z6, Nat.le_refl _, gbNew (gbTrans (gbAny G6 _) g7) (Nat.le_refl _)⟩
            case rest =>
            obtain ⟨Z11, rfl, rfl, HZ11, hZ11, G11⟩ := hcut
            obtain ⟨w8, hw8⟩ : ∃ w7, w7 = wc := ⟨_, rfl⟩
            subst hw8
            have HC8 := hideIt (HC7.out.kept G11.out)
            have HX8 := hideIt (HX7.out.kept G11.out)
            have HP8 : Hid (SB w8 O Z11 pn pa) := ⟨HZ11.out, fun e => absurd (HC7.out.lo _ e).2 (Nat.not_lt.2 hZ11.out)⟩
            have hcl : (f.children (A, B)).length ≤ 1000 := Nat.le_trans (M.children_len f (A, B)) hm
            clear HC7 HX7 HZ11 hZ11 G11
            go_upto_region 24 with fail
            have T0 : Rx w8.drew p 1 t wa.heap.size 0 1 A B := Rx.kept ⟨HC8.out.c1, HX8.out.sb.at0, HX8.out.sb.at1⟩ (gbDrewN w8 1 none)
            go_region_held3 (fun w' => Rx w' p 1 t wa.heap.size 0 1 A B)
              (first | with_reducible exact T0 | with_reducible exact T1 | fail)
              ((first | (go_at_call 25; refine ((HC8.out.kept (gbDrewN w8 1 none)).children A B iA iB hcl).mono ?_; rintro _ w9 ⟨vc, rfl, lk, g6⟩; have Gw9 : w8.grownBy w9 none := gbTrans (gbDrewN w8 1 none) g6; have T1 : Rx w9 p 1 t wa.heap.size 0 1 A B := T0.kept g6; have LC9 := hideIt (LB.new (HC8.out.kept (gbDrewN w8 1 none)) lk); clear lk; clear g6) | fail))
            rename_i hold
            clear hold T0 T1
            have HC9 := hideIt (HC8.out.kept Gw9)
            have HX9 := hideIt (HX8.out.kept Gw9)
            have HP9 := hideIt (HP8.out.kept Gw9)
            clear HC8 HX8 HP8 Gw9
            obtain ⟨KL, hKL⟩ : ∃ K, f.children (A, B) = K := ⟨_, rfl⟩
            have HKm : Hid (∀ c ∈ KL, (M.takF S f (A, B)).parent c = f.parent (A, B)) := fun c hc => M.tak_children HI.out HC9.out.gt HSE.out (hKL ▸ hc)
            have HKi : Hid (∀ c ∈ KL, I64 c.1 ∧ I64 c.2) := fun c hc => by
              have hcp : c ∈ f.pre := by
                rw [← hKL] at hc
                unfold T9.Fo.children at hc
                cases hs : f.sub (A, B) with
                | none => rw [hs] at hc; cases hc
                | some dd => rw [hs] at hc; exact T9.Fo.sub_pre hs (T9.Fo.tops_pre hc)
              exact HC9.out.gt.num c hcp
            rw [hKL] at LC9 hcl
            clear hKL
            obtain ⟨xl, cl, rfl⟩ := LC9.out.slice
            go_upto_region 25 with fail
            go_cut [14, 15] from 121 to 129 (fun sz se wc => ∃ Z : Nat, sz = .pointer (some ⟨Z, 0, none⟩) ∧ se = .int .i64 0 ∧ Hid (Box wc Z ⟨xk, xq, xr, xb, xg, xn⟩) ∧ Hid (w9.heap.size ≤ Z) ∧ Hid (w9.grownBy wc none))
            case first =>
              have T0b : Rx w9 p 0 s wa.heap.size 0 1 A B := ⟨HC9.out.c0, HX9.out.sb.at0, HX9.out.sb.at1⟩
              have T0 : Rx w9.drew p 0 s wa.heap.size 0 1 A B := T0b.kept (gbDrewN w9 1 none)
              go_region_held3 (fun w' => Rx w' p 0 s wa.heap.size 0 1 A B)
                (first | with_reducible exact T0 | (focus (refine Rx.kept T0b ?_; (repeat (first | with_reducible exact G6 | with_reducible exact gbRefl w9 none | with_reducible refine gbDrew ?_ | with_reducible refine gbAllocN ?_ _ | with_reducible refine gbSetNew ?_ _ _ _ (by with_reducible first | exact Nat.le_refl _ | exact G6.size))); done)) | fail)
                ((first | (go_at_call 17; refine ((HC9.out.kept (by repeat (first | with_reducible exact gbRefl w9 none | with_reducible refine gbDrew ?_ | with_reducible refine gbAllocN ?_ _))).get A B _ _ _ _ _ _ _ iA HXX.out HGE.out).mono ?_; rintro _ u6 ⟨rfl, g6⟩; have hc6 := gcell g6; have hf6 := gfroz g6; have G6 : w9.grownBy u6 none := (by first | exact gbTrans (gbDrewN w9 1 none) g6 | exact gbTrans (gbDrew (gbAllocN (gbRefl w9 none) _)) g6)) | fail))
              · rename_i hold
                clear hold T0
                obtain ⟨W6, hW6, Z6, g7⟩ := boxNew u6 ⟨xk, xq, xr, xb, xg, xn⟩
                simp only at hW6
                rw [hW6]
                go_wp2
                go_meet
                exact ⟨_, rfl, rfl, Z6, G6.size, gbTrans G6 g7⟩
              · rename_i hold
                clear hold T0
                have Z0 : Box u6 w9.heap.size C.zero := ((Box.made w9 C.zero).kept (gbDrew (gbRefl _ none))).kept g6
                obtain ⟨W6, hW6, Z6, g7⟩ := Z0.put ⟨xk, xq, xr, xb, xg, xn⟩
                simp only at hW6
                rw [hW6]
                go_wp2
                go_meet
                exact ⟨_, rfl, rfl, Z6, Nat.le_refl _, gbNew (gbTrans (gbAny G6 _) g7) (Nat.le_refl _)⟩
            case rest =>
            obtain ⟨Z14, rfl, rfl, HZ14, hZ14, G14⟩ := hcut
            obtain ⟨w10, hw10⟩ : ∃ w7, w7 = wc := ⟨_, rfl⟩
            subst hw10
            have HC10 := hideIt (HC9.out.kept G14.out)
            have HX10 := hideIt (HX9.out.kept G14.out)
            have HP10 := hideIt (HP9.out.kept G14.out)
            have LC10 := hideIt (LC9.out.kept G14.out)
            have HB10 : Hid (BB w10 O Z14 ⟨xk, xq, xr, xb, xg, xn⟩) := ⟨HZ14.out, fun e => absurd (HC9.out.lo _ e).2 (Nat.not_lt.2 hZ14.out)⟩
            clear HC9 HX9 HP9 LC9 HZ14 hZ14 G14
            obtain ⟨x0, x1⟩ := HX10.out.sb.tup
            go_wp2_with fail
            refine (HC10.out.takeA HI.out A B xk xq xr xb xg xn 0 iA iB hm HSC.out HSE.out).mono ?_
            rintro _ w11 ⟨rfl, A', F⟩
            have HC11 := hideIt A'
            have HP11 := hideIt (HP10.out.call F)
            have LC11 := hideIt (LC10.out.call F)
            have HB11 := hideIt (HB10.out.call F)
            have HI11 := hideIt (HI.out.tak HC10.out.gt (A, B))
            have HM11 : Hid ((M.takF S f (A, B)).len ≤ 50) := Nat.le_trans (M.len_tak0 S HC10.out.gt (A, B)) HM.out
            have HS11 := hideIt (HS.out.tak (A, B))
            clear A' F x0 x1 HC10 HX10 HP10 LC10 HB10
            obtain ⟨S', hS'⟩ : ∃ S', M.takS S (A, B) = S' := ⟨_, rfl⟩
            obtain ⟨f', hf'⟩ : ∃ f', M.takF S f (A, B) = f' := ⟨_, rfl⟩
            rw [hS'] at HC11 HI11 HS11 HFT
            rw [hf'] at HC11 HI11 HM11 HKm
            clear hS' hf'
            go_upto_region 27 with fail
            obtain ⟨W12, hW12, Z12, g12⟩ := boxNew w11 ⟨xk, xq, xr, xb, xg, xn⟩
            simp only at hW12
            rw [hW12]
            clear hW12
            have HC12 := hideIt (HC11.out.kept g12)
            have HP12 := hideIt (HP11.out.kept g12)
            have LC12 := hideIt (LC11.out.kept g12)
            obtain ⟨z0, z1, z2, z3, z4, z5⟩ := Z12.tup
            obtain ⟨y0, y1, y2, y3, y4, y5⟩ := (HB11.out.kept g12).bx.tup
            simp only at z0 z1 z2 z3 z4 z5 y0 y1 y2 y3 y4 y5
            have qx := M.eq_refl ⟨xk, xq, xr, xb, xg, xn⟩
            have c0 := HC12.out.c0
            clear HC11 HP11 LC11 HB11 g12 Z12
            go_wp2_with fail
            refine (HC12.out.full).mono ?_
            rintro _ w13 ⟨vg, rfl, lg, g13⟩
            have LG := hideIt (LB.new HC12.out lg)
            have HC13 := hideIt (HC12.out.kept g13)
            have HP13 := hideIt (HP12.out.kept g13)
            have LC13 := hideIt (LC12.out.kept g13)
            obtain ⟨xg2, cg2, rfl⟩ := LG.out.slice
            have hl1 : (L.length : Int) - 1 = ((M.full S').length : Int) := by have := HFT.out; omega
            clear lg g13 HC12 HP12 LC12 LG c0 z0 z1 z2 z3 z4 z5 y0 y1 y2 y3 y4 y5
            go_wp2
            go_loopg [18] KL.length (fun y i wr => ∃ e : Nat, e + y = KL.length ∧ i = .int .i64 e ∧ Hid (w13.grownBy wr none))
            case atStart => exact ⟨0, by omega, rfl, gbRefl _ _⟩
            case round =>
              obtain ⟨e, he, rfl, gx⟩ := hrel
              by_cases hle : e < KL.length
              · have hle' : (e : Int) < (KL.length : Int) := by omega
                obtain ⟨gh, A2, B2, rfl, hAB2, E2, _⟩ := (LC13.out.kept gx.out).el hle
                have HE2 := hideIt E2
                have HC14 := hideIt (HC13.out.kept gx.out)
                have HP14 := hideIt (HP13.out.kept gx.out)
                have hpar := HKm.out (A2, B2) (List.mem_of_getElem? hAB2)
                obtain ⟨iA2, iB2⟩ := HKi.out (A2, B2) (List.mem_of_getElem? hAB2)
                have K1 : Hid (T9.oN (f'.parent (A2, B2)) = pn) := by rw [hpar]; exact H1.out
                have K2 : Hid (T9.oA (f'.parent (A2, B2)) = pa) := by rw [hpar]; exact H2.out
                have K3 : Hid (T9.oB (f'.parent (A2, B2)) = pb) := by rw [hpar]; exact H3.out
                clear hpar E2 hAB2
                obtain ⟨wp, rfl⟩ : ∃ wp, wp = wr := ⟨_, rfl⟩
                go_upto_region 32 with fail
                go_cut [19, 20] from 161 to 172 (fun sz se wc => ∃ Z : Nat, sz = .pointer (some ⟨Z, 0, none⟩) ∧ se = .bool pb ∧ Hid (SBox wc Z pn pa) ∧ Hid (wp.heap.size ≤ Z) ∧ Hid (wp.grownBy wc none))
                case first =>
                  have T0b : Rx wp p 1 t gh (e * 2) (e * 2 + 1) A2 B2 := ⟨HC14.out.c1, HE2.out.at0, HE2.out.at1⟩
                  have T0 : Rx wp.drew p 1 t gh (e * 2) (e * 2 + 1) A2 B2 := T0b.kept (gbDrewN wp 1 none)
                  go_region_held3 (fun w' => Rx w' p 1 t gh (e * 2) (e * 2 + 1) A2 B2)
                    (first | with_reducible exact T0 | (focus (refine Rx.kept T0b ?_; (repeat (first | with_reducible exact G6 | with_reducible exact gbRefl wp none | with_reducible refine gbDrew ?_ | with_reducible refine gbAllocN ?_ _ | with_reducible refine gbSetNew ?_ _ _ _ (by with_reducible first | exact Nat.le_refl _ | exact G6.size))); done)) | fail)
                    ((first | (go_at_call 24; refine ((HC14.out.kept (by repeat (first | with_reducible exact gbRefl wp none | with_reducible refine gbDrew ?_ | with_reducible refine gbAllocN ?_ _))).parent A2 B2 iA2 iB2 pn pa pb K1.out K2.out K3.out).mono ?_; rintro _ u6 ⟨rfl, g6⟩; have hc6 := gcell g6; have hf6 := gfroz g6; have G6 : wp.grownBy u6 none := (by first | exact gbTrans (gbDrewN wp 1 none) g6 | exact gbTrans (gbDrew (gbAllocN (gbRefl wp none) _)) g6)) | fail))
                  · rename_i hold
                    clear hold T0
                    obtain ⟨W6, hW6, Z6, g7⟩ := sboxNew u6 pn pa
                    rw [hW6]
                    go_wp2
                    go_meet
                    exact ⟨_, rfl, rfl, Z6, G6.size, gbTrans G6 g7⟩
                  · rename_i hold
                    clear hold T0
                    have Z0 : SBox u6 wp.heap.size 0 0 := ((SBox.made wp 0 0).kept (gbDrew (gbRefl _ none))).kept g6
                    obtain ⟨W6, hW6, Z6, g7⟩ := Z0.put pn pa
                    rw [hW6]
                    go_wp2
                    go_meet
                    exact ⟨_, rfl, rfl, Z6, Nat.le_refl _, gbNew (gbTrans (gbAny G6 _) g7) (Nat.le_refl _)⟩
                case rest =>
                obtain ⟨Z19, rfl, rfl, HZ19, hZ19, G19⟩ := hcut
                have HPa := hideIt (HP14.out.kept G19.out)
                obtain ⟨z0, z1⟩ := HZ19.out.tup
                obtain ⟨y0, y1⟩ := HPa.out.sb.tup
                have qq := T9.M.seq_refl pn pa
                go_wp2
                go_roundg (gk - 1)
                case rel => exact ⟨e + 1, by omega, by go_num, gbTrans gx.out G19.out⟩
                case measure => omega
              · have hle' : ¬ (e : Int) < (KL.length : Int) := by omega
                go_wp2
                go_roundg (Gk - 1)
                case rel => exact ⟨k + 1, _, _, _, by omega, by go_num, hideIt (HC13.out.kept gx.out), HI11, HM11, HS11, hideIt (.inl (by have := HFT.out; omega))⟩
                case measure => omega
        · have hk' : ¬ (k : Int) < 20 := by omega
          have HEm : Hid (M.full S = []) := HR.out.resolve_left (by omega)
          have HC6 := HC
          have hd := hideIt (HS.out.clear HC6.out.gs HEm.out)
          have c0 := HC6.out.c0
          go_wp2_with fail
          refine (HC6.out.full).mono ?_
          rintro _ w7 ⟨vg, rfl, lg, g7⟩
          have LG := hideIt (LB.new HC6.out lg)
          rw [HEm.out] at LG
          have HC7 := hideIt (HC6.out.kept g7)
          clear lg c0 g7 HC6
          obtain ⟨xg, cg, rfl⟩ := LG.out.slice
          go_wp2_with fail
          refine (HC7.out.clear 0 0 (i64s _ (by decide) (by decide)) hd.out.1).mono ?_
          rintro _ w8 ⟨rfl, A, F⟩
          have HC8 := hideIt A
          clear A F HC7
          go_wp2_with fail
          refine (HC8.out.clear 1 0 (i64s _ (by decide) (by decide)) hd.out.2).mono ?_
          rintro _ w9 ⟨rfl, A, F⟩
          have HG := hideIt A.gr
          clear A F HC8
          go_wp2
          go_ret
          exact ⟨rfl, gbEnd HG.out⟩

theorem walk (x0 : Option Addr) (len0 cap0 : Nat) (x1 : Option Addr) (len1 cap1 : Nat) (w : World) (hx0 : ∀ i, i < len0 → ∃ x q, x0 = some x ∧ El18 w (x.add (i * 18)) q ∧ Op18 q) (hx1 : ∀ i, i < len1 → ∃ x z, x1 = some x ∧ w.cell? (x.add i) = some (.int .i64 z)) :
    Calls Try.prog 6 #[.slice x0 len0 cap0, .slice x1 len1 cap1] w fun e w' => e = .returned (.bool true) ∧ Below w.heap.size w w' := core x0 len0 cap0 x1 len1 cap1 w hx0 hx1

set_option maxRecDepth 100000 in
theorem lifted (os : Os) (started : os.Started) (H : Type) (enc : TypeId × Value → H) :
    ReturnsInHanded {} Try.checked os 6 .any (Rows.movesTakesSpec.pre6 enc Try.prog Try.f6 Rows.movesTakesRow.domain false) (Rows.movesTakesSpec.post enc Try.prog Try.f6 false true false false) := by
  refine returnsInHanded_of_change (C := Try.checked) own started (by kernel_rfl) Try.func6
    (ChangeSpec.witness6 (enc := enc) (C := Try.checked) false ⟨#[], #[.slice none 0 0, .slice none 0 0], []⟩ 8 (by kernel_rfl) (by kernel_rfl) (by kernel_rfl) (by kernel_rfl)) ?_
  intro W base args ds gs before hval0 hW hcnd _
  have hval : ∀ (j : Nat) t v, Try.f6.params[j]? = some t → args[j]? = some v → Value.okWide Try.prog W .any base t v := hval0
  have hW' := hW
  obtain ⟨p, q, hA0, hV, rfl, hfz, hnd⟩ := hW
  have hA : DataW.TrodAll enc Try.prog W 0 (fun _ => true) true Try.f6.params.toList args.toList ds p := hA0
  rw [Try.params6] at hA hval
  obtain ⟨v0, vs0, d0, ds0, p0, q0, hargs, rfl, rfl, h0, r0⟩ := trodAll_cons hA
  obtain ⟨v1, vs1, d1, ds1, p1, q1, rfl, rfl, rfl, h1, r1⟩ := trodAll_cons r0
  obtain ⟨rfl, rfl, rfl⟩ := trodAll_nil r1
  obtain rfl : args = #[v0, v1] := by cases args; simp_all
  obtain ⟨rfl, rfl⟩ := trodVars_none hV
  obtain ⟨x0, len0, cap0, rfl⟩ := okWide_slice Try.underlying22 (hval 0 22 v0 rfl rfl)
  have hx0 := opsArg h0
  have k0 := h0
  have lt0 : ∀ x ∈ p0, x.block < W.heap.size := by obtain ⟨m, hm⟩ := k0; exact DataW.trod_lt m _ _ _ hm
  obtain ⟨x1, len1, cap1, rfl⟩ := okWide_slice Try.underlying56 (hval 1 56 v1 rfl rfl)
  have hx1 := intsArg h1
  have k1 := h1
  have lt1 : ∀ x ∈ p1, x.block < W.heap.size := by obtain ⟨m, hm⟩ := k1; exact DataW.trod_lt m _ _ _ hm
  clear hA0 hval0
  refine (walk x0 len0 cap0 x1 len1 cap1 W hx0 hx1).mono fun e W' ⟨he, bel⟩ => ?_
  subst he
  exact ⟨_, rfl, _, _, _, [], _, [], hW', trodAll_mk1 (shut_bool Try.underlying4 _), (trodAll_cons_mk (Below.trod laidOut (by kernel_rfl) (of_decide_eq_true (by kernel_rfl)) k0 bel lt0) (trodAll_cons_mk (Below.trod laidOut (by kernel_rfl) (of_decide_eq_true (by kernel_rfl)) k1 bel lt1) trodAll_mk0)), rfl, bel.frame _, fun h => by cases h⟩

theorem over : Rows.movesTakesRow.holds Try.pinned (OpenSpec.ofChange Rows.movesTakesSpec) :=
  OpenClaim.holds_of_wide 6 Try.f6 rfl rfl rfl rfl rfl rfl rfl ⟨rfl, rfl, rfl, rfl, rfl⟩ rfl rfl rfl rfl rfl (by kernel_rfl) Try.func6 (by kernel_rfl)
    (of_decide_eq_true (by kernel_rfl)) (by unfold Func.isWrapper; first | (rw [if_pos (by decide +kernel)]; kernel_rfl) | (rw [if_neg (by decide +kernel)]; exact ⟨rfl, rfl⟩))
    (fun os started H enc _ => lifted os started H enc)

theorem proved : Rows.MovesTakesSaid := over
end Go.Proofs.Ytkpcdfiebjigbaa.movesTakes
namespace Go.Proofs.Ytkpcdfiebjigbaa
theorem movesTakes_holds : Rows.MovesTakesSaid := movesTakes.proved
#print axioms movesTakes_holds
end Go.Proofs.Ytkpcdfiebjigbaa
