/- SlotsCounts: whatever is put into two nodes: as many capabilities name objects of a kind as there are slots with one of it, all kinds together are all slots that are not empty, these are told in their order, and Null is none of them; no condition. -/
import Derived.Test.YtjlkinocpkcghaaFacts
import Derived.Deep.Cut
import Derived.Test.YtjlkinocpkcghaaArgs
import Derived.ProofKit
import Derived.OpenShut
import Derived.ShutString
import Derived.ChangeOld
import Derived.Below
import Derived.Deep.Slices
namespace Go.Proofs.Ytjlkinocpkcghaa.slotsCounts
open Go.ChangeShapes Go.WideShapes Go.ChangeAt Go.RowKit
set_option linter.unusedVariables false

theorem own : ownKnob Try.prog.godebug = none := by kernel_rfl
theorem laidOut : laidOutB Try.prog = true := by kernel_rfl

set_option maxRecDepth 10000 in
set_option maxHeartbeats 4000000 in
theorem core (xo : Option Addr) (len cap : Nat) (w : World) (HX : Hid (∀ i, i < len → ∃ x k n s m c, xo = some x ∧ El10 w (x.add (i * 10)) k n s m c ∧ Op10 n s c)) :
    Calls Try.prog 5 #[.slice xo len cap] w fun e w' => e = .returned (.bool true) ∧ Below w.heap.size w w' := by
  go_enter Try.func5, Try.ntmps5
  go_wp2_with fail
  refine (works_any _).mono ?_
  rintro _ w1 ⟨rfl, g1⟩
  go_wp2_with fail
  refine (new_is _).mono ?_
  rintro _ w2 ⟨p, rfl, A2, g2⟩
  have HA2 : Hid (SAt w2 p 0 (fun i => w.heap.size ≤ i) (fun _ => none)) := hideIt (A2.mono (fun i hi => Nat.le_trans g1.size hi.1) (Nat.le_refl _))
  clear A2
  have B2 : Below w.heap.size w w2 := gbEnd (gbTrans g1 g2)
  have Z2 : w.heap.size ≤ w2.heap.size := (gbTrans g1 g2).size
  go_wp2_with fail
  refine (add_is HA2.out Good.none 0 4 0 (by decide) (by omega) (by decide +kernel)).mono ?_
  rintro _ w3 ⟨rfl, A3, F3⟩
  have HA3 : Hid (SAt w3 p 1 (fun i => w.heap.size ≤ i) (M.addS (fun _ => none) 0 4)) := hideIt (A3.mono (fun i hi => by rcases hi with h | ⟨rfl, _⟩; exact h; exact Z2) (Nat.le_refl _))
  have B3 := B2.trans (F3.below w.heap.size Z2 (fun _ h => h))
  have Z3 := Nat.le_trans Z2 F3.size
  clear A3 F3
  go_wp2_with fail
  refine (add_is HA3.out (Good.none.add 0 4) 1 2 0 (by decide) (by omega) (by decide +kernel)).mono ?_
  rintro _ w4 ⟨rfl, A4, F4⟩
  have HA4 : Hid (SAt w4 p 2 (fun i => w.heap.size ≤ i) (M.addS (M.addS (fun _ => none) 0 4) 1 2)) := hideIt (A4.mono (fun i hi => by rcases hi with h | ⟨rfl, _⟩; exact h; exact Z3) (Nat.le_refl _))
  have HG4 : Hid (Good (M.addS (M.addS (fun _ => none) 0 4) 1 2)) := hideIt ((Good.none.add 0 4).add 1 2)
  have B4 := B3.trans (F4.below w.heap.size Z3 (fun _ h => h))
  clear A4 F4 Z3
  generalize M.addS (M.addS (fun _ => none) 0 4) 1 2 = S4 at HA4 HG4
  go_wp2
  go_loopg [4] 60 (fun y i wr => ∃ (j : Nat) (S : St), j + y = 60 ∧ i = .int .i64 j ∧ Hid (Good S) ∧ Hid (SAt wr p 2 (fun i => w.heap.size ≤ i) S) ∧ Below w.heap.size w wr)
  case atStart => exact ⟨0, S4, by omega, rfl, HG4, HA4, B4⟩
  case round =>
    obtain ⟨j, S, hj, rfl, HG, HA, bw⟩ := hrel
    by_cases hlt : j < len ∧ j < 60
    · obtain ⟨hlt, hlt2⟩ := hlt
      have hlt' : (j : Int) < (len : Int) := by omega
      have hlt2' : (j : Int) < 60 := by omega
      obtain ⟨x, k0, n, s, m, ⟨k, o, r, b, g, t⟩, rfl, E0, ⟨hn, _, hb, hg⟩⟩ := HX.out j hlt
      have E := E0.low bw
      have E00 := hideIt E0
      have HP := fun w' (h : SAt w' p 2 (fun i => w.heap.size ≤ i) S) => put_is h HG.out n s k o r b g t _ hn hb hg rfl
      have HP2 := hideIt HP
      have HA' := hideIt (HA.out.kept (gbDrewN wr 1 none))
      obtain ⟨_, e1, e2, _, e4, e5, e6, e7, e8, e9⟩ := E
      simp only at e4 e5 e6 e7 e8 e9 hb hg
      clear HP E0 hn hb hg
      go_wp2
      go_region_held3 (fun w' => w'.cell? ⟨(x.add (j * 10)).block, (x.add (j * 10)).off + 1, none⟩ = some (.int .i64 n) ∧ w'.cell? ⟨(x.add (j * 10)).block, (x.add (j * 10)).off + 2, none⟩ = some (.int .i64 s) ∧ w'.cell? ⟨(x.add (j * 10)).block, (x.add (j * 10)).off + 4, none⟩ = some (.int .i64 k) ∧ w'.cell? ⟨(x.add (j * 10)).block, (x.add (j * 10)).off + 5, none⟩ = some (.int .i64 o) ∧ w'.cell? ⟨(x.add (j * 10)).block, (x.add (j * 10)).off + 6, none⟩ = some (.int .i64 r) ∧ w'.cell? ⟨(x.add (j * 10)).block, (x.add (j * 10)).off + 7, none⟩ = some (.int .u64 b) ∧ w'.cell? ⟨(x.add (j * 10)).block, (x.add (j * 10)).off + 8, none⟩ = some (.int .u64 g) ∧ w'.cell? ⟨(x.add (j * 10)).block, (x.add (j * 10)).off + 9, none⟩ = some (.int .i64 t))
        (first | exact ⟨e1, e2, e4, e5, e6, e7, e8, e9⟩ | go_keep | exact ⟨HE5.out.at1, HE5.out.at2, HE5.out.at4, HE5.out.at5, HE5.out.at6, HE5.out.at7, HE5.out.at8, HE5.out.at9⟩ | fail)
        ((go_at_call 11; refine (HP2.out _ HA'.out).mono ?_; rintro _ w5 ⟨rfl, A5, F5⟩; have BL : Below w.heap.size wr w5 := (gbBelow (Below.refl _ _) (gbDrewN wr 1 none) bw.size (by simp)).trans (F5.below w.heap.size bw.size (fun _ h => h)); have A5 := hideIt A5; have HE5 := hideIt (E00.out.low (bw.trans BL)); clear F5))
      rename_i hold
      clear hold e1 e2 e4 e5 e6 e7 e8 e9 HE5 E00
      go_wp2
      go_roundg (gk - 1)
      case rel => exact ⟨j + 1, _, by omega, by go_num, hideIt (HG.out.put n s _), A5, bw.trans BL⟩
      case measure => omega
    · obtain ⟨L, hL⟩ : ∃ L, L = M.full S := ⟨_, rfl⟩
      have HL := hideIt hL
      have hlen : Hid (L.length ≤ 1024) := hideIt (by rw [hL]; exact M.fullTo_len S 64)
      clear hL
      have HC := fun w' (h : SAt w' p 2 (fun i => w.heap.size ≤ i) S) (k o : Nat) => count_is h HG.out k o _ rfl
      have HC2 : Hid (∀ w' : World, SAt w' p 2 (fun i => w.heap.size ≤ i) S → ∀ k o : Nat, Calls Try.prog 19 #[.pointer (some ⟨p, 0, none⟩), .int .i64 k, .int .i64 o] w' fun e w'' => e = .returned (.int .i64 (M.cntL S k o L : Nat)) ∧ w'.grownBy w'' none) := hideIt (fun w' h k o => by
        rw [HL.out]; exact HC w' h k o)
      clear HC
      have bw0 := hideIt bw
      clear bw
      have h12 : ¬ (j < len ∧ j < 60) := hlt
      by_cases h1 : j < len
      · have h1' : (j : Int) < (len : Int) := by omega
        have h2' : ¬ (j : Int) < 60 := by omega
        go_wp2
        obtain ⟨w5, hw5⟩ : ∃ w5, w5 = wr := ⟨_, rfl⟩
        subst hw5
        clear hj hlt
        go_loopg [5, 6] 12 (fun y nn kk wk => ∃ k t : Nat, k + y = 12 ∧ kk = .int .i64 k ∧ nn = .int .i64 t ∧ Hid (t = M.ts S L k) ∧ w5.grownBy wk none)
        case atStart => exact ⟨0, 0, by omega, rfl, rfl, hideIt rfl, gbRefl _ _⟩
        case round =>
          obtain ⟨k, t, hk, rfl, rfl, HT, gw⟩ := hrel
          by_cases hk12 : k < 12
          · have hk' : (k : Int) ≤ 11 := by omega
            go_wp2
            obtain ⟨Gk, hGk⟩ : ∃ Gk, Gk = gk := ⟨_, rfl⟩
            subst hGk
            go_loopg [5, 7] 64 (fun y nn oo wk => ∃ o t : Nat, o + y = 64 ∧ oo = .int .i64 o ∧ nn = .int .i64 t ∧ Hid (t = M.ts S L k + M.rs S k L o) ∧ w5.grownBy wk none)
            case atStart => exact ⟨0, t, by omega, rfl, rfl, hideIt (by rw [HT.out]; rfl), gw⟩
            case round =>
              obtain ⟨o, t2, ho, rfl, rfl, HT2, gx⟩ := hrel
              by_cases ho64 : o < 64
              · have ho' : (o : Int) < 64 := by omega
                have bt : t2 ≤ 12 * (64 * 1024) + 64 * 1024 := by
                  have h1 := M.ts_le S L k
                  have h2 := M.rs_le S k L o
                  have h3 := hlen.out
                  have h4 := HT2.out
                  exact M.bound12 hk12 ho64 h3 h1 h2 h4
                obtain ⟨c, hc⟩ : ∃ c, M.cntL S k o L = c := ⟨_, rfl⟩
                have bc : c ≤ 1024 := by rw [← hc]; exact Nat.le_trans (M.cntL_le _ _ _ _) hlen.out
                have HCC := HC2.out wr (HA.out.kept gx) k o
                rw [hc] at HCC
                have Hc := hideIt hc
                clear hc
                go_wp2_with fail
                refine HCC.mono ?_
                rintro _ w6 ⟨rfl, g6⟩
                clear HCC
                go_wp2
                go_roundg (gk - 1)
                case rel => exact ⟨o + 1, t2 + c, by omega, by go_num, by go_num, hideIt (by rw [M.rs, Hc.out, HT2.out, Nat.add_assoc]), gbTrans gx g6⟩
                case measure => omega
              · have ho' : ¬ (o : Int) < 64 := by omega
                obtain rfl : o = 64 := by omega
                go_wp2
                go_roundg (Gk - 1)
                case rel => exact ⟨k + 1, t2, by omega, by go_num, rfl, hideIt (by rw [HT2.out]; rfl), gx⟩
                case measure => omega
          · have hk' : ¬ (k : Int) ≤ 11 := by omega
            obtain rfl : k = 12 := by omega
            have HTn : Hid (t = L.length) := hideIt (by rw [HT.out, HL.out]; exact M.ts_full HG.out)
            have HN : Hid (∀ w', SAt w' p 2 (fun i => w.heap.size ≤ i) S → Calls Try.prog 19 #[.pointer (some ⟨p, 0, none⟩), .int .i64 0, .int .i64 0] w' fun e w'' => e = .returned (.int .i64 0) ∧ w'.grownBy w'' none) := hideIt (fun w' h => count_is h HG.out 0 0 0 (by rw [M.cnt_null HG.out]; rfl))
            go_wp2_with fail
            refine (full_is (HA.out.kept gw)).mono ?_
            rintro _ w6 ⟨v, rfl, hl6, g6⟩
            rw [← HL.out] at hl6
            have G6 := gbTrans gw g6
            rcases hl6.form with ⟨rfl, hnil⟩ | ⟨gg, cap6, rfl, hcap, _, _, hcap2, hrow⟩
            · have ht0 : t = 0 := by rw [HTn.out, hnil]; rfl
              subst ht0
              clear hl6 hnil
              go_wp2
              refine wp_loop_rounds 1 ?_
              rw [rounds_succ]
              go_wp2_with fail
              refine (HN.out _ (HA.out.kept G6)).mono ?_
              rintro _ w7 ⟨rfl, g7⟩
              go_wp2
              go_ret
              exact ⟨rfl, bw0.out.trans (gbBelow (Below.refl _ _) (gbTrans G6 g7) bw0.out.size (by simp))⟩
            · obtain ⟨ln, hln⟩ : ∃ ln, L.length = ln := ⟨_, rfl⟩
              have hln2 := hideIt hln
              rw [hln]
              have htl : t = ln := by rw [HTn.out, hln]
              subst htl
              have hR := hideIt hrow
              have hlen2 : t ≤ 1024 := by have := hlen.out; omega
              clear hl6 hrow hln hcap
              go_wp2
              go_loopg [9] t (fun y i wk => ∃ c : Nat, (c + y = t + 1 ∨ (c = 1 ∧ t = 0)) ∧ 1 ≤ c ∧ i = .int .i64 c ∧ w6.grownBy wk none)
              case atStart => exact ⟨1, by omega, by omega, rfl, gbRefl _ _⟩
              case round =>
                obtain ⟨c, hc, hc1, rfl, gx⟩ := hrel
                by_cases hct : c < t
                · have hct' : (c : Int) < (t : Int) := by omega
                  obtain ⟨d, hd⟩ : ∃ d : Nat, (c : Int) - 1 = (d : Int) ∧ d + 1 = c ∧ d < t := ⟨c - 1, by omega, by omega, by omega⟩
                  obtain ⟨hd, hdc, hdt⟩ := hd
                  obtain ⟨⟨a1, a2⟩, ha⟩ : ∃ q, L[d]? = some q := ⟨_, List.getElem?_eq_getElem (by rw [hln2.out]; omega)⟩
                  obtain ⟨⟨b1, b2⟩, hb⟩ : ∃ q, L[c]? = some q := ⟨_, List.getElem?_eq_getElem (by rw [hln2.out]; omega)⟩
                  have hlex : M.lex (a1, a2) (b1, b2) := M.full_step S (i := d) (by rw [← HL.out]; exact ha) (by rw [← HL.out, hdc]; exact hb)
                  have E1 := (hR.out.kept gx) d _ ha
                  have E2 := (hR.out.kept gx) c _ hb
                  rw [Addr.add_lit, Nat.zero_add] at E1 E2
                  obtain ⟨p0, p1⟩ := E1
                  obtain ⟨q0, q1⟩ := E2
                  simp only at p0 p1 q0 q1
                  have HLX := hideIt hlex
                  clear hlex ha hb
                  have hdt' : (d : Int) < (t : Int) := by omega
                  have hd0 : (0 : Int) ≤ (d : Int) := by omega
                  have hc0 : (0 : Int) ≤ (c : Int) := by omega
                  have hwd : wrap64 ((c : Int) - 1) = (d : Int) := by rw [hd]; unfold wrap64; omega
                  have hwd2 : IntKind.i64.wrap ((c : Int) - 1) = (d : Int) := by rw [hd, IntKind.wrap_i64]; omega
                  go_wp2
                  clear hd
                  go_region_held3 (fun w' => w'.cell? ⟨gg, d * 2, none⟩ = some (.int .i64 a1) ∧ w'.cell? ⟨gg, d * 2 + 1, none⟩ = some (.int .i64 a2) ∧ w'.cell? ⟨gg, c * 2, none⟩ = some (.int .i64 b1) ∧ w'.cell? ⟨gg, c * 2 + 1, none⟩ = some (.int .i64 b2))
                    (first | exact ⟨p0, p1, q0, q1⟩ | go_keep | (refine ⟨?_, ?_, ?_, ?_⟩ <;> simp_all) | fail)
                    (fail)
                  · rename_i hold
                    clear hold p0 p1 q0 q1
                    obtain ⟨W7, hW7, X7, Y7, g7⟩ := twoSlots wr a1 a2 b1 b2
                    rw [hW7]
                    clear hW7
                    have x0 := X7.at0
                    have x1 := X7.at1
                    have y0 := Y7.at0
                    have y1 := Y7.at1
                    rcases HLX.out with hq | ⟨hq, hq2⟩
                    · have h1 : ¬ (b1 < a1) := by simp only at hq; omega
                      have h2 : (a1 == b1) = false := by simp only at hq; simp; omega
                      clear hq
                      go_wp2
                      go_roundg (gk - 1)
                      case rel => exact ⟨c + 1, by omega, by omega, by go_num, gbTrans gx g7⟩
                      case measure => omega
                    · have h1 : ¬ (b1 < a1) := by simp only at hq; omega
                      have h2 : (a1 == b1) = true := by simp only at hq; simp; omega
                      have h3 : ¬ (b2 ≤ a2) := by simp only at hq2; omega
                      clear hq hq2
                      go_wp2
                      go_roundg (gk - 1)
                      case rel => exact ⟨c + 1, by omega, by omega, by go_num, gbTrans gx g7⟩
                      case measure => omega
                  · rename_i hold
                    clear hold p0 p1 q0 q1
                    obtain ⟨W7, hW7, X7, Y7, g7⟩ := twoSlots wr b1 b2 a1 a2
                    rw [hW7]
                    clear hW7
                    have x0 := Y7.at0
                    have x1 := Y7.at1
                    have y0 := X7.at0
                    have y1 := X7.at1
                    rcases HLX.out with hq | ⟨hq, hq2⟩
                    · have h1 : ¬ (b1 < a1) := by simp only at hq; omega
                      have h2 : (a1 == b1) = false := by simp only at hq; simp; omega
                      clear hq
                      go_wp2
                      go_roundg (gk - 1)
                      case rel => exact ⟨c + 1, by omega, by omega, by go_num, gbTrans gx g7⟩
                      case measure => omega
                    · have h1 : ¬ (b1 < a1) := by simp only at hq; omega
                      have h2 : (a1 == b1) = true := by simp only at hq; simp; omega
                      have h3 : ¬ (b2 ≤ a2) := by simp only at hq2; omega
                      clear hq hq2
                      go_wp2
                      go_roundg (gk - 1)
                      case rel => exact ⟨c + 1, by omega, by omega, by go_num, gbTrans gx g7⟩
                      case measure => omega
                · have hct' : ¬ (c : Int) < (t : Int) := by omega
                  go_wp2_with fail
                  refine (HN.out _ (HA.out.kept (gbTrans G6 gx))).mono ?_
                  rintro _ w7 ⟨rfl, g7⟩
                  go_wp2
                  go_ret
                  exact ⟨rfl, bw0.out.trans (gbBelow (Below.refl _ _) (gbTrans (gbTrans G6 gx) g7) bw0.out.size (by simp))⟩
      · have h1' : ¬ (j : Int) < (len : Int) := by omega
        go_wp2
        obtain ⟨w5, hw5⟩ : ∃ w5, w5 = wr := ⟨_, rfl⟩
        subst hw5
        clear hj hlt
        go_loopg [5, 6] 12 (fun y nn kk wk => ∃ k t : Nat, k + y = 12 ∧ kk = .int .i64 k ∧ nn = .int .i64 t ∧ Hid (t = M.ts S L k) ∧ w5.grownBy wk none)
        case atStart => exact ⟨0, 0, by omega, rfl, rfl, hideIt rfl, gbRefl _ _⟩
        case round =>
          obtain ⟨k, t, hk, rfl, rfl, HT, gw⟩ := hrel
          by_cases hk12 : k < 12
          · have hk' : (k : Int) ≤ 11 := by omega
            go_wp2
            obtain ⟨Gk, hGk⟩ : ∃ Gk, Gk = gk := ⟨_, rfl⟩
            subst hGk
            go_loopg [5, 7] 64 (fun y nn oo wk => ∃ o t : Nat, o + y = 64 ∧ oo = .int .i64 o ∧ nn = .int .i64 t ∧ Hid (t = M.ts S L k + M.rs S k L o) ∧ w5.grownBy wk none)
            case atStart => exact ⟨0, t, by omega, rfl, rfl, hideIt (by rw [HT.out]; rfl), gw⟩
            case round =>
              obtain ⟨o, t2, ho, rfl, rfl, HT2, gx⟩ := hrel
              by_cases ho64 : o < 64
              · have ho' : (o : Int) < 64 := by omega
                have bt : t2 ≤ 12 * (64 * 1024) + 64 * 1024 := by
                  have h1 := M.ts_le S L k
                  have h2 := M.rs_le S k L o
                  have h3 := hlen.out
                  have h4 := HT2.out
                  exact M.bound12 hk12 ho64 h3 h1 h2 h4
                obtain ⟨c, hc⟩ : ∃ c, M.cntL S k o L = c := ⟨_, rfl⟩
                have bc : c ≤ 1024 := by rw [← hc]; exact Nat.le_trans (M.cntL_le _ _ _ _) hlen.out
                have HCC := HC2.out wr (HA.out.kept gx) k o
                rw [hc] at HCC
                have Hc := hideIt hc
                clear hc
                go_wp2_with fail
                refine HCC.mono ?_
                rintro _ w6 ⟨rfl, g6⟩
                clear HCC
                go_wp2
                go_roundg (gk - 1)
                case rel => exact ⟨o + 1, t2 + c, by omega, by go_num, by go_num, hideIt (by rw [M.rs, Hc.out, HT2.out, Nat.add_assoc]), gbTrans gx g6⟩
                case measure => omega
              · have ho' : ¬ (o : Int) < 64 := by omega
                obtain rfl : o = 64 := by omega
                go_wp2
                go_roundg (Gk - 1)
                case rel => exact ⟨k + 1, t2, by omega, by go_num, rfl, hideIt (by rw [HT2.out]; rfl), gx⟩
                case measure => omega
          · have hk' : ¬ (k : Int) ≤ 11 := by omega
            obtain rfl : k = 12 := by omega
            have HTn : Hid (t = L.length) := hideIt (by rw [HT.out, HL.out]; exact M.ts_full HG.out)
            have HN : Hid (∀ w', SAt w' p 2 (fun i => w.heap.size ≤ i) S → Calls Try.prog 19 #[.pointer (some ⟨p, 0, none⟩), .int .i64 0, .int .i64 0] w' fun e w'' => e = .returned (.int .i64 0) ∧ w'.grownBy w'' none) := hideIt (fun w' h => count_is h HG.out 0 0 0 (by rw [M.cnt_null HG.out]; rfl))
            go_wp2_with fail
            refine (full_is (HA.out.kept gw)).mono ?_
            rintro _ w6 ⟨v, rfl, hl6, g6⟩
            rw [← HL.out] at hl6
            have G6 := gbTrans gw g6
            rcases hl6.form with ⟨rfl, hnil⟩ | ⟨gg, cap6, rfl, hcap, _, _, hcap2, hrow⟩
            · have ht0 : t = 0 := by rw [HTn.out, hnil]; rfl
              subst ht0
              clear hl6 hnil
              go_wp2
              refine wp_loop_rounds 1 ?_
              rw [rounds_succ]
              go_wp2_with fail
              refine (HN.out _ (HA.out.kept G6)).mono ?_
              rintro _ w7 ⟨rfl, g7⟩
              go_wp2
              go_ret
              exact ⟨rfl, bw0.out.trans (gbBelow (Below.refl _ _) (gbTrans G6 g7) bw0.out.size (by simp))⟩
            · obtain ⟨ln, hln⟩ : ∃ ln, L.length = ln := ⟨_, rfl⟩
              have hln2 := hideIt hln
              rw [hln]
              have htl : t = ln := by rw [HTn.out, hln]
              subst htl
              have hR := hideIt hrow
              have hlen2 : t ≤ 1024 := by have := hlen.out; omega
              clear hl6 hrow hln hcap
              go_wp2
              go_loopg [9] t (fun y i wk => ∃ c : Nat, (c + y = t + 1 ∨ (c = 1 ∧ t = 0)) ∧ 1 ≤ c ∧ i = .int .i64 c ∧ w6.grownBy wk none)
              case atStart => exact ⟨1, by omega, by omega, rfl, gbRefl _ _⟩
              case round =>
                obtain ⟨c, hc, hc1, rfl, gx⟩ := hrel
                by_cases hct : c < t
                · have hct' : (c : Int) < (t : Int) := by omega
                  obtain ⟨d, hd⟩ : ∃ d : Nat, (c : Int) - 1 = (d : Int) ∧ d + 1 = c ∧ d < t := ⟨c - 1, by omega, by omega, by omega⟩
                  obtain ⟨hd, hdc, hdt⟩ := hd
                  obtain ⟨⟨a1, a2⟩, ha⟩ : ∃ q, L[d]? = some q := ⟨_, List.getElem?_eq_getElem (by rw [hln2.out]; omega)⟩
                  obtain ⟨⟨b1, b2⟩, hb⟩ : ∃ q, L[c]? = some q := ⟨_, List.getElem?_eq_getElem (by rw [hln2.out]; omega)⟩
                  have hlex : M.lex (a1, a2) (b1, b2) := M.full_step S (i := d) (by rw [← HL.out]; exact ha) (by rw [← HL.out, hdc]; exact hb)
                  have E1 := (hR.out.kept gx) d _ ha
                  have E2 := (hR.out.kept gx) c _ hb
                  rw [Addr.add_lit, Nat.zero_add] at E1 E2
                  obtain ⟨p0, p1⟩ := E1
                  obtain ⟨q0, q1⟩ := E2
                  simp only at p0 p1 q0 q1
                  have HLX := hideIt hlex
                  clear hlex ha hb
                  have hdt' : (d : Int) < (t : Int) := by omega
                  have hd0 : (0 : Int) ≤ (d : Int) := by omega
                  have hc0 : (0 : Int) ≤ (c : Int) := by omega
                  have hwd : wrap64 ((c : Int) - 1) = (d : Int) := by rw [hd]; unfold wrap64; omega
                  have hwd2 : IntKind.i64.wrap ((c : Int) - 1) = (d : Int) := by rw [hd, IntKind.wrap_i64]; omega
                  go_wp2
                  clear hd
                  go_region_held3 (fun w' => w'.cell? ⟨gg, d * 2, none⟩ = some (.int .i64 a1) ∧ w'.cell? ⟨gg, d * 2 + 1, none⟩ = some (.int .i64 a2) ∧ w'.cell? ⟨gg, c * 2, none⟩ = some (.int .i64 b1) ∧ w'.cell? ⟨gg, c * 2 + 1, none⟩ = some (.int .i64 b2))
                    (first | exact ⟨p0, p1, q0, q1⟩ | go_keep | (refine ⟨?_, ?_, ?_, ?_⟩ <;> simp_all) | fail)
                    (fail)
                  · rename_i hold
                    clear hold p0 p1 q0 q1
                    obtain ⟨W7, hW7, X7, Y7, g7⟩ := twoSlots wr a1 a2 b1 b2
                    rw [hW7]
                    clear hW7
                    have x0 := X7.at0
                    have x1 := X7.at1
                    have y0 := Y7.at0
                    have y1 := Y7.at1
                    rcases HLX.out with hq | ⟨hq, hq2⟩
                    · have h1 : ¬ (b1 < a1) := by simp only at hq; omega
                      have h2 : (a1 == b1) = false := by simp only at hq; simp; omega
                      clear hq
                      go_wp2
                      go_roundg (gk - 1)
                      case rel => exact ⟨c + 1, by omega, by omega, by go_num, gbTrans gx g7⟩
                      case measure => omega
                    · have h1 : ¬ (b1 < a1) := by simp only at hq; omega
                      have h2 : (a1 == b1) = true := by simp only at hq; simp; omega
                      have h3 : ¬ (b2 ≤ a2) := by simp only at hq2; omega
                      clear hq hq2
                      go_wp2
                      go_roundg (gk - 1)
                      case rel => exact ⟨c + 1, by omega, by omega, by go_num, gbTrans gx g7⟩
                      case measure => omega
                  · rename_i hold
                    clear hold p0 p1 q0 q1
                    obtain ⟨W7, hW7, X7, Y7, g7⟩ := twoSlots wr b1 b2 a1 a2
                    rw [hW7]
                    clear hW7
                    have x0 := Y7.at0
                    have x1 := Y7.at1
                    have y0 := X7.at0
                    have y1 := X7.at1
                    rcases HLX.out with hq | ⟨hq, hq2⟩
                    · have h1 : ¬ (b1 < a1) := by simp only at hq; omega
                      have h2 : (a1 == b1) = false := by simp only at hq; simp; omega
                      clear hq
                      go_wp2
                      go_roundg (gk - 1)
                      case rel => exact ⟨c + 1, by omega, by omega, by go_num, gbTrans gx g7⟩
                      case measure => omega
                    · have h1 : ¬ (b1 < a1) := by simp only at hq; omega
                      have h2 : (a1 == b1) = true := by simp only at hq; simp; omega
                      have h3 : ¬ (b2 ≤ a2) := by simp only at hq2; omega
                      clear hq hq2
                      go_wp2
                      go_roundg (gk - 1)
                      case rel => exact ⟨c + 1, by omega, by omega, by go_num, gbTrans gx g7⟩
                      case measure => omega
                · have hct' : ¬ (c : Int) < (t : Int) := by omega
                  go_wp2_with fail
                  refine (HN.out _ (HA.out.kept (gbTrans G6 gx))).mono ?_
                  rintro _ w7 ⟨rfl, g7⟩
                  go_wp2
                  go_ret
                  exact ⟨rfl, bw0.out.trans (gbBelow (Below.refl _ _) (gbTrans (gbTrans G6 gx) g7) bw0.out.size (by simp))⟩

theorem walk (xo : Option Addr) (len cap : Nat) (w : World) (hx : ∀ i, i < len → ∃ x k n s m c, xo = some x ∧ El10 w (x.add (i * 10)) k n s m c ∧ Op10 n s c) :
    Calls Try.prog 5 #[.slice xo len cap] w fun e w' => e = .returned (.bool true) ∧ Below w.heap.size w w' := core xo len cap w (hideIt hx)

set_option maxRecDepth 100000 in
theorem lifted (os : Os) (started : os.Started) (H : Type) (enc : TypeId × Value → H) :
    ReturnsInHanded {} Try.checked os 5 .any (Rows.slotsCountsSpec.pre6 enc Try.prog Try.f5 Rows.slotsCountsRow.domain false) (Rows.slotsCountsSpec.post enc Try.prog Try.f5 false true false false) := by
  refine returnsInHanded_of_change (C := Try.checked) own started (by kernel_rfl) Try.func5
    (ChangeSpec.witness6 (enc := enc) (C := Try.checked) false ⟨#[], #[.slice none 0 0], []⟩ 8 (by kernel_rfl) (by kernel_rfl) (by kernel_rfl) (by kernel_rfl)) ?_
  intro W base args ds gs before hval0 hW hcnd _
  have hval : ∀ (j : Nat) t v, Try.f5.params[j]? = some t → args[j]? = some v → Value.okWide Try.prog W .any base t v := hval0
  have hW' := hW
  obtain ⟨p, q, hA0, hV, rfl, hfz, hnd⟩ := hW
  have hA : DataW.TrodAll enc Try.prog W 0 (fun _ => true) true Try.f5.params.toList args.toList ds p := hA0
  rw [Try.params5] at hA hval
  obtain ⟨v0, vs0, d0, ds0, p0, q0, hargs, rfl, rfl, h0, r0⟩ := trodAll_cons hA
  obtain ⟨rfl, rfl, rfl⟩ := trodAll_nil r0
  obtain rfl : args = #[v0] := by cases args; simp_all
  obtain ⟨rfl, rfl⟩ := trodVars_none hV
  obtain ⟨x0, len0, cap0, rfl⟩ := okWide_slice Try.underlying22 (hval 0 22 v0 rfl rfl)
  have hx0 := opsArg h0
  have k0 := h0
  have lt0 : ∀ x ∈ p0, x.block < W.heap.size := by obtain ⟨m, hm⟩ := k0; exact DataW.trod_lt m _ _ _ hm
  clear hA0 hval0
  refine (walk x0 len0 cap0 W hx0).mono fun e W' ⟨he, bel⟩ => ?_
  subst he
  exact ⟨_, rfl, _, _, _, [], _, [], hW', trodAll_mk1 (shut_bool Try.underlying4 _), (trodAll_cons_mk (Below.trod laidOut (by kernel_rfl) (of_decide_eq_true (by kernel_rfl)) k0 bel lt0) trodAll_mk0), rfl, bel.frame _, fun h => by cases h⟩

theorem over : Rows.slotsCountsRow.holds Try.pinned (OpenSpec.ofChange Rows.slotsCountsSpec) :=
  OpenClaim.holds_of_wide 5 Try.f5 rfl rfl rfl rfl rfl rfl rfl ⟨rfl, rfl, rfl, rfl, rfl⟩ rfl rfl rfl rfl rfl (by kernel_rfl) Try.func5 (by kernel_rfl)
    (of_decide_eq_true (by kernel_rfl)) (by unfold Func.isWrapper; first | (rw [if_pos (by decide +kernel)]; kernel_rfl) | (rw [if_neg (by decide +kernel)]; exact ⟨rfl, rfl⟩))
    (fun os started H enc _ => lifted os started H enc)

theorem proved : Rows.SlotsCountsSaid := over
end Go.Proofs.Ytjlkinocpkcghaa.slotsCounts
namespace Go.Proofs.Ytjlkinocpkcghaa
theorem slotsCounts_holds : Rows.SlotsCountsSaid := slotsCounts.proved
#print axioms slotsCounts_holds
end Go.Proofs.Ytjlkinocpkcghaa
