/- RevokeChain holds for every input: works, and then, of nodes in one another (one to eight, each but the last with the next one's only capability, as many frames beside as find a place), Delete of the first one's, in however few steps a call, takes all of them, tells each once, the nodes from the innermost on, and leaves the first node alone, empty. No condition. -/
import Derived.Test.YtpfjcfgbecoccaaChb
import Derived.Deep.Cut
import Derived.Deep.DeepCutAuto
import Derived.Deep.RegionHeld3
import Derived.Test.YtpfjcfgbecoccaaArgs
import Derived.ProofKit
import Derived.OpenShut
import Derived.ShutString
import Derived.ChangeOld
import Derived.Below
import Derived.Deep.Slices
namespace Go.Proofs.Ytpfjcfgbecoccaa.revokeChain
open Go.ChangeShapes Go.WideShapes Go.ChangeAt Go.RowKit
set_option linter.unusedVariables false

theorem own : ownKnob Try.prog.godebug = none := by kernel_rfl
theorem laidOut : laidOutB Try.prog = true := by kernel_rfl

theorem turn1 (a : Int) (n : Nat) (h : 0 < n) (hn : n ≤ 1024) : ∃ U st : Nat, IntKind.u64.wrap a = (U : Int) ∧ U < 18446744073709551616 ∧ 1 + (U : Int) % (n : Int) = (st : Int) ∧ 1 ≤ st ∧ st < n + 1 := by
  obtain ⟨U, i0, h1, h2, h3, h4⟩ := turnIdx a n h hn
  exact ⟨U, i0 + 1, h1, h2, by simp only [Int.natCast_add] at *; omega, by omega, by omega⟩
/-- What has been told so far, beside the parts. -/
structure Td (w wr : World) (O : Nat → Prop) (v : Value) (T : List C) : Prop where
  tl : TL wr w.heap.size v T
  no : ∀ k, v.ownBlock = some k → ¬ O k
theorem run_append_tl (w : World) (B B' : Nat) (v tv : Value) (T K : List C) (h : TL w B v T) (k : TL w B' tv K) (hn : T.length + K.length ≤ 100000) (hB : B ≤ w.heap.size) :
    ∃ tx tn tc v' w', tv = .slice tx tn tc ∧ (Builtin.append_ #[40, 40] 40 #[v, .slice tx tn tc]).run Try.prog w = .ok v' w' ∧ TL w' B v' (T ++ K) ∧ w.grownBy w' v.ownBlock ∧ (v'.ownBlock = v.ownBlock ∨ v'.ownBlock = some w.heap.size) := by
  rcases k.form with ⟨rfl, rfl⟩ | ⟨g, cap, rfl, _, _, _, _, hc⟩
  · obtain ⟨v', w', h1, h2⟩ := run_append_caps w B v T h 40 none 0 0 [] rfl (fun _ => rfl) (fun _ e => by cases e) (by omega) hB
    exact ⟨_, _, _, v', w', rfl, h1, h2⟩
  · obtain ⟨v', w', h1, h2⟩ := run_append_caps w B v T h 40 (some ⟨g, 0, none⟩) K.length cap K rfl (fun e => by cases e) (fun ad e => by cases e; exact hc) hn hB
    exact ⟨_, _, _, v', w', rfl, h1, h2⟩
/-- Behind the append. -/
theorem Td.app {w w7 w8 : World} {O : Nat → Prop} {p s t m : Nat} {S : St} {f : T9.Fo} {v v' : Value} {T U : List C} (C : Cs w w7 O p s t m S f) (h : Td w w7 O v T) (a : TL w8 w.heap.size v' U) (g : w7.grownBy w8 v.ownBlock) (o : v'.ownBlock = v.ownBlock ∨ v'.ownBlock = some w7.heap.size) : Cs w w8 O p s t m S f ∧ Td w w8 O v' U := by
  refine ⟨?_, a, fun k hk e => ?_⟩
  · cases e : v.ownBlock with
    | none => rw [e] at g; exact C.kept g
    | some k => rw [e] at g; exact C.keep g (h.no k e) (h.tl.lt k e).1
  · rcases o with o | o
    · rw [o] at hk; exact h.no k hk e
    · rw [o] at hk; cases hk; have := (C.lo _ e).2; omega
set_option maxRecDepth 10000 in
set_option maxHeartbeats 8000000 in
theorem core (a0 a1 : Int) (xo : Option Addr) (len cap : Nat) (w : World) (HX : Hid (∀ i, i < len → ∃ x z, xo = some x ∧ w.cell? (x.add i) = some (.int .i64 z))) :
    Calls Try.prog 6 #[.int .i64 a0, .int .i64 a1, .slice xo len cap] w fun e w' => e = .returned (.bool true) ∧ Below w.heap.size w w' := by
  obtain ⟨U0, n, hU0, hU02, hn0, hn1, hn8⟩ := turn1 a0 8 (by omega) (by omega)
  obtain ⟨U1, st, hU1, hU12, hst0, hs1, hs4⟩ := turn1 a1 4 (by omega) (by omega)
  have hn0' : 1 + (U0 : Int) % 8 = (n : Int) := hn0
  have hst0' : 1 + (U1 : Int) % 4 = (st : Int) := hst0
  clear hn0 hst0
  go_enter Try.func6, Try.ntmps6
  go_wp2_with fail
  refine (works_is _).mono ?_
  rintro _ w1 ⟨rfl, g1⟩
  go_wp2_with fail
  refine (newCaps g1).mono ?_
  rintro _ w2 ⟨p, s, t, rfl, A, _⟩
  have H2 := hideIt A
  clear A g1 hU0 hU1 hn0' hst0'
  go_wp2
  go_loopg [8] 20 (fun y i wr => ∃ (j : Nat) (S : St) (O : Nat → Prop), j + y = 20 ∧ j ≤ n + 1 ∧ i = .int .i64 j ∧ Hid (Cs w wr O p s t j S .nil) ∧ Hid (M.Bn S j))
  case atStart => exact ⟨0, _, _, by omega, by omega, rfl, H2, M.Bn.start⟩
  case round =>
    clear H2
    obtain ⟨j, S, O, hj, hjn, rfl, HC, HB⟩ := hrel
    by_cases hlt : j ≤ n
    · have hlt' : (j : Int) ≤ (n : Int) := by omega
      go_wp2_with fail
      refine (HC.out.nodeA j 2 0 (i64s _ (by omega) (by omega)) (by omega) (HB.out.next (by omega)).1).mono ?_
      rintro _ w3 ⟨rfl, A, _⟩
      have H3 := hideIt A
      have HB3 := hideIt (HB.out.next (by omega)).2
      clear A
      go_wp2
      go_roundg (gk - 1)
      case rel => exact ⟨j + 1, _, _, by omega, by omega, by go_num, H3, HB3⟩
      case measure => omega
    · have hlt' : ¬ (j : Int) ≤ (n : Int) := by omega
      obtain rfl : j = n + 1 := by omega
      have HN := hideIt HB.out.chain
      clear HB
      go_wp2
      clear hlt hlt' hj hjn
      go_loopg [9] 20 (fun y i wr => ∃ (j : Nat) (S : St) (f : T9.Fo) (O : Nat → Prop), j + y = 20 ∧ j ≤ n ∧ i = .int .i64 ((j + 1 : Nat) : Int) ∧ Hid (Cs w wr O p s t (n + 1) S f) ∧ Hid (M.Cn S f n j))
      case atStart => exact ⟨0, _, _, _, by omega, by omega, rfl, HC, HN⟩
      case round =>
        clear HC HN
        obtain ⟨j, S, f, O, hj, hjn, rfl, HC, HN⟩ := hrel
        obtain ⟨j1, hj1⟩ : ∃ j1, j + 1 = j1 := ⟨_, rfl⟩
        rw [hj1]
        by_cases hlt : j < n
        · have hlt' : (j1 : Int) ≤ (n : Int) := by omega
          have hsub : (j1 : Int) - 1 = (j : Int) := by omega
          have hlen := HN.out.len
          obtain ⟨he, hnx⟩ := HN.out.next hlt (by omega)
          rw [hj1] at he hnx
          have HNX := hideIt hnx
          clear hnx
          go_wp2_with fail
          refine (HC.out.plant HN.out.i j 1 2 j1 0 0 0 0 0 (i64s _ (by omega) (by omega)) (i64s _ (by decide) (by decide)) (by decide) (by decide) (by omega) he).mono ?_
          rintro _ w3 ⟨rfl, A, _⟩
          have H3 := hideIt A
          clear A he
          go_wp2
          go_roundg (gk - 1)
          case rel => exact ⟨j + 1, _, _, _, by omega, by omega, by rw [hj1]; go_num, H3, hideIt (by have := HNX.out; rw [← hj1] at this ⊢; exact this)⟩
          case measure => omega
        · have hlt' : ¬ (j1 : Int) ≤ (n : Int) := by omega
          obtain rfl : j = n := by omega
          have HF := hideIt HN.out.frames
          clear HN
          go_wp2
          clear hlt hlt' hj hjn hj1
          go_loopg [10, 11] 20 (fun y s10 s11 wr => ∃ (fr i : Nat) (S : St) (f : T9.Fo) (O : Nat → Prop), i + y = 20 ∧ i ≤ 12 ∧ fr ≤ i ∧ i ≤ len ∧ s10 = .int .i64 fr ∧ s11 = .int .i64 i ∧ Hid (Cs w wr O p s t (j + 1) S f) ∧ Hid (M.Cf S f j fr i))
          case atStart => exact ⟨0, 0, _, _, _, by omega, by omega, by omega, by omega, rfl, rfl, HC, HF⟩
          case round =>
            clear HC HF
            obtain ⟨fr, i, S, f, O, hi, hi12, hfi, hil, rfl, rfl, HC, HF⟩ := hrel
            by_cases hlt : i < len ∧ i < 12
            · obtain ⟨hlt, hlt2⟩ := hlt
              have hlt' : (i : Int) < (len : Int) := by omega
              have hlt2' : (i : Int) < 12 := by omega
              obtain ⟨x, z, rfl, hz0⟩ := HX.out i hlt
              have hz := HC.out.gr.cell hz0 (by simp)
              obtain ⟨V, i0, hV, hV64, hVi, hi0⟩ := turnIdx z j (by omega) (by omega)
              have hln : IntKind.u64.wrap (j : Int) = (j : Int) := turnLen (by omega)
              have hne : (j : Int) ≠ 0 := by omega
              have hne' : ¬ j = 0 := by omega
              obtain ⟨nd, hnd⟩ : ∃ nd : Nat, i0 + 1 = nd := ⟨_, rfl⟩
              have hndI : 1 + (i0 : Int) = (nd : Int) := by omega
              obtain ⟨b, hb, hb2⟩ : ∃ b : Nat, i % 2 = b ∧ b < 2 := ⟨_, rfl, Nat.mod_lt _ (by omega)⟩
              have hbI : (i : Int) % 2 = (b : Int) := by omega
              obtain ⟨sa, hsa⟩ : ∃ sa : Nat, 2 * b = sa := ⟨_, rfl⟩
              have hsaI : 2 * (b : Int) = (sa : Int) := by omega
              obtain ⟨ob, hob⟩ : ∃ ob : Nat, 20 + i = ob := ⟨_, rfl⟩
              have hobI : 20 + (i : Int) = (ob : Int) := by omega
              clear hz0
              go_upto_region 20 with fail
              obtain ⟨W3, hW3, ⟨x0, x1, _⟩, g3⟩ := sboxNew wr nd sa
              rw [hW3]
              clear hW3 hV hVi hz hndI hbI hsaI
              have HC3 := hideIt (HC.out.kept g3)
              have hlen := HF.out.len
              obtain ⟨pe, hpe⟩ : ∃ e, M.plaE S ((nd : Int), (sa : Int)) ⟨6, (ob : Int), 1, 0, 0, 0⟩ = e := ⟨_, rfl⟩
              go_wp2_with fail
              refine (HC3.out.plant HF.out.iv nd sa 6 ob 1 0 0 0 pe (i64s _ (by omega) (by omega)) (i64s _ (by omega) (by omega)) (by decide) (by decide) (by omega) hpe).mono ?_
              rintro _ w4 ⟨rfl, A, _⟩
              have hfrc : (⟨6, (ob : Int), 1, 0, 0, 0⟩ : C) = M.frc i := by rw [← hobI]
              have H4 := hideIt A
              clear A
              cases hv : (pe == 0) with
              | true =>
                have hp0 : M.plaE S ((nd : Int), (sa : Int)) (M.frc i) = 0 := by rw [← hfrc, hpe]; simpa using hv
                have HF4 := hideIt (HF.out.yes (nd := nd) (a := sa) (by omega) (by omega) (by omega) hp0)
                rw [← hfrc] at HF4
                go_wp2
                go_roundg (gk - 1)
                case rel => exact ⟨fr + 1, i + 1, _, _, _, by omega, by omega, by omega, by omega, by go_num, by go_num, H4, HF4⟩
                case measure => omega
              | false =>
                have hp0 : M.plaE S ((nd : Int), (sa : Int)) ⟨6, (ob : Int), 1, 0, 0, 0⟩ ≠ 0 := by rw [hpe]; simpa using hv
                have HF4 : Hid (M.Cf (M.plaS S ((nd : Int), (sa : Int)) ⟨6, (ob : Int), 1, 0, 0, 0⟩) (M.plaF S f ((nd : Int), (sa : Int)) ⟨6, (ob : Int), 1, 0, 0, 0⟩) j fr (i + 1)) := hideIt (by rw [(M.pla_no (f := f) hp0).1, (M.pla_no (f := f) hp0).2]; exact HF.out.no)
                go_wp2
                go_roundg (gk - 1)
                case rel => exact ⟨fr, i + 1, _, _, _, by omega, by omega, by omega, by omega, rfl, by go_num, H4, HF4⟩
                case measure => omega
            · go_upto_region 17 with fail
              go_cut [62] from 55 to 62 (fun b wc => b = .bool false ∧ wc = wr)
              case first =>
                by_cases e1 : i < len
                · have e1' : (i : Int) < (len : Int) := by omega
                  have e2 : ¬ (i : Int) < 12 := fun e2 => hlt ⟨e1, by omega⟩
                  go_wp2
                  go_meet
                  exact ⟨rfl, rfl⟩
                · have e1' : ¬ (i : Int) < (len : Int) := by omega
                  go_wp2
                  go_meet
                  exact ⟨rfl, rfl⟩
              case rest =>
              obtain ⟨rfl, hwc⟩ := hcut
              subst hwc
              obtain ⟨TT, hTT⟩ : ∃ TT, j + fr = TT := ⟨_, rfl⟩
              have hlen0 : f.len = TT := by rw [← hTT]; exact HF.out.len
              have hTT20 : TT ≤ 20 := by omega
              have hTI : (j : Int) + (fr : Int) = (TT : Int) := by omega
              obtain ⟨j0, hj0⟩ : ∃ j0, j = j0 + 1 := ⟨j - 1, by omega⟩
              have HCh : Hid (M.Ch S (j0 + 1)) := hideIt (by rw [← hj0]; exact HF.out.ch)
              have HI0 := hideIt HF.out.iv
              have Hj0 := hideIt hj0
              have hjpos : 1 ≤ j := by omega
              clear hj0 hTT
              clear HF hlt hi hi12 hfi hil
              go_wp2
              go_loopg [13, 14] 60 (fun y s13 s14 wr => ∃ (c m : Nat) (T : List C) (S : St) (f : T9.Fo) (O : Nat → Prop), c + y = 60 ∧ s14 = .int .i64 c ∧ Hid (Cs w wr O p s t (j + 1) S f) ∧ Hid (Td w wr O s13 T) ∧ Hid (M.Ch S (m + 1)) ∧ Hid (M.Inv S f) ∧ Hid (M.ndl T j (m + 1)) ∧ Hid (T.length + f.len = TT) ∧ f.len + c ≤ TT)
              case atStart => exact ⟨0, j0, [], S, f, _, by omega, rfl, HC, hideIt ⟨TL.nil _ _, (fun k hk => by cases hk)⟩, HCh, HI0, hideIt (by rw [Hj0.out]; rfl), hideIt (by rw [hlen0]; simp), by omega⟩
              case round =>
                clear HC HCh HI0 hlen0
                obtain ⟨c, m, T, S, f, O, hc, rfl, HC, HT, HCh, HI, HN, HL, hle⟩ := hrel
                have hL := HL.out
                have hc60 : (c : Int) < 60 := by omega
                obtain ⟨⟨q, y⟩, hr⟩ : ∃ r, M.delR S f (0, 1) (st : Int) = r := ⟨_, rfl⟩
                obtain ⟨d1, d2, m', d3, d4, d5, d6, d7, d8⟩ := M.del_ch HI.out HC.out.gs HC.out.gt HCh.out hr
                have hat : (M.gc S (0, 1)).k ≠ 0 := by rw [show M.gc S (0, 1) = _ from HCh.out.lk 0 (by omega)]; exact (by decide : (2 : Int) ≠ 0)
                go_wp2_with fail
                refine (HC.out.delete_yes HI.out 0 1 st (i64s _ (by decide) (by decide)) (i64s _ (by decide) (by decide)) (by omega) (M.face_ok hat hs1 (by omega)) q y hr).mono ?_
                rintro _ w7 ⟨tv, O7, rfl, A7, hs, F, tl, hno⟩
                have HC7 := hideIt A7
                have HT7 : Hid (Td w w7 O7 u13 T) := hideIt ⟨HT.out.tl.fr F HT.out.no, fun k hk e => by
                  rcases hs k e with e | e
                  · exact HT.out.no k hk e
                  · have := (HT.out.tl.lt k hk).2; omega⟩
                obtain ⟨tx, tn, tc, v8, w8, rfl, hr8, tl8, g8, o8⟩ := run_append_tl w7 w.heap.size w.heap.size u13 tv T y.T HT7.out.tl tl (by omega) HC7.out.gr.size
                obtain ⟨C8, D8⟩ := HT7.out.app HC7.out tl8 g8 o8
                have HC8 := hideIt C8
                have HT8 := hideIt D8
                have HN8 := hideIt (M.ndl_app T y.T j (m + 1) m' HN.out d5)
                have HLen8 : Hid ((T ++ y.T).length + y.f.len = TT) := hideIt (by rw [List.length_append]; omega)
                clear A7 hs F tl hno HC HT HT7 HC7 tl8 g8 o8 C8 D8 hr HN HL
                go_upto_region 28 with (at_builtin; refine wpList_append_cap rfl (.tmp 100) (.tmp 101) rfl u13 (.slice tx tn tc) rfl rfl v8 w8 hr8 ?_)
                clear hr8
                cases q with
                | true =>
                  have h1 := d2 rfl
                  obtain ⟨m2, hm2⟩ : ∃ m2, m' = m2 + 1 := ⟨m' - 1, by have := d7 rfl; omega⟩
                  subst hm2
                  go_wp2
                  go_roundg (gk - 1)
                  case rel => exact ⟨c + 1, m2, _, y.S, y.f, O7, by omega, by go_num, HC8, HT8, d4, d1.i, HN8, HLen8, by omega⟩
                  case measure => omega
                | false =>
                  have hm0 := d8 rfl
                  subst hm0
                  obtain ⟨e1, e2, e3, e4⟩ := M.Ch.end_ d1.i HC8.out.gs HC8.out.gt d4
                  obtain ⟨U, hU⟩ : ∃ U, T ++ y.T = U := ⟨_, rfl⟩
                  rw [hU] at HT8 HN8 HLen8
                  have hUl : U.length = TT := by have := HLen8.out; omega
                  have HUl := hideIt hUl
                  obtain ⟨vx, vc, rfl⟩ : ∃ vx vc, v8 = .slice vx TT vc := by
                    rcases HT8.out.tl.form with ⟨rfl, e⟩ | ⟨g, cap, rfl, _⟩
                    · rw [e] at hUl; subst hUl; exact ⟨_, _, rfl⟩
                    · rw [hUl]; exact ⟨_, _, rfl⟩
                  have c0 := HC8.out.c0
                  have HE4 := hideIt e4
                  have HE3 := hideIt e3
                  clear hU hUl d1 d2 d3 d4 d5 d6 d7 d8 e2 e4 hat hle hc HI HCh HLen8 e3
                  go_wp2_with fail
                  refine (HC8.out.full).mono ?_
                  rintro _ w9 ⟨vf, rfl, lf, g9⟩
                  rw [e1] at lf
                  obtain ⟨fx, fc, rfl⟩ : ∃ fx fc, vf = .slice fx 0 fc := by
                    rcases lf.form with ⟨rfl, _⟩ | ⟨g, cap, rfl, _⟩
                    · exact ⟨_, _, rfl⟩
                    · exact ⟨_, _, rfl⟩
                  have HC9 := hideIt (HC8.out.kept g9)
                  have HT9 := hideIt (HT8.out.tl.kept g9)
                  clear lf c0 e1 HC8 HT8 g9
                  go_wp2
                  go_loopg [18, 19] (TT + 1) (fun y s18 s19 wr => ∃ (i b : Nat), i + y = TT + 1 ∧ i ≤ TT ∧ b ≤ 8 ∧ s18 = .int .i64 ((b + 1 : Nat) : Int) ∧ s19 = .int .i64 i ∧ w9.grownBy wr none ∧ Hid (M.ndl (U.take i) j b))
                  case atStart => exact ⟨0, j, by omega, by omega, by omega, by go_num, rfl, gbRefl _ _, hideIt (by rw [List.take_zero]; rfl)⟩
                  case round =>
                    obtain ⟨i, b, hi, hiT, hb8, rfl, rfl, gw, HB⟩ := hrel
                    have HC := hideIt (HC9.out.kept gw)
                    have HT := hideIt (HT9.out.kept gw)
                    obtain ⟨b1, hb1⟩ : ∃ b1, b + 1 = b1 := ⟨_, rfl⟩
                    rw [hb1]
                    by_cases hlt : i < TT
                    · have hlt' : (i : Int) < (TT : Int) := by omega
                      obtain ⟨⟨ck, co, cr, cb, cg, cn⟩, hce⟩ : ∃ c, U[i]? = some c := ⟨_, List.getElem?_eq_getElem (by rw [HUl.out]; exact hlt)⟩
                      obtain ⟨gv, rfl⟩ : ∃ gv, vx = some ⟨gv, 0, none⟩ := by
                        rcases HT.out.form with ⟨e, _⟩ | ⟨g, cap, e, _⟩
                        · injection e with e1 e2; omega
                        · injection e with e1; exact ⟨g, e1⟩
                      have E := HT.out.el i _ hce
                      have HK := hideIt (M.ndl_take HB.out hce HN8.out)
                      have E0 := E.1
                      have E1 := E.2.1
                      simp only at E0 E1
                      have hbs : (b1 : Int) - 1 = (b : Int) := by omega
                      clear E hce
                      cases hk2 : (ck == 2) with
                      | true =>
                        obtain ⟨k1, k2, k3⟩ := HK.out.1 (by simpa using hk2)
                        simp only at k1
                        rw [k1] at E1
                        have a0 : ∀ v : Gr wr, v.w.cell? ⟨gv, i * 6 + 1, none⟩ = some (.int .i64 (b : Int)) := fun v => v.g.cell E1 (by simp)
                        have a1 : ∀ v : Gr wr, v.w.cell? ⟨p, 0, none⟩ = some (.pointer (some ⟨s, 0, none⟩)) := fun v => (HC.out.kept v.g).c0
                        have HRd : ∀ v : Gr wr, Calls Try.prog 21 #[.pointer (some ⟨s, 0, none⟩), .int .i64 (b : Int)] v.w fun e w' => e = .returned (.int .i64 0) ∧ v.w.grownBy w' none := fun v => (HC.out.kept v.g).radix b 0 (i64s _ (by omega) (by omega)) (HE4.out b (by omega))
                        have K3 := hideIt k3
                        go_upto_region 38 with fail
                        refine wp_region_grown (by kernel_rfl) (by kernel_rfl) fun _ => ?_
                        repeat (go_big_quiet_step ((go_at_call 21; with_reducible exact callsGr (HRd _))))
                        refine wpQuiet_nil ?_
                        rintro w4 ⟨⟨_, g4⟩, rfl⟩
                        clear a0 a1 HRd E0 E1
                        go_wp2
                        go_roundg (gk - 1)
                        case rel => exact ⟨i + 1, b - 1, by omega, by omega, by omega, by rw [show b - 1 + 1 = b by omega], by go_num, gbTrans gw g4, K3⟩
                        case measure => omega
                      | false =>
                        have K3 := hideIt (HK.out.2 (by simpa using hk2))
                        go_wp2
                        go_roundg (gk - 1)
                        case rel => exact ⟨i + 1, b, by omega, by omega, by omega, by rw [hb1], by go_num, gw, K3⟩
                        case measure => omega
                    · have hlt' : ¬ (i : Int) < (TT : Int) := by omega
                      have hb0 : b = 0 := by
                        have h1 := HB.out
                        rw [List.take_of_length_le (by rw [HUl.out]; omega)] at h1
                        exact M.ndl_det _ _ _ _ h1 HN8.out
                      obtain rfl : b1 = 1 := by omega
                      have c0 := HC.out.c0
                      go_wp2_with fail
                      refine (HC.out.radix 0 2 (i64s _ (by decide) (by decide)) HE3.out).mono ?_
                      rintro _ w5 ⟨rfl, g5⟩
                      have HC5 := hideIt (HC.out.kept g5)
                      go_wp2
                      go_ret
                      exact ⟨rfl, gbEnd HC5.out.gr⟩
theorem walk (a0 a1 : Int) (x2 : Option Addr) (len2 cap2 : Nat) (w : World) (hx2 : ∀ i, i < len2 → ∃ x z, x2 = some x ∧ w.cell? (x.add i) = some (.int .i64 z)) :
    Calls Try.prog 6 #[.int .i64 a0, .int .i64 a1, .slice x2 len2 cap2] w fun e w' => e = .returned (.bool true) ∧ Below w.heap.size w w' := core a0 a1 x2 len2 cap2 w (hideIt hx2)

set_option maxRecDepth 100000 in
theorem lifted (os : Os) (started : os.Started) (H : Type) (enc : TypeId × Value → H) :
    ReturnsInHanded {} Try.checked os 6 .any (Rows.revokeChainSpec.pre6 enc Try.prog Try.f6 Rows.revokeChainRow.domain false) (Rows.revokeChainSpec.post enc Try.prog Try.f6 false true false false) := by
  refine returnsInHanded_of_change (C := Try.checked) own started (by kernel_rfl) Try.func6
    (ChangeSpec.witness6 (enc := enc) (C := Try.checked) false ⟨#[], #[.int .i64 0, .int .i64 0, .slice none 0 0], []⟩ 8 (by kernel_rfl) (by kernel_rfl) (by kernel_rfl) (by kernel_rfl)) ?_
  intro W base args ds gs before hval0 hW hcnd _
  have hval : ∀ (j : Nat) t v, Try.f6.params[j]? = some t → args[j]? = some v → Value.okWide Try.prog W .any base t v := hval0
  have hW' := hW
  obtain ⟨p, q, hA0, hV, rfl, hfz, hnd⟩ := hW
  have hA : DataW.TrodAll enc Try.prog W 0 (fun _ => true) true Try.f6.params.toList args.toList ds p := hA0
  rw [Try.params6] at hA hval
  obtain ⟨v0, vs0, d0, ds0, p0, q0, hargs, rfl, rfl, h0, r0⟩ := trodAll_cons hA
  obtain ⟨v1, vs1, d1, ds1, p1, q1, rfl, rfl, rfl, h1, r1⟩ := trodAll_cons r0
  obtain ⟨v2, vs2, d2, ds2, p2, q2, rfl, rfl, rfl, h2, r2⟩ := trodAll_cons r1
  obtain ⟨rfl, rfl, rfl⟩ := trodAll_nil r2
  obtain rfl : args = #[v0, v1, v2] := by cases args; simp_all
  obtain ⟨rfl, rfl⟩ := trodVars_none hV
  obtain ⟨a0, rfl, rfl, rfl, w0⟩ := open_int Try.underlying3 (hval 0 3 v0 rfl rfl) h0
  obtain ⟨a1, rfl, rfl, rfl, w1⟩ := open_int Try.underlying3 (hval 1 3 v1 rfl rfl) h1
  obtain ⟨x2, len2, cap2, rfl⟩ := okWide_slice Try.underlying51 (hval 2 51 v2 rfl rfl)
  have hx2 := intsArg h2
  have k2 := h2
  have lt2 : ∀ x ∈ p2, x.block < W.heap.size := by obtain ⟨m, hm⟩ := k2; exact DataW.trod_lt m _ _ _ hm
  clear hA0 hval0
  refine (walk a0 a1 x2 len2 cap2 W hx2).mono fun e W' ⟨he, bel⟩ => ?_
  subst he
  exact ⟨_, rfl, _, _, _, [], _, [], hW', trodAll_mk1 (shut_bool Try.underlying4 _), (trodAll_cons_mk (shut_int Try.underlying3 w0) (trodAll_cons_mk (shut_int Try.underlying3 w1) (trodAll_cons_mk (Below.trod laidOut (by kernel_rfl) (of_decide_eq_true (by kernel_rfl)) k2 bel lt2) trodAll_mk0))), rfl, bel.frame _, fun h => by cases h⟩

theorem over : Rows.revokeChainRow.holds Try.pinned (OpenSpec.ofChange Rows.revokeChainSpec) :=
  OpenClaim.holds_of_wide 6 Try.f6 rfl rfl rfl rfl rfl rfl rfl ⟨rfl, rfl, rfl, rfl, rfl⟩ rfl rfl rfl rfl rfl (by kernel_rfl) Try.func6 (by kernel_rfl)
    (of_decide_eq_true (by kernel_rfl)) (by unfold Func.isWrapper; first | (rw [if_pos (by decide +kernel)]; kernel_rfl) | (rw [if_neg (by decide +kernel)]; exact ⟨rfl, rfl⟩))
    (fun os started H enc _ => lifted os started H enc)

theorem proved : Rows.RevokeChainSaid := over
end Go.Proofs.Ytpfjcfgbecoccaa.revokeChain
namespace Go.Proofs.Ytpfjcfgbecoccaa
theorem revokeChain_holds : Rows.RevokeChainSaid := revokeChain.proved
#print axioms revokeChain_holds
end Go.Proofs.Ytpfjcfgbecoccaa
