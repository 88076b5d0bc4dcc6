/-
  THE CONTRACTS of the document's schedule: find, Put, Drop, Yield, Pick.
-/
import Derived.Test.YtpacgdplbddclaaDch
namespace Go.Proofs.Ytpacgdplbddclaa
set_option maxRecDepth 10000
open Go.RowKit
set_option linter.unusedVariables false

section
variable {w : World} {O : Nat → Prop} {q : Nat} {T : List (Int × Int)} {n : Nat} {l N : Int} {F : Nat → List (Int × Int)} {x : Option Addr} {cap : Nat} {y : Option Addr} {cp : Nat} {qs : Nat → Nat} {Os : Nat → Nat → Prop}
/-- A domain's pointer. -/
theorem DV.ptrs (h : DV w O q T N F x cap y cp 4 qs Os) (d : Nat) (hd : d < 4) : ∃ g, y = some ⟨g, 0, none⟩ ∧ w.cell? ⟨g, d, none⟩ = some (ptr (qs d)) :=
  RL.at h.rl d (qs d) (by rw [List.getElem?_map, List.getElem?_range (by omega)]; rfl)
theorem DV.sa {O' : Nat → Prop} {G : Nat → List (Int × Int)} (ps : M.Ps T n l N) (h : DV w O q T N F x cap y cp 4 qs Os) (hO : ∀ i, O i → O' i) (e : ∀ d, d < 4 → F d = G d) : TA w O' q T n l G := ⟨_, _, _, _, _, _, _, ps, (h.mono hO).same e⟩

/-! ### find -/
set_option maxHeartbeats 2000000 in
theorem tfind_row (h : Hid (DV w O q T N F x cap y cp 4 qs Os)) (g : Hid (M.GF F)) (a : Int) (r : Option (Nat × Nat)) (hr : Hid (∀ (c i : Nat) (o : Int × Int), c < 4 → (F c)[i]? = some o → (o.1 = a ↔ r = some (c, i)))) (hr2 : Hid (∀ c i, r = some (c, i) → c < 4 ∧ i < (F c).length)) (d v : Int) (b : Bool)
    (hP : Hid (∀ (c i : Nat) (o : Int × Int), r = some (c, i) → (F c)[i]? = some o → d = (c : Int) ∧ v = o.2 ∧ b = true)) (hN : Hid (r = none → d = 0 ∧ v = 0 ∧ b = false)) :
    Calls Try.prog 32 #[.pointer (some ⟨q, 0, none⟩), .int .i64 a] w fun e w' => e = .returned (.tuple #[.int .i64 d, .int .i64 v, .bool b]) ∧ w.grownBy w' none := by
  have c2 := h.out.c2
  go_enter Try.func32, Try.ntmps32
  go_wp2_with fail
  go_loopg [7] 5 (fun y i wr => ∃ c : Nat, c + y = 5 ∧ c ≤ 4 ∧ i = .int .i64 c ∧ Hid (∀ c' k, c' < c → r ≠ some (c', k)) ∧ wr = w)
  case atStart => exact ⟨0, by omega, by omega, rfl, hideIt (fun c' k hc => by omega), rfl⟩
  case round =>
    obtain ⟨c, hc, hcl, rfl, HQ, rfl⟩ := hrel
    by_cases hc4 : c < 4
    · have hc4' : (c : Int) < 4 := by omega
      have hc0 : (0 : Int) ≤ (c : Int) := by omega
      obtain ⟨gg, rfl, e0⟩ := h.out.ptrs c hc4
      obtain ⟨xx, nn, cc, hd⟩ := HA.rd (h.out.ra c hc4)
      have e1 := hd.c0
      have hnn : nn ≤ 64 := by rw [← hd.len]; exact g.out.len hc4
      have HD := hideIt hd
      clear hd
      obtain ⟨G, rfl⟩ : ∃ G, G = gk := ⟨_, rfl⟩
      obtain ⟨wo, rfl⟩ : ∃ wo, wo = wr := ⟨_, rfl⟩
      go_wp2_with fail
      go_loopg [8] (nn + 1) (fun y i wx => ∃ k : Nat, k + y = nn + 1 ∧ k ≤ nn ∧ i = .int .i64 k ∧ Hid (∀ k', k' < k → r ≠ some (c, k')) ∧ wx = wo)
      case atStart => exact ⟨0, by omega, by omega, rfl, hideIt (fun k' hk => by omega), rfl⟩
      case round =>
        obtain ⟨k, hk, hkl, rfl, HB, rfl⟩ := hrel
        by_cases hkn : k < nn
        · have hkn' : (k : Int) < (nn : Int) := by omega
          obtain ⟨⟨b0, v0⟩, ho⟩ : ∃ o, (F c)[k]? = some o := ⟨_, List.getElem?_eq_getElem (by rw [HD.out.len]; omega)⟩
          obtain ⟨g2, rfl, f0, f1⟩ := HD.out.el k _ ho
          simp only at f0 f1
          have HR := hideIt (hr.out c k _ hc4 ho)
          by_cases hs : b0 = a
          · obtain ⟨rfl, rfl, rfl⟩ := hP.out c k _ (HR.out.1 hs) ho
            subst hs
            clear ho
            go_upto_region 8 with fail
            go_region
            go_wp2
            go_ret3
            exact ⟨rfl, gbDrewN _ 1 _⟩
          · have hs2 : (b0 == a) = false := by simpa using hs
            have hne : Hid (r ≠ some (c, k)) := hideIt (fun e => hs (HR.out.2 e))
            clear ho hs
            go_wp2
            go_roundg (gk - 1)
            case rel =>
              refine ⟨k + 1, by omega, by omega, by go_num, hideIt (fun k' hk' => ?_), rfl⟩
              by_cases z : k' = k
              · subst z; exact hne.out
              · exact HB.out k' (by omega)
            case measure => omega
        · have hkn' : ¬ (k : Int) < (nn : Int) := by omega
          go_wp2
          go_roundg (G - 1)
          case rel =>
            refine ⟨c + 1, by omega, by omega, by go_num, hideIt (fun c' k' hc' e => ?_), rfl⟩
            by_cases z : c' = c
            · subst z; exact HB.out k' (by have := (hr2.out _ _ e).2; rw [HD.out.len] at this; omega) e
            · exact HQ.out c' k' (by omega) e
          case measure => omega
    · have hc4' : ¬ (c : Int) < 4 := by omega
      have hrn : r = none := by
        cases hq : r with
        | none => rfl
        | some z =>
          obtain ⟨c', k'⟩ := z
          exact absurd hq (HQ.out c' k' (by have := (hr2.out _ _ hq).1; omega))
      obtain ⟨rfl, rfl, rfl⟩ := hN.out hrn
      clear hrn
      go_wp2
      go_ret3
      exact ⟨rfl, gbRefl _ _⟩
theorem tfind_no (h : DV w O q T N F x cap y cp 4 qs Os) (g : M.GF F) (a : Int) (hn : M.inn F a = false) :
    Calls Try.prog 32 #[.pointer (some ⟨q, 0, none⟩), .int .i64 a] w fun e w' => e = .returned (.tuple #[.int .i64 0, .int .i64 0, .bool false]) ∧ w.grownBy w' none :=
  tfind_row (hideIt h) (hideIt g) a none (hideIt fun c i o hc ho => ⟨fun e => absurd (M.mem_ids.2 ⟨o.2, by rw [← e]; exact List.mem_of_getElem? ho⟩) (M.inn_not hn c hc), fun e => by cases e⟩) (hideIt fun c i e => by cases e) 0 0 false (hideIt fun c i o e => by cases e) (hideIt fun _ => ⟨rfl, rfl, rfl⟩)
theorem tfind_yes (h : DV w O q T N F x cap y cp 4 qs Os) (g : M.GF F) (a : Int) (d : Nat) (hd : d < 4) (ha : a ∈ M.ids (F d)) (ho : ∀ e, e < 4 → e ≠ d → a ∉ M.ids (F e)) :
    Calls Try.prog 32 #[.pointer (some ⟨q, 0, none⟩), .int .i64 a] w fun e w' => e = .returned (.tuple #[.int .i64 d, .int .i64 (M.lo (F d) a), .bool true]) ∧ w.grownBy w' none := by
  obtain ⟨j, v, hj, hf⟩ := M.ids_at ha
  have hjl := (List.getElem?_eq_some_iff.1 hj).1
  have hlo := M.lo_at (g.gd d hd) (List.mem_of_getElem? hj)
  refine tfind_row (hideIt h) (hideIt g) a (some (d, j)) (hideIt fun c i o hc ho2 => ⟨fun e => ?_, fun e => ?_⟩) (hideIt fun c i e => by cases e; exact ⟨hd, hjl⟩) _ _ true (hideIt fun c i o e ho2 => ?_) (hideIt fun e => by cases e)
  · have h1 : a ∈ M.ids (F c) := M.mem_ids.2 ⟨o.2, by rw [← e]; exact List.mem_of_getElem? ho2⟩
    have h2 : c = d := by
      by_cases z : c = d
      · exact z
      · exact absurd h1 (ho c hc z)
    subst h2
    have hnd := (g.gd c hc).nd
    have e1 : (M.ids (F c))[i]? = some a := by unfold M.ids; rw [List.getElem?_map, ho2, ← e]; rfl
    have e2 : (M.ids (F c))[j]? = some a := by unfold M.ids; rw [List.getElem?_map, hj]; rfl
    have hi := (List.getElem?_eq_some_iff.1 e1).1
    have : i = j := (List.getElem?_inj hi hnd).1 (e1.trans e2.symm)
    rw [this]
  · cases e
    rw [hj] at ho2
    cases ho2
    rfl
  · cases e
    rw [hj] at ho2
    cases ho2
    exact ⟨rfl, hlo, rfl⟩

/-! ### Put -/
set_option maxHeartbeats 1000000 in
theorem tput_is (h : TA w O q T n l F) (g : M.GF F) (a d v f : Int) (hf : M.se F a d v = f) :
    Calls Try.prog 12 #[.pointer (some ⟨q, 0, none⟩), .int .i64 a, .int .i64 d, .int .i64 v] w fun e w' => e = .returned (.int .i64 f) ∧ TA w' (wide O w w') q T n l (M.sp F a d v) ∧ Fr O w w' := by
  subst hf
  by_cases hc : 0 ≤ a ∧ a < 64 ∧ 0 ≤ d ∧ d < 4 ∧ 0 ≤ v ∧ v < 8
  · have k1 : ¬ a < 0 := by omega
    have k2 : ¬ 63 < a := by omega
    have k3 : ¬ d < 0 := by omega
    have k4 : ¬ 3 < d := by omega
    have k5 : ¬ v < 0 := by omega
    have k6 : ¬ 7 < v := by omega
    cases hi : M.inn F a with
    | true =>
      have e1 : M.se F a d v = 4 := by unfold M.se; rw [if_pos hc, hi]; rfl
      have e2 : M.sp F a d v = F := by unfold M.sp; rw [hi, if_neg (by simp)]
      rw [e1, e2]
      obtain ⟨N, x, cap, y, cp, qs, Os, ps, hv⟩ := h
      obtain ⟨k, hk, hka, hko⟩ := g.who hi
      have HF := hideIt (tfind_yes hv g a k hk hka hko)
      have HV := hideIt hv
      clear hv hi hka hko e1 e2 hc
      go_enter Try.func12, Try.ntmps12
      go_wp2_with fail
      refine HF.out.mono ?_
      rintro e w2 ⟨rfl, g2⟩
      go_wp2
      go_ret
      exact ⟨rfl, DV.sa ps (HV.out.kept g2) (fun i hi => .inl hi) (fun _ _ => rfl), Fr.grown g2⟩
    | false =>
      have e1 : M.se F a d v = 0 := by unfold M.se; rw [if_pos hc, hi]; rfl
      rw [e1]
      obtain ⟨N, x, cap, y, cp, qs, Os, ps, hv⟩ := h
      obtain ⟨k, rfl⟩ : ∃ k : Nat, d = k := ⟨d.toNat, by omega⟩
      have hk : k < 4 := by omega
      have hno := M.inn_not hi k hk
      have e2 : M.sp F a k v = upd F k (F k ++ [(a, v)]) := by unfold M.sp; rw [if_pos ⟨hc, hi⟩, Int.toNat_natCast]
      have e3 : M.re (F k) a v = 0 := by unfold M.re; rw [if_pos (by omega), if_neg hno]
      have e4 : M.rl (F k) a v = F k ++ [(a, v)] := by unfold M.rl; rw [if_pos ⟨by omega, hno⟩]
      rw [e2]
      have HF := hideIt (tfind_no hv g a hi)
      have HV := hideIt hv
      have hk0 : (0 : Int) ≤ (k : Int) := by omega
      have hk4 : (k : Int) < 4 := by omega
      have hl := g.len hk
      clear hv hi hno e1 e2 hc
      go_enter Try.func12, Try.ntmps12
      go_wp2_with fail
      refine HF.out.mono ?_
      rintro e w2 ⟨rfl, g2⟩
      have H2 := hideIt (HV.out.kept g2)
      have c2 := H2.out.c2
      obtain ⟨gg, rfl, cq⟩ := H2.out.ptrs k hk
      go_wp2_with fail
      refine (rput_is (H2.out.ra k hk) (by omega) a v 0 e3).mono ?_
      rintro e w3 ⟨rfl, Z, F3⟩
      rw [e4] at Z
      have H3 := hideIt (H2.out.turn hk Z F3)
      clear Z c2 cq
      have g2 := hideIt g2
      go_wp2
      go_ret
      exact ⟨rfl, DV.sa ps H3.out.1 (wideIn g2.out.size (Nat.le_refl _)) (fun _ _ => rfl), (Fr.grown g2.out).trans H3.out.2⟩
  · have e1 : M.se F a d v = 1 := by unfold M.se; rw [if_neg hc]
    have e2 : M.sp F a d v = F := by unfold M.sp; rw [if_neg (fun e => hc e.1)]
    rw [e1, e2]
    have HS := hideIt h
    clear h e1 e2
    by_cases k1 : a < 0
    · clear hc; go_enter Try.func12, Try.ntmps12; go_wp2; go_ret; exact ⟨rfl, HS.out.wider _ _, Fr.refl _ _⟩
    · by_cases k2 : 63 < a
      · clear hc; go_enter Try.func12, Try.ntmps12; go_wp2; go_ret; exact ⟨rfl, HS.out.wider _ _, Fr.refl _ _⟩
      · by_cases k3 : d < 0
        · clear hc; go_enter Try.func12, Try.ntmps12; go_wp2; go_ret; exact ⟨rfl, HS.out.wider _ _, Fr.refl _ _⟩
        · by_cases k4 : 3 < d
          · clear hc; go_enter Try.func12, Try.ntmps12; go_wp2; go_ret; exact ⟨rfl, HS.out.wider _ _, Fr.refl _ _⟩
          · by_cases k5 : v < 0
            · clear hc; go_enter Try.func12, Try.ntmps12; go_wp2; go_ret; exact ⟨rfl, HS.out.wider _ _, Fr.refl _ _⟩
            · have k6 : 7 < v := by omega
              clear hc; go_enter Try.func12, Try.ntmps12; go_wp2; go_ret; exact ⟨rfl, HS.out.wider _ _, Fr.refl _ _⟩

/-! ### Drop -/
set_option maxHeartbeats 1000000 in
theorem tdrop_is (h : TA w O q T n l F) (g : M.GF F) (a : Int) (b : Bool) (hb : M.inn F a = b) :
    Calls Try.prog 14 #[.pointer (some ⟨q, 0, none⟩), .int .i64 a] w fun e w' => e = .returned (.bool b) ∧ TA w' (wide O w w') q T n l (M.sd F a) ∧ Fr O w w' := by
  obtain ⟨N, x, cap, y, cp, qs, Os, ps, hv⟩ := h
  have HV := hideIt hv
  cases b with
  | false =>
    have HF := hideIt (tfind_no hv g a hb)
    have HE := hideIt (M.sd_not hb)
    clear hv hb
    go_enter Try.func14, Try.ntmps14
    go_wp2_with fail
    refine HF.out.mono ?_
    rintro e w2 ⟨rfl, g2⟩
    go_wp2
    go_ret
    exact ⟨rfl, DV.sa ps (HV.out.kept g2) (fun i hi => .inl hi) HE.out, Fr.grown g2⟩
  | true =>
    obtain ⟨d, hd, ha, ho⟩ := g.who hb
    have HF := hideIt (tfind_yes hv g a d hd ha ho)
    have HE := hideIt (M.sd_at ho)
    have hl := g.len hd
    have HG := hideIt (g.gd d hd)
    have hc : Hid ((M.ids (F d)).contains a = true) := hideIt (by simpa using ha)
    have hd0 : (0 : Int) ≤ (d : Int) := by omega
    have hd4 : (d : Int) < 4 := by omega
    clear hv hb ha ho
    go_enter Try.func14, Try.ntmps14
    go_wp2_with fail
    refine HF.out.mono ?_
    rintro e w2 ⟨rfl, g2⟩
    have H2 := hideIt (HV.out.kept g2)
    have g2 := hideIt g2
    have c2 := H2.out.c2
    obtain ⟨gg, rfl, cq⟩ := H2.out.ptrs d hd
    go_wp2_with fail
    refine (rdrop_is (H2.out.ra d hd) HG.out (by omega) a true hc.out).mono ?_
    rintro e w3 ⟨rfl, Z, F3⟩
    have H3 := hideIt (H2.out.turn hd Z F3)
    clear Z F3 c2 cq
    go_wp2
    go_ret
    exact ⟨rfl, DV.sa ps H3.out.1 (wideIn g2.out.size (Nat.le_refl _)) HE.out, (Fr.grown g2.out).trans H3.out.2⟩

/-! ### Yield -/
set_option maxHeartbeats 1000000 in
theorem tyield_is (h : TA w O q T n l F) (g : M.GF F) (a : Int) (b : Bool) (hb : M.inn F a = b) :
    Calls Try.prog 16 #[.pointer (some ⟨q, 0, none⟩), .int .i64 a] w fun e w' => e = .returned (.bool b) ∧ TA w' (wide O w w') q T n l (M.sy F a) ∧ Fr O w w' := by
  obtain ⟨N, x, cap, y, cp, qs, Os, ps, hv⟩ := h
  have HV := hideIt hv
  cases b with
  | false =>
    have HF := hideIt (tfind_no hv g a hb)
    have HE := hideIt (M.sy_not hb)
    clear hv hb
    go_enter Try.func16, Try.ntmps16
    go_wp2_with fail
    refine HF.out.mono ?_
    rintro e w2 ⟨rfl, g2⟩
    go_wp2
    go_ret
    exact ⟨rfl, DV.sa ps (HV.out.kept g2) (fun i hi => .inl hi) HE.out, Fr.grown g2⟩
  | true =>
    obtain ⟨d, hd, ha, ho⟩ := g.who hb
    have HF := hideIt (tfind_yes hv g a d hd ha ho)
    have HE := hideIt (M.sy_at ha ho)
    have hl := g.len hd
    have hb1 := M.lo_bd (g.gd d hd) ha
    have hb2 := g.rg d a hd ha
    have HG := hideIt (g.gd d hd)
    have hc : Hid ((M.ids (F d)).contains a = true) := hideIt (by simpa using ha)
    have e0 : a ∉ M.ids (M.rd (F d) a) := fun e => (M.mem_rd.1 e).2 rfl
    obtain ⟨v, hv2⟩ : ∃ v, M.lo (F d) a = v := ⟨_, rfl⟩
    rw [hv2] at HF HE hb1
    have e3 : Hid (M.re (M.rd (F d) a) a v = 0) := hideIt (by unfold M.re; rw [if_pos (by omega), if_neg e0])
    have e4 : Hid (M.rl (M.rd (F d) a) a v = M.rd (F d) a ++ [(a, v)]) := hideIt (by unfold M.rl; rw [if_pos ⟨by omega, e0⟩])
    have hl2 := M.rd_len (F d) a
    have hd0 : (0 : Int) ≤ (d : Int) := by omega
    have hd4 : (d : Int) < 4 := by omega
    clear hv hb ha ho hb1 hb2 e0 hv2
    go_enter Try.func16, Try.ntmps16
    go_wp2_with fail
    refine HF.out.mono ?_
    rintro e w2 ⟨rfl, g2⟩
    have H2 := hideIt (HV.out.kept g2)
    have g2 := hideIt g2
    have c2 := H2.out.c2
    obtain ⟨gg, rfl, cq⟩ := H2.out.ptrs d hd
    go_wp2_with fail
    refine (rdrop_is (H2.out.ra d hd) HG.out (by omega) a true hc.out).mono ?_
    rintro e w3 ⟨rfl, Z, F3⟩
    have H3 := hideIt (H2.out.turn hd Z F3)
    have s3 := F3.size
    clear Z F3 c2 cq
    have hZ := H3.out.1.ra d hd
    rw [upd_at, upd_at] at hZ
    have hZ := hideIt hZ
    have c2 := H3.out.1.c2
    obtain ⟨g3, e5, cq⟩ := H3.out.1.ptrs d hd
    cases e5
    go_wp2_with fail
    refine (rput_is hZ.out (by omega) a v 0 e3.out).mono ?_
    rintro e w4 ⟨rfl, Z, F4⟩
    rw [e4.out] at Z
    have Z2 : DA w4 (wide (upd Os d (wide (Os d) w2 w3) d) w3 w4) (qs d) (M.rd (F d) a ++ [(a, v)]) := by rw [upd_at]; exact Z
    have F5 : Fr (upd Os d (wide (Os d) w2 w3) d) w3 w4 := by rw [upd_at]; exact F4
    have H4 := hideIt (H3.out.1.turn hd Z2 F5)
    have s4 := F4.size
    clear Z Z2 F4 F5 c2 cq
    have F6 := hideIt ((Fr.grown g2.out).trans (H3.out.2.join H4.out.2 (fun i hi e => by
      rcases e with e | e
      · exact e
      · omega)))
    go_wp2
    go_ret
    refine ⟨rfl, DV.sa ps H4.out.1 (wideTwo g2.out.size s3 s4) (fun e he => ?_), F6.out⟩
    rw [← HE.out e he]
    by_cases z : e = d
    · subst z; rw [upd_at, upd_at]
    · rw [upd_ne _ _ z, upd_ne _ _ z, upd_ne _ _ z]

/-! ### Pick -/
set_option maxHeartbeats 1000000 in
theorem tpick_is (h : TA w O q T n l F) (ok : M.Ok T) (g : M.GF F) (k : Nat) (hk : M.dm T n = (k : Int)) (a : Int) (b : Bool) (ha : M.nx (F k) = a) (hb : M.nb (F k) = b) :
    Calls Try.prog 20 #[.pointer (some ⟨q, 0, none⟩)] w fun e w' => e = .returned (.tuple #[.int .i64 a, .bool b]) ∧ w.grownBy w' none := by
  have HD := hideIt (tdomain_is (h.kept (gbDrew (gbRefl w none))) ok)
  rw [hk] at HD
  obtain ⟨N, x, cap, y, cp, qs, Os, ps, hv⟩ := h
  have hd := ok.dmB ps.lt
  rw [hk] at hd
  have hk4 : k < 4 := by omega
  have c2 := hv.c2
  obtain ⟨gg, rfl, cq⟩ := hv.ptrs k hk4
  have G := gbDrew (gbRefl w none)
  have K0 : w.cell? ⟨q, 2, none⟩ = some (.slice (some ⟨gg, 0, none⟩) 4 cp) ∧ w.cell? ⟨gg, k, none⟩ = some (ptr (qs k)) := ⟨c2, cq⟩
  have K1 : w.drew.cell? ⟨q, 2, none⟩ = some (.slice (some ⟨gg, 0, none⟩) 4 cp) ∧ w.drew.cell? ⟨gg, k, none⟩ = some (ptr (qs k)) := ⟨G.cell c2 (by simp), G.cell cq (by simp)⟩
  have HV := hideIt (hv.kept G)
  have hl := g.len hk4
  have hk0 : (0 : Int) ≤ (k : Int) := by omega
  have hk4' : (k : Int) < 4 := by omega
  clear hv hd hk ps c2 cq G
  go_enter Try.func20, Try.ntmps20
  go_upto_region 1 with fail
  go_region_held3 (fun w' => w'.cell? ⟨q, 2, none⟩ = some (.slice (some ⟨gg, 0, none⟩) 4 cp) ∧ w'.cell? ⟨gg, k, none⟩ = some (ptr (qs k)))
    (first | with_reducible exact K0 | with_reducible exact K1 | with_reducible exact K2 | with_reducible exact K3 | fail)
    ((first
      | (go_at_call 37; refine (rnext_is ((HV.out.kept g2).ra k hk4) (by omega) a b ha hb).mono ?_; rintro e w3 ⟨rfl, g3⟩; have K3 : w3.cell? ⟨q, 2, none⟩ = some (.slice (some ⟨gg, 0, none⟩) 4 cp) ∧ w3.cell? ⟨gg, k, none⟩ = some (ptr (qs k)) := ⟨g3.cell K2.1 (by simp), g3.cell K2.2 (by simp)⟩)
      | (go_at_call 24; refine HD.out.mono ?_; rintro e w2 ⟨rfl, g2⟩; have K2 : w2.cell? ⟨q, 2, none⟩ = some (.slice (some ⟨gg, 0, none⟩) 4 cp) ∧ w2.cell? ⟨gg, k, none⟩ = some (ptr (qs k)) := ⟨g2.cell K1.1 (by simp), g2.cell K1.2 (by simp)⟩)))
  go_wp2
  go_ret2
  exact ⟨rfl, gbTrans (gbTrans (gbDrewN _ 1 _) g2) g3⟩
end
end Go.Proofs.Ytpacgdplbddclaa
