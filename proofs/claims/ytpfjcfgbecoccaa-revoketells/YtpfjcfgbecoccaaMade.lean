/-
  THE CONTRACT of donjonlaw11's made: capabilities as acts make them; what holds of them.
-/
import Derived.Test.YtpfjcfgbecoccaaWkw
import Derived.Test.YtpfjcfgbecoccaaRsm
import Derived.Deep.Cut
import Derived.Deep.DeepCutAuto
namespace Go.Proofs.Ytpfjcfgbecoccaa
set_option maxRecDepth 10000
open Go.RowKit
set_option linter.unusedVariables false

namespace M
/-- What an act makes of a store and a tree. -/
def act11 (X : St × T9.Fo) (q : Q) : St × T9.Fo :=
  if q.k = 2 then (plaS X.1 (q.a, q.a2) q.c, plaF X.1 X.2 (q.a, q.a2) q.c)
  else if q.k = 4 then (copS X.1 (q.a, q.a2) (q.b, q.b2) q.rt, copF X.1 X.2 (q.a, q.a2) (q.b, q.b2) q.rt)
  else if q.k = 5 then (minS X.1 (q.a, q.a2) (q.b, q.b2) q.rt q.bd q.gd q.bt, minF X.1 X.2 (q.a, q.a2) (q.b, q.b2) q.rt q.bd q.gd q.bt)
  else if q.k = 6 then (movS X.1 (q.a, q.a2) (q.b, q.b2), movF X.1 X.2 (q.a, q.a2) (q.b, q.b2))
  else X
def nod : Nat → St
  | 0 => fun _ => none
  | j + 1 => addS (nod j) j 3
def mk11 (qs : Nat → Q) : Nat → St × T9.Fo
  | 0 => (nod 3, .nil)
  | j + 1 => act11 (mk11 qs j) (qs j)
theorem nod_gc : ∀ j x, gc (nod j) x = C.zero
  | 0, x => rfl
  | j + 1, x => (gc_add (nod j) j 3 x).trans (nod_gc j x)
theorem nod_inv (j : Nat) : Inv (nod j) .nil := Inv.none.same (fun x => (nod_gc j x).trans rfl)
/-- What holds of what acts made. -/
structure Md (X : St × T9.Fo) (j : Nat) : Prop where
  i : Inv X.1 X.2
  w : Wks X.1 X.2
  len : X.2.len ≤ j
theorem Md.act {X : St × T9.Fo} {j : Nat} (h : Md X j) (N : T9.Good X.2) {q : Q} (Q : Op18 q) : Md (act11 X q) (j + 1) := by
  have hl := h.len
  unfold act11
  split
  · exact ⟨h.i.pla _ Q.cb Q.cg, h.w.pla h.i _ _, Nat.le_trans (len_pla _ _ _ _) (by omega)⟩
  · split
    · exact ⟨h.i.cop _ _ _, h.w.cop h.i _ _ _, Nat.le_trans (len_cop _ N _ _ _) (by omega)⟩
    · split
      · exact ⟨h.i.min _ _ Q.bd Q.gd, h.w.min h.i _ _ Q.bd Q.gd, Nat.le_trans (len_min _ N _ _ _ _ _ _) (by omega)⟩
      · split
        · exact ⟨h.i.mov _ _, h.w.mov h.i _ _, Nat.le_trans (len_mov _ _ _ _) (by omega)⟩
        · exact ⟨h.i, h.w, by omega⟩
theorem Md.start : Md (nod 3, .nil) 0 := ⟨nod_inv 3, trivial, by decide⟩
theorem Wks.sm {S : St} {f : T9.Fo} (w : Wks S f) (a : Int × Int) : Sm S f a := fun b hb => by
  have := wkr_iff.1 (Wkf.kins w a b hb)
  exact ⟨this.2.2.1, this.2.2.2.1⟩
end M
/-- The acts that come in, one by one. -/
abbrev Acts (w : World) (xo : Option Addr) (len : Nat) (qs : Nat → Q) : Prop := ∀ i, i < len → ∃ x, xo = some x ∧ El18 w (x.add (i * 19)) (qs i) ∧ Op18 (qs i)
theorem actsOf {w : World} {xo : Option Addr} {len : Nat} (h : ∀ i, i < len → ∃ x q st, xo = some x ∧ El18 w (x.add (i * 19)) q ∧ w.cell? ⟨(x.add (i * 19)).block, (x.add (i * 19)).off + 18, none⟩ = some (.int .i64 st) ∧ Op18 q ∧ I64 st) : ∃ qs, Acts w xo len qs := by
  have h' : ∀ i : Nat, ∃ q, i < len → ∃ x, xo = some x ∧ El18 w (x.add (i * 19)) q ∧ Op18 q := fun i => by
    by_cases hi : i < len
    · obtain ⟨x, q, st, h1, h2, _, h4, _⟩ := h i hi
      exact ⟨q, fun _ => ⟨x, h1, h2, h4⟩⟩
    · exact ⟨⟨0, 0, 0, 0, 0, 0, 0, C.zero, 0, 0, 0, 0, 0⟩, fun k => absurd k hi⟩
  exact ⟨fun i => Classical.choose (h' i), fun i hi => Classical.choose_spec (h' i) hi⟩

set_option maxHeartbeats 8000000 in
theorem made_is {w0 w : World} (g0 : w0.grownBy w none) (xo : Option Addr) (len cap : Nat) (qs : Nat → Q) (HX : Hid (Acts w xo len qs)) :
    Calls Try.prog 9 #[.slice xo len cap] w fun e w' => ∃ p s t O n, e = .returned (.pointer (some ⟨p, 0, none⟩)) ∧ n ≤ 50 ∧ Cs w0 w' O p s t 3 (M.mk11 qs (min len 50)).1 (M.mk11 qs (min len 50)).2 ∧ M.Md (M.mk11 qs (min len 50)) n ∧ w.grownBy w' none ∧ ∀ i, O i → w.heap.size ≤ i := by
  have hw0 := g0.size
  go_enter Try.func9, Try.ntmps9
  go_wp2_with fail
  refine (newCaps g0).mono ?_
  rintro _ w2 ⟨p, s, t, rfl, A, gA⟩
  have H2 := hideIt A
  have HW2 : Hid (Wy w0 w w2 (fun _ => False) (fun i => w.heap.size ≤ i ∧ i < w2.heap.size) p s t 0 (M.nod 0) .nil) := hideIt ⟨A, Fr.grown gA, fun i hi => .inr hi.1⟩
  clear A H2
  go_wp2
  go_loopg [4] 3 (fun y i wr => ∃ (j : Nat) (O : Nat → Prop), j + y = 3 ∧ i = .int .i64 j ∧ Hid (Wy w0 w wr (fun _ => False) O p s t j (M.nod j) .nil))
  case atStart => exact ⟨0, _, by omega, rfl, HW2⟩
  case round =>
    obtain ⟨j, O, hj, rfl, HW⟩ := hrel
    by_cases hlt : j < 3
    · have hlt' : (j : Int) < 3 := by omega
      go_wp2_with fail
      refine (HW.out.cs.nodeA j 3 _ (i64s _ (by omega) (by omega)) (by omega) rfl).mono ?_
      rintro _ w3 ⟨rfl, A, F⟩
      have HW3 := hideIt (HW.out.call A F)
      clear A F
      go_wp2
      go_roundg (gk - 1)
      case rel => exact ⟨j + 1, _, by omega, by go_num, HW3⟩
      case measure => omega
    · have hlt' : ¬ (j : Int) < 3 := by omega
      obtain rfl : j = 3 := by omega
      go_wp2
      clear hlt hlt' hj
      go_loopg [5] 50 (fun y i wr => ∃ (j : Nat) (O : Nat → Prop), j + y = 50 ∧ j ≤ len ∧ i = .int .i64 j ∧ Hid (Wy w0 w wr (fun _ => False) O p s t 3 (M.mk11 qs j).1 (M.mk11 qs j).2) ∧ Hid (M.Md (M.mk11 qs j) j))
      case atStart => exact ⟨0, _, by omega, Nat.zero_le _, rfl, HW, M.Md.start⟩
      case round =>
        clear HW
        obtain ⟨j, O, hj, hjl, rfl, HW, HM⟩ := hrel
        by_cases hlt : j < len ∧ j < 50
        · obtain ⟨hlt, hlt2⟩ := hlt
          have hlt' : (j : Int) < (len : Int) := by omega
          have hlt2' : (j : Int) < 50 := by omega
          obtain ⟨x, rfl, E0, QQ⟩ := HX.out j hlt
          have E := hideIt (E0.kept (HW.out.fr.new (fun _ _ e => e)))
          have HQ := hideIt QQ
          obtain ⟨q, hq⟩ : ∃ q, qs j = q := ⟨_, rfl⟩
          rw [hq] at E HQ
          have HN : Hid (M.mk11 qs (j + 1) = M.act11 (M.mk11 qs j) q) := hideIt (by rw [← hq]; rfl)
          have HM1 := hideIt (HM.out.act HW.out.cs.gt HQ.out)
          have hm : (M.mk11 qs j).2.len ≤ 1000 := Nat.le_trans HM.out.len (by omega)
          have HI := hideIt HM.out.i
          have hwr := HW.out.fr.size
          obtain ⟨X, hX⟩ : ∃ X, M.mk11 qs j = X := ⟨_, rfl⟩
          rw [hX] at HW HN HM1 hm HI
          clear E0 QQ hq hX HM
          go_upto_region 10 with (first | (refine wpList_load_op rfl _ rfl _ q rfl E.out ?_) | (refine wpList_store_op rfl _ _ rfl _ q rfl rfl (opZero wr).1 (opZero wr).2 ?_; intro W5 B5 g5))
          have g5' : wr.grownBy W5 none := gbNew (gbTrans (gbAlloc _ _ _) g5) (Nat.le_refl _)
          have HW5 := hideIt (HW.out.kept g5')
          have HB := hideIt B5
          clear HW g5 g5' E B5
          obtain ⟨k0, a, a2, b, b2, d, d2, ⟨ck, co, cr, cb, cg, cn⟩, n, rt, bd, gd, bt⟩ := q
          obtain ⟨ik, ia, ia2, ib, ib2, idd, id2, inn, hcb, hcg, hbd, hgd⟩ := HQ.out
          simp only at ik ia ia2 ib ib2 idd id2 inn hcb hcg hbd hgd
          have o0 := HB.out.at0
          have o1 := HB.out.at1
          have o2 := HB.out.at2
          have o3 := HB.out.at3
          have o4 := HB.out.at4
          have o5 := HB.out.at5
          have o6 := HB.out.at6
          have o7 := HB.out.at7
          have o8 := HB.out.at8
          have o9 := HB.out.at9
          have o10 := HB.out.at10
          have o11 := HB.out.at11
          have o12 := HB.out.at12
          have o13 := HB.out.at13
          have o14 := HB.out.at14
          have o15 := HB.out.at15
          have o16 := HB.out.at16
          have o17 := HB.out.at17
          simp only at o0 o1 o2 o3 o4 o5 o6 o7 o8 o9 o10 o11 o12 o13 o14 o15 o16 o17
          by_cases hk2 : k0 = 2
          · subst hk2
            go_wp2_with fail
            refine (HW5.out.cs.plant HI.out a a2 ck co cr cb cg cn _ ia ia2 hcb hcg hm rfl).mono ?_
            rintro _ w6 ⟨rfl, A, F⟩
            have HW6 := hideIt (HW5.out.call A F)
            clear A F HW5 o0 o1 o2 o3 o4 o5 o6 o7 o8 o9 o10 o11 o12 o13 o14 o15 o16 o17
            go_wp2
            go_roundg (gk - 1)
            case rel => exact ⟨j + 1, _, by omega, by omega, by go_num, hideIt (by rw [HN.out]; exact HW6.out), hideIt (by rw [HN.out]; exact HM1.out)⟩
            case measure => omega
          · have kb2 : (k0 == 2) = false := by simpa using hk2
            by_cases hk4 : k0 = 4
            · subst hk4
              have kb2 : (((4 : Int)) == 2) = false := by decide
              go_wp2_with fail
              refine (HW5.out.cs.copy HI.out a a2 b b2 rt _ ia ia2 ib ib2 hm rfl).mono ?_
              rintro _ w6 ⟨rfl, A, F⟩
              have HW6 := hideIt (HW5.out.call A F)
              clear A F HW5 o0 o1 o2 o3 o4 o5 o6 o7 o8 o9 o10 o11 o12 o13 o14 o15 o16 o17
              go_wp2
              go_roundg (gk - 1)
              case rel => exact ⟨j + 1, _, by omega, by omega, by go_num, hideIt (by rw [HN.out]; exact HW6.out), hideIt (by rw [HN.out]; exact HM1.out)⟩
              case measure => omega
            · have kb4 : (k0 == 4) = false := by simpa using hk4
              by_cases hk5 : k0 = 5
              · subst hk5
                have kb2 : (((5 : Int)) == 2) = false := by decide
                have kb4 : (((5 : Int)) == 4) = false := by decide
                go_wp2_with fail
                refine (HW5.out.cs.mint HI.out a a2 b b2 rt bd gd bt _ ia ia2 ib ib2 hbd hgd hm rfl).mono ?_
                rintro _ w6 ⟨rfl, A, F⟩
                have HW6 := hideIt (HW5.out.call A F)
                clear A F HW5 o0 o1 o2 o3 o4 o5 o6 o7 o8 o9 o10 o11 o12 o13 o14 o15 o16 o17
                go_wp2
                go_roundg (gk - 1)
                case rel => exact ⟨j + 1, _, by omega, by omega, by go_num, hideIt (by rw [HN.out]; exact HW6.out), hideIt (by rw [HN.out]; exact HM1.out)⟩
                case measure => omega
              · have kb5 : (k0 == 5) = false := by simpa using hk5
                by_cases hk6 : k0 = 6
                · subst hk6
                  have kb2 : (((6 : Int)) == 2) = false := by decide
                  have kb4 : (((6 : Int)) == 4) = false := by decide
                  have kb5 : (((6 : Int)) == 5) = false := by decide
                  go_wp2_with fail
                  refine (HW5.out.cs.moveA HI.out a a2 b b2 _ ia ia2 ib ib2 hm rfl).mono ?_
                  rintro _ w6 ⟨rfl, A, F⟩
                  have HW6 := hideIt (HW5.out.call A F)
                  clear A F HW5 o0 o1 o2 o3 o4 o5 o6 o7 o8 o9 o10 o11 o12 o13 o14 o15 o16 o17
                  go_wp2
                  go_roundg (gk - 1)
                  case rel => exact ⟨j + 1, _, by omega, by omega, by go_num, hideIt (by rw [HN.out]; exact HW6.out), hideIt (by rw [HN.out]; exact HM1.out)⟩
                  case measure => omega
                · have kb6 : (k0 == 6) = false := by simpa using hk6
                  have HE : Hid (M.act11 X ⟨k0, a, a2, b, b2, d, d2, ⟨ck, co, cr, cb, cg, cn⟩, n, rt, bd, gd, bt⟩ = X) := hideIt (by unfold M.act11; rw [if_neg hk2, if_neg hk4, if_neg hk5, if_neg hk6])
                  clear o1 o2 o3 o4 o5 o6 o7 o8 o9 o10 o11 o12 o13 o14 o15 o16 o17
                  go_wp2
                  go_roundg (gk - 1)
                  case rel => exact ⟨j + 1, _, by omega, by omega, by go_num, hideIt (by rw [HN.out]; exact (by rw [HE.out]; exact HW5.out)), hideIt (by rw [HN.out]; exact HM1.out)⟩
                  case measure => omega
        · obtain ⟨wo, hwo⟩ : ∃ wo, wo = wr := ⟨_, rfl⟩
          have HMN : Hid (min len 50 = j) := hideIt (by omega)
          have HFIN : Hid (∃ O n, n ≤ 50 ∧ Cs w0 wr O p s t 3 (M.mk11 qs (min len 50)).1 (M.mk11 qs (min len 50)).2 ∧ M.Md (M.mk11 qs (min len 50)) n ∧ w.grownBy wr none ∧ ∀ i, O i → w.heap.size ≤ i) := hideIt (by
            rw [HMN.out]
            exact ⟨O, j, by omega, HW.out.cs, HM.out, HW.out.fr.new (fun _ _ e => e), fun i hi => (HW.out.sub i hi).elim (fun e => e.elim) id⟩)
          clear HW HM
          go_upto_region 7 with fail
          go_cut [22] from 15 to 22 (fun b wc => b = .bool false ∧ wc = wr)
          case first =>
            by_cases e1 : j < len
            · have e1' : (j : Int) < (len : Int) := by omega
              have e2 : ¬ (j : Int) < 50 := fun e2 => hlt ⟨e1, by omega⟩
              go_wp2
              go_meet
              exact ⟨rfl, rfl⟩
            · have e1' : ¬ (j : Int) < (len : Int) := by omega
              go_wp2
              go_meet
              exact ⟨rfl, rfl⟩
          case rest =>
          obtain ⟨rfl, rfl⟩ := hcut
          go_wp2
          go_ret
          obtain ⟨O', n', h⟩ := HFIN.out
          exact ⟨p, s, t, O', n', rfl, h⟩
end Go.Proofs.Ytpfjcfgbecoccaa
