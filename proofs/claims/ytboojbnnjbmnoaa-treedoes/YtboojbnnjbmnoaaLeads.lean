/-
  THE CONTRACT of donjonlaw09's leads; the slots from which parents lead to another one are its kin.
-/
import Derived.Test.YtboojbnnjbmnoaaWrk
namespace Go.Proofs.Ytboojbnnjbmnoaa
open Go.RowKit
set_option linter.unusedVariables false

/-- Do parents, at most so many, lead from s to t? -/
def M.lead (f : Fo) : Nat → Int × Int → Int × Int → Bool
  | 0, _, _ => false
  | y + 1, s, t => match f.parent s with
    | none => false
    | some p => if p = t then true else M.lead f y p t

theorem Good.par {f : Fo} (G : Good f) {s x : Int × Int} (h : f.parent s = some x) : x ∈ f.pre := by
  cases hs : f.has s with
  | false => rw [(Fo.hasnt hs).2.2.1] at h; cases h
  | true =>
    have hv := Fo.has_view hs
    rw [h] at hv
    rcases Fo.view_par hv with e | ⟨y, e, hy⟩
    · cases e
    · cases e; exact hy

/-- The parameter's box, written anew. -/
structure SBoxF (w : World) (x : Nat) (n i : Int) : Prop where
  sb : SBox w x n i
  fr : ∀ j, w.frozen? ⟨x, j, none⟩ = false
theorem SBoxF.kept {w w' : World} {x : Nat} {n i : Int} (h : SBoxF w x n i) (g : w.grownBy w' none) : SBoxF w' x n i := ⟨h.sb.kept g, fun j => (gbFrozen g h.sb.lt (by simp)).trans (h.fr j)⟩
theorem SBoxF.put {w : World} {x : Nat} {n i : Int} (h : SBoxF w x n i) (a c : Int) : ∃ W, (w.setCell ⟨x, 0, none⟩ (.int .i64 a)).setCell ⟨x, 1, none⟩ (.int .i64 c) = W ∧ SBoxF W x a c ∧ w.grownBy W (some x) := by
  refine ⟨_, rfl, ⟨⟨?_, ?_, ?_⟩, fun j => ?_⟩, gbTrans (gbSetCell _ _ _ _) (gbSetCell _ _ _ _)⟩
  · rw [World.cell?_setCell_other _ _ _ _ (by simp)]
    exact World.cell?_setCell_same _ _ _ h.sb.at0
  · exact World.cell?_setCell_same _ _ _ ((World.cell?_setCell_other _ _ _ _ (by simp)).trans h.sb.at1)
  · simpa [World.setCell] using h.sb.lt
  · simpa using h.fr j

set_option maxHeartbeats 1000000 in
theorem leads_core {w : World} {p : Nat} {O : Nat → Prop} {f : Fo} (h : Hid (TAt w p O f)) (G : Hid (Good f)) (n i tn ti : Int) (hn : I64 n) (hi : I64 i) (v : Bool) (hv : Hid (M.lead f 60 (n, i) (tn, ti) = v)) :
    Calls Try.prog 15 #[.pointer (some ⟨p, 0, none⟩), sv n i, sv tn ti] w fun e w' => e = .returned (.bool v) ∧ w.grownBy w' none := by
  have qe := eqGuardSlots
  have qq := run_eql_slots
  go_enter Try.func15, Try.ntmps15
  go_upto_region 1 with fail
  obtain ⟨W, hW, X, Y, hXf, g0⟩ : ∃ W, (w.alloc (.cells #[.int .i64 n, .int .i64 i] 31)).alloc (.cells #[.int .i64 tn, .int .i64 ti] 31) = W ∧ SBox W w.heap.size n i ∧ SBox W (w.heap.size + 1) tn ti ∧ (∀ j, W.frozen? ⟨w.heap.size, j, none⟩ = false) ∧ w.grownBy W none :=
    ⟨_, rfl, (SBox.made w n i).kept (gbAlloc _ _ _), by simpa using SBox.made (w.alloc (.cells #[.int .i64 n, .int .i64 i] 31)) tn ti, fun j => (gbFrozen (gbAlloc _ _ none) (by simp) (by simp)).trans (by simp), gbTrans (gbAlloc _ _ _) (gbAlloc _ _ _)⟩
  rw [hW]
  clear hW
  go_wp2
  go_loopg [7] 60 (fun y c wr => ∃ (k : Nat) (a b : Int), k + y = 60 ∧ c = .int .i64 k ∧ Hid (SBoxF wr w.heap.size a b) ∧ Hid (SBox wr (w.heap.size + 1) tn ti) ∧ Hid (I64 a ∧ I64 b) ∧ Hid (M.lead f y (a, b) (tn, ti) = v) ∧ w.grownBy wr none)
  case atStart => exact ⟨0, n, i, by omega, rfl, hideIt ⟨X, hXf⟩, hideIt Y, hideIt ⟨hn, hi⟩, hv, g0⟩
  case round =>
    obtain ⟨k, a, b, hk, rfl, HX, HY, HI, HV, gw⟩ := hrel
    by_cases hlt : k < 60
    · have hlt' : (k : Int) < 60 := by omega
      obtain ⟨y, rfl⟩ : ∃ y, gk = y + 1 := ⟨gk - 1, by omega⟩
      have x0 := HX.out.sb.at0
      have x1 := HX.out.sb.at1
      cases hp : f.parent (a, b) with
      | none =>
        have hv' : v = false := by have := HV.out; unfold M.lead at this; rw [hp] at this; exact this.symm
        subst hv'
        have Hp := hideIt hp
        clear hp
        go_wp2_with fail
        refine (parent_is (h.out.kept gw) a b HI.out.1 HI.out.2 0 0 false (by rw [Hp.out]; rfl) (by rw [Hp.out]; rfl) (by rw [Hp.out]; rfl)).mono ?_
        rintro _ w1 ⟨rfl, g1⟩
        go_wp2
        go_ret
        refine ⟨rfl, ?_⟩
        repeat (first | with_reducible exact gbTrans gw g1 | with_reducible refine gbAllocN ?_ _ | with_reducible refine gbSetNew ?_ _ _ _ (gbTrans gw g1).size)
      | some s =>
        obtain ⟨sn, si⟩ := s
        have hs := G.out.num _ (G.out.par hp)
        have Hp := hideIt hp
        have hV := HV.out
        unfold M.lead at hV
        rw [hp] at hV
        simp only at hV
        have HV' := hideIt hV
        clear hp hV
        go_wp2_with fail
        refine (parent_is (h.out.kept gw) a b HI.out.1 HI.out.2 sn si true (by rw [Hp.out]; rfl) (by rw [Hp.out]; rfl) (by rw [Hp.out]; rfl)).mono ?_
        rintro _ w1 ⟨rfl, g1⟩
        clear x0 x1
        go_upto_region 7 with fail
        obtain ⟨W2, hW2, X2, g2⟩ := sboxNew w1 sn si
        rw [hW2]
        clear hW2
        have HX2 := HX.out.kept (gbTrans g1 g2)
        have HY2 := HY.out.kept (gbTrans g1 g2)
        have x0 := X2.at0
        have x1 := X2.at1
        have y0 := HY2.at0
        have y1 := HY2.at1
        by_cases e : (sn, si) = (tn, ti)
        · have hv' : v = true := by have := HV'.out; rw [if_pos e] at this; exact this.symm
          subst hv'
          have hq : M.seq sn si tn ti = true := M.seq_iff.2 e
          go_wp2
          go_ret
          exact ⟨rfl, gbTrans gw (gbTrans g1 g2)⟩
        · have hq : M.seq sn si tn ti = false := M.seq_not.2 e
          have HV2 : Hid (M.lead f y (sn, si) (tn, ti) = v) := hideIt (by have := HV'.out; rw [if_neg e] at this; exact this)
          have z0 := HX2.sb.at0
          have z1 := HX2.sb.at1
          have zf := HX2.fr
          go_upto_region 3 with fail
          obtain ⟨W3, hW3, X3, g3⟩ := HX2.put sn si
          rw [hW3]
          clear hW3
          have Y3 : SBox W3 (w.heap.size + 1) tn ti := ⟨g3.cell HY2.at0 (by simp), g3.cell HY2.at1 (by simp), Nat.lt_of_lt_of_le HY2.lt g3.size⟩
          have HX3 := hideIt X3
          have HY3 := hideIt Y3
          have G3 : w.grownBy W3 none := gbNew (gbTrans (gbAny (gbTrans gw (gbTrans g1 g2)) _) g3) (Nat.le_refl _)
          clear x0 x1 y0 y1 z0 z1 zf X3 Y3 HX2 HY2
          go_wp2
          go_roundg y
          case rel => exact ⟨k + 1, sn, si, by omega, by go_num, HX3, HY3, hideIt hs, HV2, G3⟩
          case measure => omega
    · have hlt' : ¬ (k : Int) < 60 := by omega
      obtain rfl : gk = 0 := by omega
      have hv' : v = false := by have := HV.out; unfold M.lead at this; exact this.symm
      subst hv'
      go_wp2
      go_ret
      exact ⟨rfl, gw⟩

end Go.Proofs.Ytboojbnnjbmnoaa
