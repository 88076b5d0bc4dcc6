/-
  THE DOCUMENT'S SIDE (donjonref07): Take; Get, Put and Take in the chapter's words.
-/
import Derived.Test.YtakappaaiknpfaaRget
namespace Go.Proofs.Ytakappaaiknpfaa
open Go.RowKit
set_option linter.unusedVariables false

abbrev gGet (w : World) (p : Nat) (n i : Int) (c : C) (e : Int) : Prop := ∀ W, w.grownBy W none → Calls Try.prog 30 #[.pointer (some ⟨p, 0, none⟩), sv n i] W fun x w' => x = .returned (.tuple #[cv c, .int .i64 e]) ∧ W.grownBy w' none

theorem gAt_of {w : World} {p : Nat} {v : Value} {l : List RE} {S : St} (h : RA w p v l S) (G : Good S) {j : Nat} {e : RE} (hj : l[j]? = some e) : gAt w p e.id j :=
  fun W g => (at_some (h.kept g) G hj).mono fun _ _ k => ⟨k.1, by rw [k.2]; exact gbRefl _ _⟩

theorem rget_ra {w : World} {p : Nat} {v : Value} {l : List RE} {S : St} (h : RA w p v l S) (G : Good S) (n i k o r b g t e : Int) (hc : M.getC S n i = ⟨k, o, r, b, g, t⟩) (he : M.getE S n i = e) :
    Calls Try.prog 30 #[.pointer (some ⟨p, 0, none⟩), sv n i] w fun x w' => x = .returned (.tuple #[cv ⟨k, o, r, b, g, t⟩, .int .i64 e]) ∧ w.grownBy w' none := by
  subst he
  cases ht : M.there S n i
  · rw [M.getC_no ht] at hc
    have : M.getE S n i = 6 := by unfold M.getE; rw [ht]; rfl
    rw [this, ← hc]
    exact rget_no w p n i (fun W g => is_is (h.kept g) G n i false ht)
  · obtain ⟨d, a, hs, rfl, ha⟩ := M.there_yes ht
    obtain ⟨j, x, hj, rfl, hr, N⟩ := h.has hs
    have : M.getE S x.id a = 0 := by unfold M.getE; rw [ht]; rfl
    rw [this]
    rw [M.getC_at hs ha] at hc
    have Z := N.six a ha
    rw [hc] at Z
    obtain ⟨gg, m, cap, rfl, rfl, A⟩ := h.at hj
    have h2 := A.l
    unfold rev at h2
    exact rget_yes w p gg _ cap j x.h (2 ^ x.r) a x.id k o r b g t (by have := A.lt; omega) (by rw [← hr]; omega) A.cell h2 Z (fun W g => is_is (h.kept g) G x.id a true ht) (gAt_of h G hj)
theorem rget_is {w : World} {p : Nat} {O : Nat → Prop} {S : St} (h : RAt w p O S) (G : Good S) (n i k o r b g t e : Int) (hc : M.getC S n i = ⟨k, o, r, b, g, t⟩) (he : M.getE S n i = e) :
    Calls Try.prog 30 #[.pointer (some ⟨p, 0, none⟩), sv n i] w fun x w' => x = .returned (.tuple #[cv ⟨k, o, r, b, g, t⟩, .int .i64 e]) ∧ w.grownBy w' none := by
  obtain ⟨v, l, h, _⟩ := h
  exact rget_ra h G n i k o r b g t e hc he

/-- What was written is a slot of the store. -/
theorem RAt.wrote {w w' : World} {p : Nat} {O : Nat → Prop} {v : Value} {l : List RE} {S : St} (h : RA w p v l S) (op : O p) (og : ∀ k, v.ownBlock = some k → O k) (oh : ∀ e ∈ l, O e.h) {j a : Nat} {e : RE} {d : Nd} {c : C} (hj : l[j]? = some e) (hs : S e.id = some d) (hW : Wrote w w' e.h (a * 6) c) :
    RAt w' p O (M.upd S e.id a c) ∧ Fr O w w' := by
  obtain ⟨W, W', gW, hP, y, gy, hy⟩ := hW
  obtain ⟨h2, g2⟩ := (h.kept gW).upd hj hs hP
  have he : O e.h := oh e (List.mem_of_getElem? hj)
  have F2 : Fr O w W' := (Fr.grown gW).trans (Fr.at g2 he)
  have F3 : Fr (fun z => y = some z) W' w' := ⟨gy.os, gy.tape, gy.output, gy.size, fun i hi ho => gy.block i hi (fun e => ho e.symm)⟩
  have hlt : ∀ z, z < w.heap.size → ¬ (y = some z) := fun z hz e => by have := hy z e; omega
  refine ⟨⟨v, l, h2.fr F3 (hlt _ h.plt) (fun b hb => hlt _ (World.ownsRow.lt h.ls b hb).2) (fun e he => by obtain ⟨d, _, _, N⟩ := h.node e he; exact hlt _ N.lt), op, og, oh⟩, F2.join F3 (fun z hz e => absurd e (hlt z hz))⟩

theorem rput_is {w : World} {p : Nat} {O : Nat → Prop} {S : St} (h : RAt w p O S) (G : Good S) (n i k o r b g t e : Int) (he : M.putE S n i ⟨k, o, r, b, g, t⟩ = e) :
    Calls Try.prog 23 #[.pointer (some ⟨p, 0, none⟩), sv n i, cv ⟨k, o, r, b, g, t⟩] w fun x w' => x = .returned (.int .i64 e) ∧ RAt w' p O (M.putS S n i ⟨k, o, r, b, g, t⟩) ∧ Fr O w w' := by
  have H := h
  obtain ⟨v, l, h, op, og, oh⟩ := h
  have HC := fun w => rchk_is k o r b g t _ rfl w
  have still : M.putE S n i ⟨k, o, r, b, g, t⟩ ≠ 0 → ∀ w', w.grownBy w' none → RAt w' p O (M.putS S n i ⟨k, o, r, b, g, t⟩) ∧ Fr O w w' := by
    intro hne w' gw
    rw [show M.putS S n i ⟨k, o, r, b, g, t⟩ = S by unfold M.putS; rw [if_neg hne]]
    exact ⟨H.kept gw, Fr.grown gw⟩
  subst he
  cases ht : M.there S n i
  · have e : M.putE S n i ⟨k, o, r, b, g, t⟩ = 6 := by unfold M.putE; rw [ht]; rfl
    refine (rput_no w p n i k o r b g t (fun W g => is_is (h.kept g) G n i false ht)).mono fun x w' q => ⟨by rw [q.1, e], still (by rw [e]; decide) w' q.2⟩
  · obtain ⟨d, a, hs, rfl, ha⟩ := M.there_yes ht
    obtain ⟨j, x, hj, rfl, hr, N⟩ := h.has hs
    have HA := gAt_of h G hj
    have HI : gIs w p x.id a true := fun W g => is_is (h.kept g) G x.id a true ht
    have Z := N.six a ha
    obtain ⟨gg, m, cap, rfl, rfl, A⟩ := h.at hj
    have h2 := A.l
    unfold rev at h2
    have hx := List.mem_of_getElem? hj
    by_cases h0 : M.chk ⟨k, o, r, b, g, t⟩ = 0
    · rw [h0] at HC
      by_cases hk0 : k = 0
      · have e : M.putE S x.id a ⟨k, o, r, b, g, t⟩ = 3 := by unfold M.putE; rw [ht, if_pos rfl, if_pos h0, if_pos hk0]
        refine (rput_null w p x.id a k o r b g t j (by simpa using hk0) HI HC HA).mono fun x w' q => ⟨by rw [q.1, e], still (by rw [e]; decide) w' q.2⟩
      · by_cases hk1 : (d.f a).k = 0
        · have e : M.putE S x.id a ⟨k, o, r, b, g, t⟩ = 0 := by unfold M.putE; rw [ht, if_pos rfl, if_pos h0, if_neg hk0, M.getC_at hs ha, if_pos hk1]
          refine (rput_yes w p gg _ cap j x.h (2 ^ x.r) a x.id k o r b g t _ _ _ _ _ _ (by simpa using hk0) (by simpa using hk1) (h.hp hx).symm (h.hg rfl hx).symm (by have := A.lt; omega) (by rw [← hr]; omega) A.cell h2 Z HI HC HA).mono ?_
          rintro y w' ⟨rfl, hW⟩
          have : M.putS S x.id a ⟨k, o, r, b, g, t⟩ = M.upd S x.id a ⟨k, o, r, b, g, t⟩ := by unfold M.putS; rw [if_pos e]
          rw [e, this]
          exact ⟨rfl, RAt.wrote h op og oh hj hs hW⟩
        · have e : M.putE S x.id a ⟨k, o, r, b, g, t⟩ = 4 := by unfold M.putE; rw [ht, if_pos rfl, if_pos h0, if_neg hk0, M.getC_at hs ha, if_neg hk1]
          refine (rput_twice w p gg _ cap j x.h (2 ^ x.r) a x.id k o r b g t _ _ _ _ _ _ (by simpa using hk0) (by simpa using hk1) (by have := A.lt; omega) (by rw [← hr]; omega) A.cell h2 Z HI HC HA).mono fun x w' q => ⟨by rw [q.1, e], still (by rw [e]; decide) w' q.2⟩
    · have e : M.putE S x.id a ⟨k, o, r, b, g, t⟩ = M.chk ⟨k, o, r, b, g, t⟩ := by unfold M.putE; rw [ht, if_pos rfl, if_neg h0]
      refine (rput_chk w p x.id a k o r b g t _ j (by simpa using h0) HI HC HA).mono fun x w' q => ⟨by rw [q.1, e], still (by rw [e]; exact h0) w' q.2⟩

end Go.Proofs.Ytakappaaiknpfaa
