/-
  THE SLOTS THAT ARE NOT EMPTY, as a list; lists that are gone through.
-/
import Derived.Test.YtpfjcfgbecoccaaG5
import Derived.Test.YtpfjcfgbecoccaaAwy
import Derived.Test.YtpfjcfgbecoccaaArgs
namespace Go.Proofs.Ytpfjcfgbecoccaa
set_option maxRecDepth 10000
open Go.RowKit
set_option linter.unusedVariables false

/-- An element of a list in memory, where it lies. -/
theorem LB.at {wc : World} {Oc : Nat → Prop} {v : Value} {L : List (Int × Int)} (h : LB wc Oc v L) {i : Nat} (hi : i < L.length) : ∃ g cap a b, v = .slice (some ⟨g, 0, none⟩) L.length cap ∧ L[i]? = some (a, b) ∧ El wc ((⟨g, 0, none⟩ : Addr).add (i * 2)) a b ∧ ¬ Oc g := by
  rcases h.ls.form with ⟨rfl, rfl⟩ | ⟨g, cap, rfl, _, _, _, _, hr⟩
  · simp at hi
  · obtain ⟨⟨a, b⟩, hab⟩ : ∃ x, L[i]? = some x := ⟨L[i], by simp [hi]⟩
    exact ⟨g, cap, a, b, rfl, hab, hr i (a, b) hab, h.no g rfl⟩
theorem LB.slice {wc : World} {Oc : Nat → Prop} {v : Value} {L : List (Int × Int)} (h : LB wc Oc v L) : ∃ xo cap, v = .slice xo L.length cap := by
  rcases h.ls.form with ⟨rfl, rfl⟩ | ⟨g, cap, rfl, _⟩
  · exact ⟨none, 0, rfl⟩
  · exact ⟨_, cap, rfl⟩
/-- A slot's name in a block, from an offset on. -/
structure Ex (w : World) (g o : Nat) (a b : Int) : Prop where
  at0 : w.cell? ⟨g, o, none⟩ = some (.int .i64 a)
  at1 : w.cell? ⟨g, o + 1, none⟩ = some (.int .i64 b)
theorem Ex.kept {w w' : World} {g o : Nat} {a b : Int} (h : Ex w g o a b) (k : w.grownBy w' none) : Ex w' g o a b := ⟨k.cell h.at0 (by simp), k.cell h.at1 (by simp)⟩
theorem Fr.ex {O : Nat → Prop} {w w' : World} {g o : Nat} {a b : Int} (F : Fr O w w') (h : Ex w g o a b) (ho : ¬ O g) : Ex w' g o a b := ⟨F.cell h.at0 ho, F.cell h.at1 ho⟩
theorem LB.el {wc : World} {Oc : Nat → Prop} {xo : Option Addr} {n cap : Nat} {L : List (Int × Int)} (h : LB wc Oc (.slice xo n cap) L) {i : Nat} (hi : i < L.length) : ∃ g a b, xo = some ⟨g, 0, none⟩ ∧ L[i]? = some (a, b) ∧ Ex wc g (i * 2) a b ∧ ¬ Oc g := by
  obtain ⟨g, cap', a, b, h1, h2, h3, h4⟩ := h.at hi
  simp only [Value.slice.injEq] at h1
  refine ⟨g, a, b, h1.1, h2, ?_, h4⟩
  have e : (⟨g, 0, none⟩ : Addr).add (i * 2) = ⟨g, i * 2, none⟩ := by unfold Addr.add; split <;> simp_all
  rw [e] at h3
  exact ⟨h3.at0, h3.at1⟩
/-- What an indexed call reads. -/
abbrev Rxi (w : World) (p j q g o o' : Nat) (a b : Int) : Prop := Ptr w p j q ∧ w.cell? ⟨g, o, none⟩ = some (.int .i64 a) ∧ w.cell? ⟨g, o', none⟩ = some (.int .i64 b)
theorem Rxi.kept {w w' : World} {p j q g o o' : Nat} {a b : Int} (h : Rxi w p j q g o o' a b) (k : w.grownBy w' none) : Rxi w' p j q g o o' a b := ⟨k.cell h.1 (by simp), k.cell h.2.1 (by simp), k.cell h.2.2 (by simp)⟩
theorem M.getE_ok {S : St} {a b : Int} (h : M.th S (a, b) = true) : M.getE S a b = 0 := by unfold M.getE; exact if_pos h
end Go.Proofs.Ytpfjcfgbecoccaa
