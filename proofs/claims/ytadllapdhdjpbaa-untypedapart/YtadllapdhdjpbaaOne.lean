/-
  ONE BY ONE THE SAME, AS NUMBERS; and lists of one element in memory. Speaks of no function of the program.
-/
import Derived.Test.YtadllapdhdjpbaaFill
import Derived.Test.YtadllapdhdjpbaaPlan
namespace Go.Proofs.Ytadllapdhdjpbaa
open Go.RowKit

namespace M
theorem usd_mk {A B u : Int} (h : usd A B u = true) (p v : Nat) (hp : pw B = (p : Int)) (hv : v ≤ p) : usd A B (v : Int) = true := by
  unfold usd at *
  simp only [Bool.and_eq_true] at h
  rw [h.1, hp, decide_eq_true (by omega : (0 : Int) ≤ (v : Int)), decide_eq_true (by omega : (v : Int) ≤ (p : Int))]; rfl

/-- What is used after i of x objects. -/
def Used (a s f m i v : Nat) : Prop := (i = 0 ∧ v = s) ∨ (1 ≤ i ∧ a + v = f + i * m)

theorem one {A B u k n c : Int} {a d p s b m x f : Nat} (F : Fits A B u k n c a d p s b m x f) (hy : f + x * m ≤ a + p) (i v : Nat) (hi : i < x) (hv : Used a s f m i v) :
    pln A B (v : Int) k n 1 = ([(((f + i * m : Nat) : Int), (b : Int))], ((f + (i + 1) * m - a : Nat) : Int), 0) ∧ Used a s f m (i + 1) (f + (i + 1) * m - a) ∧ f + (i + 1) * m - a ≤ p := by
  have h1 : (i + 1) * m ≤ x * m := Nat.mul_le_mul_right m (by omega)
  have h2 : (i + 1) * m = i * m + m := Nat.succ_mul i m
  have hvp : v ≤ p := by
    rcases hv with ⟨_, rfl⟩ | ⟨_, e⟩
    · exact F.sp
    · have := F.m1; clear F; omega
  have hpw : pw B = (p : Int) := by rw [F.hB, pw_nat, F.hp]
  have hu := usd_mk F.ok p v hpw hvp
  have hfa : a ≤ f := Nat.le_trans (Nat.le_add_right _ _) F.f1
  refine ⟨?_, .inr ⟨by omega, by clear F; omega⟩, by clear F; omega⟩
  rcases ways6 A B (v : Int) k n 1 with ⟨b', e', hb', he', q'⟩ | ⟨b', hb', _, hk', q'⟩ | ⟨a', d', p', s', b', m', y', f', F', H⟩
  · rw [F.hb] at hb'; simp only [Prod.mk.injEq] at hb'; exact absurd hb'.2.symm he'
  · exact absurd ⟨hu, by omega, by omega⟩ hk'
  · have ea : a = a' := by have h1 := F.hA; have h2 := F'.hA; omega
    have ed : d = d' := by have h1 := F.hB; have h2 := F'.hB; omega
    have es : v = s' := by have h2 := F'.hu; omega
    have eb : b = b' := by have h1 := F.hb; rw [F'.hb] at h1; simp only [Prod.mk.injEq] at h1; omega
    have ey : y' = 1 := by have h1 := F'.hc; omega
    have ep : p = p' := by rw [← F.hp, ← F'.hp, ed]
    have em : m = m' := by rw [← F.hm, ← F'.hm, eb]
    have ef : f' = f + i * m := by
      rcases hv with ⟨hi0, hvs⟩ | ⟨hi1, e⟩
      · have h1 := F.hf; have h2 := F'.hf
        rw [← ea, ← es, ← eb, hvs, h1] at h2
        rw [hi0, ← h2]; simp
      · have f1 := F'.f1; have f2 := F'.f2; have f3 := F'.f3
        rw [← em, ← ea, ← es] at *
        rw [e] at f1 f2
        refine same_up (f + i * m) f' m f1 f2 f3 ?_
        rw [Nat.add_mod, F.f3, Nat.mul_mod_left]; simp
    subst ea ed es eb ey ep em ef
    clear F' F
    rcases H with ⟨hy2, q⟩ | ⟨hy2, q⟩
    · exfalso; omega
    · rw [q]
      have e1 : f + i * m + 1 * m - a = f + (i + 1) * m - a := by omega
      have e2 : rowL (f + i * m) m b 1 = [(((f + i * m : Nat) : Int), (b : Int))] := by unfold rowL; simp
      rw [e1, e2]

/-- Refused, or all there. -/
theorem pln_ways (A B u k n c : Int) : (∃ e, (e != 0) = true ∧ pln A B u k n c = ([], 0, e)) ∨
    (∃ a d p s b m x f : Nat, Fits A B u k n c a d p s b m x f ∧ f + x * m ≤ a + p ∧ pln A B u k n c = (rowL f m b x, ((f + x * m - a : Nat) : Int), 0)) := by
  rcases ways6 A B u k n c with ⟨b, e, hb, he, q⟩ | ⟨b, hb, _, hk, q⟩ | ⟨a, d, p, s, b, m, y, f, F, ⟨hy, q⟩ | ⟨hy, q⟩⟩
  · exact .inl ⟨e, by simpa using he, q⟩
  · exact .inl ⟨1, rfl, q⟩
  · exact .inl ⟨7, rfl, q⟩
  · exact .inr ⟨a, d, p, s, b, m, y, f, F, hy, q⟩
end M

theorem Lst.one {w : World} {B : Nat} {v : Value} {A D : Int} (h : Lst w B v [(A, D)]) : ∃ g cap, v = .slice (some ⟨g, 0, none⟩) 1 cap ∧ w.cell? ⟨g, 0, none⟩ = some (.int .i64 A) ∧ w.cell? ⟨g, 1, none⟩ = some (.int .i64 D) ∧ B ≤ g ∧ g < w.heap.size := by
  rcases h.form with ⟨_, h2⟩ | ⟨g, cap, rfl, _, h3, h4, _, hr⟩
  · cases h2
  · have := hr 0 _ rfl
    exact ⟨g, cap, rfl, by simpa [Addr.add] using this.at0, by simpa [Addr.add] using this.at1, h3, h4⟩
theorem Lst.keep {w w' : World} {B : Nat} {v : Value} {L : List (Int × Int)} {r : Option Nat} (h : Lst w B v L) (g : w.grownBy w' r) (hr : ∀ k, r = some k → w.heap.size ≤ k) : Lst w' B v L :=
  h.kept (gbNews g hr)

end Go.Proofs.Ytadllapdhdjpbaa
