/-
  A THING AND A LIST OF THE CALL'S OWN, side by side: append onto the list. Arguments that are brought into bounds.
-/
import Derived.Test.YtlekmpidhgjpdaaWrk
import Derived.Test.YtlekmpidhgjpdaaRrd
namespace Go.Proofs.Ytlekmpidhgjpdaa
set_option maxRecDepth 10000
open Go.RowKit
set_option linter.unusedVariables false

section
variable {α : Type} {e : α → List Value} {tk : TypeId} {s : Nat}
/-- A list, its block among O. -/
def LB (e : α → List Value) (tk : TypeId) (s : Nat) (v : Value) (D : List α) (w : World) (O : Nat → Prop) : Prop := Ls e tk s w 0 v D ∧ ∀ k, v.ownBlock = some k → O k
theorem kLB (e : α → List Value) (tk : TypeId) (s : Nat) (v : Value) (D : List α) : Keeps (LB e tk s v D) := fun _ _ _ _ h F hd => ⟨h.1.fr F (fun k hk => hd k (h.2 k hk)), h.2⟩
variable {A : World → (Nat → Prop) → Prop} {w0 w w' W : World} {P R : Nat → Prop} {D : List α}
/-- append of one element. -/
theorem Tw.app {tl : TypeId} {x0 : Option Addr} {n0 c0 : Nat} (hA : Keeps A) (h : Tw A (LB e tk s (.slice x0 n0 c0) D) w0 w P R) (hn0 : D.length = n0)
    (HR : ∀ (w : World) (B : Nat) (v : Value) (L : List α) (hown : Ls e tk s w B v L) (ty : TypeId) (ox : Option Addr) (m c : Nat) (D : List α) (hm : D.length = m) (hno : ox = none → m = 0) (hx : ∀ ad, ox = some ad → ∀ j u, (cl e D)[j]? = some u → w.cell? (ad.add j) = some u) (hn : L.length + m ≤ 100000) (hB : B ≤ w.heap.size),
      ∃ v' w', (Builtin.append_ #[tl, tl] ty #[v, .slice ox m c]).run Try.prog w = .ok v' w' ∧ Ls e tk s w' B v' (L ++ D) ∧ w.grownBy w' v.ownBlock ∧ (v'.ownBlock = v.ownBlock ∨ v'.ownBlock = some w.heap.size))
    (G : w.grownBy W none) (ad : Addr) (c : Nat) (k : α) (hx : ∀ j u, (cl e [k])[j]? = some u → W.cell? (ad.add j) = some u) (hn : n0 ≤ 1000) :
    ∃ x cap w6, (Builtin.append_ #[tl, tl] tl #[.slice x0 n0 c0, .slice (some ad) 1 c]).run Try.prog W = .ok (.slice x (n0 + 1) cap) w6 ∧ Hid (Tw A (LB e tk s (.slice x (n0 + 1) cap) (D ++ [k])) w0 w6 P (wide R w w6)) ∧ Hid (Fr R w w6) ∧ W.grownBy w6 (Value.ownBlock (.slice x0 n0 c0)) := by
  subst hn0
  obtain ⟨v', w6, hr, q1, q2, q3⟩ := HR W 0 (.slice x0 D.length c0) D (h.b.1.kept G) tl (some ad) 1 c [k] rfl (by simp) (by rintro ad' ⟨⟩; exact hx) (by omega) (Nat.zero_le _)
  obtain ⟨x, cap, rfl, _⟩ := q1.arr
  have e1 : (D ++ [k]).length = D.length + 1 := by simp
  rw [e1] at hr q1 q3
  have F : Fr R w w6 := (Fr.grown G).trans (Fr.opt q2 (fun k' hk => h.b.2 k' hk))
  refine ⟨x, cap, w6, hr, hideIt (Tw.doc (B' := LB e tk s (.slice x (D.length + 1) cap) (D ++ [k])) hA h ⟨q1, fun k' hk => ?_⟩ F), hideIt F, q2⟩
  rcases q3 with e' | e'
  · rw [e'] at hk; exact .inl (h.b.2 _ hk)
  · rw [e'] at hk; cases hk; exact .inr ⟨G.size, (q1.lt _ e').2⟩
/-- A list that nobody has yet. -/
theorem Tw.begin (h : On A w0 w P) : Tw A (LB e tk s (.slice none 0 0) []) w0 w P (fun _ => False) :=
  ⟨h.a, ⟨Ls.nil _ _ _ _ _, fun k hk => by cases hk⟩, h.lo, fun i hi => hi.elim, fun i _ hi => hi, h.gr⟩
theorem Tw.one {B : World → (Nat → Prop) → Prop} (h : Tw A B w0 w P R) : On A w0 w P := ⟨h.a, h.lo, h.gr⟩
end

/-- int(uint64(a) % m). -/
theorem modArg (a : Int) (m : Nat) (hm : 0 < m) : ∃ U y : Nat, IntKind.u64.wrap a = (U : Int) ∧ (U : Int) % (m : Int) = (y : Int) ∧ y < m := by
  have h0 : 0 ≤ IntKind.u64.wrap a := by rw [IntKind.wrap_u64]; omega
  obtain ⟨U, hU⟩ : ∃ U : Nat, IntKind.u64.wrap a = (U : Int) := ⟨(IntKind.u64.wrap a).toNat, by omega⟩
  refine ⟨U, U % m, hU, by norm_cast, Nat.mod_lt _ hm⟩
end Go.Proofs.Ytlekmpidhgjpdaa
