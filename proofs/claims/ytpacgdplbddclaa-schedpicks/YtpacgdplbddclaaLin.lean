/-
  THE CONTRACTS of a Line: New, Push, Pop, Remove, List of package line; the document's Push, Pop, Remove.
-/
import Derived.Test.YtpacgdplbddclaaHds
namespace Go.Proofs.Ytpacgdplbddclaa
set_option maxRecDepth 10000
open Go.RowKit
set_option linter.unusedVariables false

/-- A line (the program's, or the document's) at p. -/
abbrev LA (w : World) (O : Nat → Prop) (p : Nat) (L : List Int) : Prop := HA eI 3 1 w O p L
/-! ### The chapter's answers -/
def M.pe (L : List Int) (a : Int) : Int := if 0 ≤ a ∧ a < 64 then (if a ∈ L then 4 else 0) else 1
def M.pl (L : List Int) (a : Int) : List Int := if 0 ≤ a ∧ a < 64 ∧ a ∉ L then L ++ [a] else L
theorem M.pl_nodup {L : List Int} (a : Int) (h : L.Nodup) : (M.pl L a).Nodup := by
  unfold M.pl
  split
  · rename_i c
    rw [List.nodup_append]
    refine ⟨h, by simp, ?_⟩
    intro x hx y hy
    simp at hy
    subst hy
    rintro rfl
    exact c.2.2 hx
  · exact h
theorem M.pl_len (L : List Int) (a : Int) : (M.pl L a).length ≤ L.length + 1 := by
  unfold M.pl
  split <;> simp
theorem M.wo_head {a : Int} {L : List Int} (h : (a :: L).Nodup) : M.wo (a :: L) a = L := by
  have h1 : a ∉ L := (List.nodup_cons.1 h).1
  have := M.wo_not h1
  unfold M.wo at this ⊢
  rw [List.filter_cons]
  simp [this]
theorem rowI (w : World) (a : Int) : ∀ j u, (cl eI [a])[j]? = some u → (w.alloc (.cells #[.int .i64 a] 3)).cell? ((⟨w.heap.size, 0, none⟩ : Addr).add j) = some u := by
  intro j u h
  have hj : j < 1 := by have := (List.getElem?_eq_some_iff.1 h).1; rwa [cl_len encI] at this
  obtain rfl : j = 0 := by omega
  simp [cl] at h
  subst h
  rw [Addr.add_lit]
  simp

/-! ### New -/
/-- Who is first; 0: nobody. -/
def M.hd (L : List Int) : Int := L.headD 0
def M.hb (L : List Int) : Bool := !L.isEmpty
end Go.Proofs.Ytpacgdplbddclaa
