/-
  THE DOCUMENT'S SIDE (donjonref05): Derive and Weaker as the chapter says them.
-/
import Derived.Test.YtkpcdfiebjigbaaRdrv
namespace Go.Proofs.Ytkpcdfiebjigbaa
set_option maxRecDepth 10000
open Go.RowKit

theorem rweaker_is (k o r b g n k' o' r' b' g' n' : Int) (v : Bool) (h : M.wkr ⟨k, o, r, b, g, n⟩ ⟨k', o', r', b', g', n'⟩ = v) (w : World) :
    Calls Try.prog 19 #[cv ⟨k, o, r, b, g, n⟩, cv ⟨k', o', r', b', g', n'⟩] w fun e w' => e = .returned (.bool v) ∧ w.grownBy w' none := by
  subst h
  refine (rweaker_in k o r b g n k' o' r' b' g' n' _ _ _ _ _ _ _ _ _ rfl rfl rfl rfl rfl rfl (fun w => rchk_is k o r b g n _ rfl w) (fun w => rchk_is k' o' r' b' g' n' _ rfl w) (fun w => rwithin_any r r' w) w).mono fun e w1 ⟨h, hg⟩ => ⟨h.trans (ret_bool ?_), hg⟩
  have e : (b == b') = (b' == b) := by
    by_cases h : b = b'
    · subst h; rfl
    · rw [beq_eq_false_iff_ne.2 h, beq_eq_false_iff_ne.2 (Ne.symm h)]
  rw [e]
  rfl
end Go.Proofs.Ytkpcdfiebjigbaa
