/-
  Plain: who waits behind one that comes: nobody twice, one more at most.
-/
import Derived.Test.YtenljiciiocagaaArgs
import Derived.Test.YtenljiciiocagaaRca
namespace Go.Proofs.Ytenljiciiocagaa
set_option linter.unusedVariables false

theorem kRB (p : Nat) (k : Int) (L : List Int) : Keeps (fun w O => RB w O p k L) := fun _ _ _ _ h F hd => h.fr F hd
theorem M.el_nodup {k o a : Int} {L : List Int} {wt : Bool} (h : L.Nodup) : (M.el k L o a wt).Nodup := by
  unfold M.el
  split
  · rename_i c
    split
    · exact h.sublist (List.tail_sublist _)
    · split
      · rw [← M.pl_ok c]; exact M.pl_nodup a h
      · exact h
  · exact h
theorem M.el_len (k o a : Int) (L : List Int) (wt : Bool) : (M.el k L o a wt).length ≤ L.length + 1 := by
  unfold M.el
  split
  · split
    · rw [List.length_tail]; omega
    · split
      · simp
      · omega
  · omega
end Go.Proofs.Ytenljiciiocagaa
