/-
  Plain: who waits behind one that asks: nobody twice, one more at most.
-/
import Derived.Test.YtehgfeflbkdjdaaArgs
import Derived.Test.YtehgfeflbkdjdaaRca
namespace Go.Proofs.Ytehgfeflbkdjdaa
set_option linter.unusedVariables false

theorem kRN (p : Nat) (W : Int) (b : Option Int) (L : List Int) : Keeps (fun w O => RN w O p W b L) := fun _ _ _ _ h F hd => h.fr F hd
theorem M.wl_nodup {W a : Int} {L : List Int} {wt : Bool} (h : L.Nodup) : (M.wl W L a wt).Nodup := by
  unfold M.wl
  split
  · rename_i c
    rw [← M.pl_ok c.1]; exact M.pl_nodup a h
  · exact h
theorem M.wl_len (W a : Int) (L : List Int) (wt : Bool) : (M.wl W L a wt).length ≤ L.length + 1 := by
  unfold M.wl
  split <;> simp
end Go.Proofs.Ytehgfeflbkdjdaa
