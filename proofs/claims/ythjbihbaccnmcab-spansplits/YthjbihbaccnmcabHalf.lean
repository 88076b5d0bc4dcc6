/-
  Halves, said of natural numbers; spans that are opened once more.
-/
import Derived.Test.YthjbihbaccnmcabWorks
import Derived.Test.YthjbihbaccnmcabNest
namespace Go.Proofs.Ythjbihbaccnmcab
open Go.RowKit

theorem halves_is (a b c m n : Nat) (w : World) (hn : b + 1 = n) (hm : 2 ^ b = m) (hc : a + m = c) (h : M.rgt (a : Int) (n : Int) = true) :
    Calls Try.prog 7 #[sp a n] w fun e w' => e = .returned (.tuple #[sp a b, sp c b, .int .i64 0]) ∧ w.grownBy w' none := by
  have := halves_yes a b m n w hn (M.half_facts hn hm hc h).1 hm h
  rwa [show (a : Int) + (m : Int) = (c : Int) by omega] at this

end Go.Proofs.Ythjbihbaccnmcab
