/-
  PLAIN NUMBERS: what the word's operations come to, said by bits ('testBit'): no Go in sight.
-/
import Derived.Laws.BitsAllLaws
import Derived.Laws.BitsLemmas
import Derived.RowKit
namespace Go.Proofs.YtdnoidnpiaadaaaGreat
namespace M
open Go.RowKit (wrap64)

theorem cast_shr (W i : Nat) : (W : Int) / 2 ^ i = ((W / 2 ^ i : Nat) : Int) := by simp

def getN (W a n : Nat) : Nat := W / 2 ^ a % 2 ^ n

end M
end Go.Proofs.YtdnoidnpiaadaaaGreat
