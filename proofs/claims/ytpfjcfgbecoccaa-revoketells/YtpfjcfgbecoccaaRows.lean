/-
  No cell of these rows narrows 'for every input' (looked for: loops, veiled, ifaces, maps, wideKeys, modest, calm, conditions, laid).
  DERIVED. THE GIVEN ROWS OF THIS SEAT. 5 by the template 'for every input the law returns true; each argument reads behind the call as it read before'; 0 by the template 'total and deterministic' (their statements: YtpfjcfgbecoccaaTotals.lean).
  GIVEN WITH THE SEED: the statements are not yours to turn. If you find one false, say at which input.
  Laid BY PROGRAM, IN A SANDBOX (cutbox-rows.mjs): the forced cells as the released guide's own fill.sh prints them over the translation 315d7b55ebe2090b… (all of the seat's roots in one cut). By AI agents, Wed Nov 11 2026. No macro, syntax, notation, axiom, sorry.
-/
import Derived.Test.YtpfjcfgbecoccaaChecked
import GoSem.Claim
import GoSem.ClaimJoined
import GoSem.ClaimMapViews
import Derived.JoinedTies
import Derived.KernelRfl
namespace Go.Proofs.Ytpfjcfgbecoccaa
/- THE CELL 'sum', in the pinned program and in every row, IS THE sha256 OF THE DUMP (.gsa) THAT YtpfjcfgbecoccaaProg.lean LOADS. Nothing in Lean hashes anything: it is a label: what it is worth is what the hold of that sum in a sandbox is worth. -/
noncomputable def Try.pinned : Pinned := { name := "ytpfjcfgbecoccaa", sum := "315d7b55ebe2090bbb3d5a8ce018172e3891abe295b4849417ae60d3774c8812", checked := Try.checked }
namespace Rows
def none {H : Type} : Left H := { results := [], args := [] }

/-- 'donjonlaw11.RevokeEnds': WHATEVER THE INPUT: true; the input reads as it did. -/
def revokeEndsSpec : ChangeSpec := { name := "revokeEnds", fn := fun _ => fun
  | [d1, d2, d3, d4] => { results := [.lit (.bool true)], args := [d1, d2, d3, d4] }
  | _ => none }
def revokeEndsRow : OpenClaim := { program := "ytpfjcfgbecoccaa", sum := "315d7b55ebe2090bbb3d5a8ce018172e3891abe295b4849417ae60d3774c8812", func := "donjon/donjonlaw11.RevokeEnds", spec := "revokeEnds", inPlace := ["slices.overlaps[donjon/api.Slot]"], unfollowed := true, recurses := true, plainKeys := false, apart := false }
def RevokeEndsSaid : Prop := revokeEndsRow.holds Try.pinned (OpenSpec.ofChange revokeEndsSpec)

/-- ITS FALSE NEIGHBOUR: 'it returns false'. Refute it at one input. -/
def revokeEndsWrong : ChangeSpec := { name := "revokeEnds", fn := fun _ => fun
  | [d1, d2, d3, d4] => { results := [.lit (.bool false)], args := [d1, d2, d3, d4] }
  | _ => none }
def RevokeEndsWrongFalsely : Prop := revokeEndsRow.holds Try.pinned (OpenSpec.ofChange revokeEndsWrong)

/-- 'donjonlaw11.RevokeTells': WHATEVER THE INPUT: true; the input reads as it did. -/
def revokeTellsSpec : ChangeSpec := { name := "revokeTells", fn := fun _ => fun
  | [d1, d2, d3, d4] => { results := [.lit (.bool true)], args := [d1, d2, d3, d4] }
  | _ => none }
def revokeTellsRow : OpenClaim := { program := "ytpfjcfgbecoccaa", sum := "315d7b55ebe2090bbb3d5a8ce018172e3891abe295b4849417ae60d3774c8812", func := "donjon/donjonlaw11.RevokeTells", spec := "revokeTells", inPlace := ["slices.overlaps[donjon/api.Slot]"], unfollowed := true, recurses := true, plainKeys := false, apart := false }
def RevokeTellsSaid : Prop := revokeTellsRow.holds Try.pinned (OpenSpec.ofChange revokeTellsSpec)

/-- ITS FALSE NEIGHBOUR: 'it returns false'. Refute it at one input. -/
def revokeTellsWrong : ChangeSpec := { name := "revokeTells", fn := fun _ => fun
  | [d1, d2, d3, d4] => { results := [.lit (.bool false)], args := [d1, d2, d3, d4] }
  | _ => none }
def RevokeTellsWrongFalsely : Prop := revokeTellsRow.holds Try.pinned (OpenSpec.ofChange revokeTellsWrong)

/-- 'donjonlaw11.RevokeOthers': WHATEVER THE INPUT: true; the input reads as it did. -/
def revokeOthersSpec : ChangeSpec := { name := "revokeOthers", fn := fun _ => fun
  | [d1, d2] => { results := [.lit (.bool true)], args := [d1, d2] }
  | _ => none }
def revokeOthersRow : OpenClaim := { program := "ytpfjcfgbecoccaa", sum := "315d7b55ebe2090bbb3d5a8ce018172e3891abe295b4849417ae60d3774c8812", func := "donjon/donjonlaw11.RevokeOthers", spec := "revokeOthers", inPlace := ["slices.overlaps[donjon/api.Slot]"], unfollowed := true, recurses := true, plainKeys := false, apart := false }
def RevokeOthersSaid : Prop := revokeOthersRow.holds Try.pinned (OpenSpec.ofChange revokeOthersSpec)

/-- ITS FALSE NEIGHBOUR: 'it returns false'. Refute it at one input. -/
def revokeOthersWrong : ChangeSpec := { name := "revokeOthers", fn := fun _ => fun
  | [d1, d2] => { results := [.lit (.bool false)], args := [d1, d2] }
  | _ => none }
def RevokeOthersWrongFalsely : Prop := revokeOthersRow.holds Try.pinned (OpenSpec.ofChange revokeOthersWrong)

/-- 'donjonlaw11.RevokeChain': WHATEVER THE INPUT: true; the input reads as it did. -/
def revokeChainSpec : ChangeSpec := { name := "revokeChain", fn := fun _ => fun
  | [d1, d2, d3] => { results := [.lit (.bool true)], args := [d1, d2, d3] }
  | _ => none }
def revokeChainRow : OpenClaim := { program := "ytpfjcfgbecoccaa", sum := "315d7b55ebe2090bbb3d5a8ce018172e3891abe295b4849417ae60d3774c8812", func := "donjon/donjonlaw11.RevokeChain", spec := "revokeChain", inPlace := ["slices.overlaps[donjon/api.Slot]"], unfollowed := true, recurses := true, plainKeys := false, apart := false }
def RevokeChainSaid : Prop := revokeChainRow.holds Try.pinned (OpenSpec.ofChange revokeChainSpec)

/-- ITS FALSE NEIGHBOUR: 'it returns false'. Refute it at one input. -/
def revokeChainWrong : ChangeSpec := { name := "revokeChain", fn := fun _ => fun
  | [d1, d2, d3] => { results := [.lit (.bool false)], args := [d1, d2, d3] }
  | _ => none }
def RevokeChainWrongFalsely : Prop := revokeChainRow.holds Try.pinned (OpenSpec.ofChange revokeChainWrong)

/-- 'donjonlaw11.RevokeCopies': WHATEVER THE INPUT: true; the input reads as it did. -/
def revokeCopiesSpec : ChangeSpec := { name := "revokeCopies", fn := fun _ => fun
  | [d1, d2] => { results := [.lit (.bool true)], args := [d1, d2] }
  | _ => none }
def revokeCopiesRow : OpenClaim := { program := "ytpfjcfgbecoccaa", sum := "315d7b55ebe2090bbb3d5a8ce018172e3891abe295b4849417ae60d3774c8812", func := "donjon/donjonlaw11.RevokeCopies", spec := "revokeCopies", inPlace := ["slices.overlaps[donjon/api.Slot]"], unfollowed := true, recurses := true, plainKeys := false, apart := false }
def RevokeCopiesSaid : Prop := revokeCopiesRow.holds Try.pinned (OpenSpec.ofChange revokeCopiesSpec)

/-- ITS FALSE NEIGHBOUR: 'it returns false'. Refute it at one input. -/
def revokeCopiesWrong : ChangeSpec := { name := "revokeCopies", fn := fun _ => fun
  | [d1, d2] => { results := [.lit (.bool false)], args := [d1, d2] }
  | _ => none }
def RevokeCopiesWrongFalsely : Prop := revokeCopiesRow.holds Try.pinned (OpenSpec.ofChange revokeCopiesWrong)

/- THE SECOND FORM. 'bulk': how many values and letters a reading holds, each counted each time it is reached (what is shared counts as often as it is met; a slice's spare places count too). A statement '..UptoSaid' is the law's where the arguments, and the package variables that the reading takes, are together of bulk at most 1048576: NARROWER than '..Said'. Prove '..Said' where nothing that the law and all that it calls make is longer than what came in: it says more and counts as full. Else prove '..UptoSaid'. A law counts once. -/
mutual
def uptoBulk {H : Type} : DataW H → Nat
  | .lit (.string bytes) => bytes.length + 1
  | .lit _ => 1
  | .nil => 1
  | .ptr d => uptoBulk d + 1
  | .slice elems spare => uptoBulkAll elems + uptoBulkAll spare + 1
  | .agg parts => uptoBulkAll parts + 1
  | .iface _ d => uptoBulk d + 1
  | .map entries => uptoBulkEntries entries + 1
  | .held _ => 1
def uptoBulkAll {H : Type} : List (DataW H) → Nat
  | [] => 0
  | d :: r => uptoBulk d + uptoBulkAll r
def uptoBulkEntries {H : Type} : List (Lit × DataW H) → Nat
  | [] => 0
  | x :: r => uptoBulkEntry x + uptoBulkEntries r
def uptoBulkEntry {H : Type} : Lit × DataW H → Nat
  | (.string bytes, d) => bytes.length + uptoBulk d + 1
  | (_, d) => uptoBulk d + 1
 end
def uptoSmall : (H : Type) → List (DataW H) → Bool := fun _ ds => decide (uptoBulkAll ds ≤ 1048576)
def OpenSpec.upto (s : _root_.Go.ChangeSpec) : _root_.Go.OpenSpec := { _root_.Go.OpenSpec.ofChange s with cond := some uptoSmall }

/-- 'donjonlaw11.RevokeEnds', WHERE WHAT IT READS IS OF BULK AT MOST 1048576: true; the input reads as it did. -/
def revokeEndsUptoRow : OpenClaim := { program := "ytpfjcfgbecoccaa", sum := "315d7b55ebe2090bbb3d5a8ce018172e3891abe295b4849417ae60d3774c8812", func := "donjon/donjonlaw11.RevokeEnds", spec := "revokeEnds", inPlace := ["slices.overlaps[donjon/api.Slot]"], unfollowed := true, recurses := true, plainKeys := false, apart := false, narrowed := true }
def RevokeEndsUptoSaid : Prop := revokeEndsUptoRow.holds Try.pinned (OpenSpec.upto revokeEndsSpec)

/-- 'donjonlaw11.RevokeTells', WHERE WHAT IT READS IS OF BULK AT MOST 1048576: true; the input reads as it did. -/
def revokeTellsUptoRow : OpenClaim := { program := "ytpfjcfgbecoccaa", sum := "315d7b55ebe2090bbb3d5a8ce018172e3891abe295b4849417ae60d3774c8812", func := "donjon/donjonlaw11.RevokeTells", spec := "revokeTells", inPlace := ["slices.overlaps[donjon/api.Slot]"], unfollowed := true, recurses := true, plainKeys := false, apart := false, narrowed := true }
def RevokeTellsUptoSaid : Prop := revokeTellsUptoRow.holds Try.pinned (OpenSpec.upto revokeTellsSpec)

/-- 'donjonlaw11.RevokeOthers', WHERE WHAT IT READS IS OF BULK AT MOST 1048576: true; the input reads as it did. -/
def revokeOthersUptoRow : OpenClaim := { program := "ytpfjcfgbecoccaa", sum := "315d7b55ebe2090bbb3d5a8ce018172e3891abe295b4849417ae60d3774c8812", func := "donjon/donjonlaw11.RevokeOthers", spec := "revokeOthers", inPlace := ["slices.overlaps[donjon/api.Slot]"], unfollowed := true, recurses := true, plainKeys := false, apart := false, narrowed := true }
def RevokeOthersUptoSaid : Prop := revokeOthersUptoRow.holds Try.pinned (OpenSpec.upto revokeOthersSpec)

/-- 'donjonlaw11.RevokeChain', WHERE WHAT IT READS IS OF BULK AT MOST 1048576: true; the input reads as it did. -/
def revokeChainUptoRow : OpenClaim := { program := "ytpfjcfgbecoccaa", sum := "315d7b55ebe2090bbb3d5a8ce018172e3891abe295b4849417ae60d3774c8812", func := "donjon/donjonlaw11.RevokeChain", spec := "revokeChain", inPlace := ["slices.overlaps[donjon/api.Slot]"], unfollowed := true, recurses := true, plainKeys := false, apart := false, narrowed := true }
def RevokeChainUptoSaid : Prop := revokeChainUptoRow.holds Try.pinned (OpenSpec.upto revokeChainSpec)

/-- 'donjonlaw11.RevokeCopies', WHERE WHAT IT READS IS OF BULK AT MOST 1048576: true; the input reads as it did. -/
def revokeCopiesUptoRow : OpenClaim := { program := "ytpfjcfgbecoccaa", sum := "315d7b55ebe2090bbb3d5a8ce018172e3891abe295b4849417ae60d3774c8812", func := "donjon/donjonlaw11.RevokeCopies", spec := "revokeCopies", inPlace := ["slices.overlaps[donjon/api.Slot]"], unfollowed := true, recurses := true, plainKeys := false, apart := false, narrowed := true }
def RevokeCopiesUptoSaid : Prop := revokeCopiesUptoRow.holds Try.pinned (OpenSpec.upto revokeCopiesSpec)

end Rows
end Go.Proofs.Ytpfjcfgbecoccaa
