/-
  No cell of these rows narrows 'for every input' (looked for: loops, veiled, ifaces, maps, wideKeys, modest, calm, conditions, laid).
  DERIVED. THE GIVEN ROWS OF THIS SEAT. 4 by the template 'for every input the law returns true; each argument reads behind the call as it read before'; 0 by the template 'total and deterministic' (their statements: YtboojbnnjbmnoaaTotals.lean).
  GIVEN WITH THE SEED: the statements are not yours to turn. If you find one false, say at which input.
  Laid BY PROGRAM, IN A SANDBOX (cutbox-rows.mjs): the forced cells as the released guide's own fill.sh prints them over the translation abeedd91e91848cf… (all of the seat's roots in one cut). By AI agents, Wed Nov 11 2026. No macro, syntax, notation, axiom, sorry.
-/
import Derived.Test.YtboojbnnjbmnoaaChecked
import GoSem.Claim
import GoSem.ClaimJoined
import GoSem.ClaimMapViews
import Derived.JoinedTies
import Derived.KernelRfl
namespace Go.Proofs.Ytboojbnnjbmnoaa
/- THE CELL 'sum', in the pinned program and in every row, IS THE sha256 OF THE DUMP (.gsa) THAT YtboojbnnjbmnoaaProg.lean LOADS. Nothing in Lean hashes anything: it is a label: what it is worth is what the hold of that sum in a sandbox is worth. -/
noncomputable def Try.pinned : Pinned := { name := "ytboojbnnjbmnoaa", sum := "abeedd91e91848cf6c4dba232ae2d3ae0e9b57653f0643d3ad233cde19045771", checked := Try.checked }
namespace Rows
def none {H : Type} : Left H := { results := [], args := [] }

/-- 'donjonlaw09.TreeDoes': WHATEVER THE INPUT: true; the input reads as it did. -/
def treeDoesSpec : ChangeSpec := { name := "treeDoes", fn := fun _ => fun
  | [d] => { results := [.lit (.bool true)], args := [d] }
  | _ => none }
def treeDoesRow : OpenClaim := { program := "ytboojbnnjbmnoaa", sum := "abeedd91e91848cf6c4dba232ae2d3ae0e9b57653f0643d3ad233cde19045771", func := "donjon/donjonlaw09.TreeDoes", spec := "treeDoes", inPlace := ["slices.overlaps[donjon/api.Slot]"], plainKeys := false, apart := false }
def TreeDoesSaid : Prop := treeDoesRow.holds Try.pinned (OpenSpec.ofChange treeDoesSpec)

/-- ITS FALSE NEIGHBOUR: 'it returns false'. Refute it at one input. -/
def treeDoesWrong : ChangeSpec := { name := "treeDoes", fn := fun _ => fun
  | [d] => { results := [.lit (.bool false)], args := [d] }
  | _ => none }
def TreeDoesWrongFalsely : Prop := treeDoesRow.holds Try.pinned (OpenSpec.ofChange treeDoesWrong)

/-- 'donjonlaw09.TreeKin': WHATEVER THE INPUT: true; the input reads as it did. -/
def treeKinSpec : ChangeSpec := { name := "treeKin", fn := fun _ => fun
  | [d] => { results := [.lit (.bool true)], args := [d] }
  | _ => none }
def treeKinRow : OpenClaim := { program := "ytboojbnnjbmnoaa", sum := "abeedd91e91848cf6c4dba232ae2d3ae0e9b57653f0643d3ad233cde19045771", func := "donjon/donjonlaw09.TreeKin", spec := "treeKin", inPlace := ["slices.overlaps[donjon/api.Slot]"], plainKeys := false, apart := false }
def TreeKinSaid : Prop := treeKinRow.holds Try.pinned (OpenSpec.ofChange treeKinSpec)

/-- ITS FALSE NEIGHBOUR: 'it returns false'. Refute it at one input. -/
def treeKinWrong : ChangeSpec := { name := "treeKin", fn := fun _ => fun
  | [d] => { results := [.lit (.bool false)], args := [d] }
  | _ => none }
def TreeKinWrongFalsely : Prop := treeKinRow.holds Try.pinned (OpenSpec.ofChange treeKinWrong)

/-- 'donjonlaw09.TreeDrops': WHATEVER THE INPUT: true; the input reads as it did. -/
def treeDropsSpec : ChangeSpec := { name := "treeDrops", fn := fun _ => fun
  | [d1, d2] => { results := [.lit (.bool true)], args := [d1, d2] }
  | _ => none }
def treeDropsRow : OpenClaim := { program := "ytboojbnnjbmnoaa", sum := "abeedd91e91848cf6c4dba232ae2d3ae0e9b57653f0643d3ad233cde19045771", func := "donjon/donjonlaw09.TreeDrops", spec := "treeDrops", inPlace := ["slices.overlaps[donjon/api.Slot]"], plainKeys := false, apart := false }
def TreeDropsSaid : Prop := treeDropsRow.holds Try.pinned (OpenSpec.ofChange treeDropsSpec)

/-- ITS FALSE NEIGHBOUR: 'it returns false'. Refute it at one input. -/
def treeDropsWrong : ChangeSpec := { name := "treeDrops", fn := fun _ => fun
  | [d1, d2] => { results := [.lit (.bool false)], args := [d1, d2] }
  | _ => none }
def TreeDropsWrongFalsely : Prop := treeDropsRow.holds Try.pinned (OpenSpec.ofChange treeDropsWrong)

/-- 'donjonlaw09.TreeMoved': WHATEVER THE INPUT: true; the input reads as it did. -/
def treeMovedSpec : ChangeSpec := { name := "treeMoved", fn := fun _ => fun
  | [d1, d2, d3] => { results := [.lit (.bool true)], args := [d1, d2, d3] }
  | _ => none }
def treeMovedRow : OpenClaim := { program := "ytboojbnnjbmnoaa", sum := "abeedd91e91848cf6c4dba232ae2d3ae0e9b57653f0643d3ad233cde19045771", func := "donjon/donjonlaw09.TreeMoved", spec := "treeMoved", inPlace := ["slices.overlaps[donjon/api.Slot]"], plainKeys := false, apart := false }
def TreeMovedSaid : Prop := treeMovedRow.holds Try.pinned (OpenSpec.ofChange treeMovedSpec)

/-- ITS FALSE NEIGHBOUR: 'it returns false'. Refute it at one input. -/
def treeMovedWrong : ChangeSpec := { name := "treeMoved", fn := fun _ => fun
  | [d1, d2, d3] => { results := [.lit (.bool false)], args := [d1, d2, d3] }
  | _ => none }
def TreeMovedWrongFalsely : Prop := treeMovedRow.holds Try.pinned (OpenSpec.ofChange treeMovedWrong)

/- THE SECOND FORM. 'bulk': how many values and letters a reading holds, each counted each time it is reached (what is shared counts as often as it is met; a slice's spare places count too). A statement '..UptoSaid' is the law's where the arguments, and the package variables that the reading takes, are together of bulk at most 1048576: NARROWER than '..Said'. Prove '..Said' where nothing that the law and all that it calls make is longer than what came in: it says more and counts as full. Else prove '..UptoSaid'. A law counts once. -/
mutual
def uptoBulk {H : Type} : DataW H → Nat
  | .lit (.string bytes) => bytes.length + 1
  | .lit _ => 1
  | .nil => 1
  | .ptr d => uptoBulk d + 1
  | .slice elems spare => uptoBulkAll elems + uptoBulkAll spare + 1
  | .agg parts => uptoBulkAll parts + 1
  | .iface _ d => uptoBulk d + 1
  | .map entries => uptoBulkEntries entries + 1
  | .held _ => 1
def uptoBulkAll {H : Type} : List (DataW H) → Nat
  | [] => 0
  | d :: r => uptoBulk d + uptoBulkAll r
def uptoBulkEntries {H : Type} : List (Lit × DataW H) → Nat
  | [] => 0
  | x :: r => uptoBulkEntry x + uptoBulkEntries r
def uptoBulkEntry {H : Type} : Lit × DataW H → Nat
  | (.string bytes, d) => bytes.length + uptoBulk d + 1
  | (_, d) => uptoBulk d + 1
 end
def uptoSmall : (H : Type) → List (DataW H) → Bool := fun _ ds => decide (uptoBulkAll ds ≤ 1048576)
def OpenSpec.upto (s : _root_.Go.ChangeSpec) : _root_.Go.OpenSpec := { _root_.Go.OpenSpec.ofChange s with cond := some uptoSmall }

/-- 'donjonlaw09.TreeDoes', WHERE WHAT IT READS IS OF BULK AT MOST 1048576: true; the input reads as it did. -/
def treeDoesUptoRow : OpenClaim := { program := "ytboojbnnjbmnoaa", sum := "abeedd91e91848cf6c4dba232ae2d3ae0e9b57653f0643d3ad233cde19045771", func := "donjon/donjonlaw09.TreeDoes", spec := "treeDoes", inPlace := ["slices.overlaps[donjon/api.Slot]"], plainKeys := false, apart := false, narrowed := true }
def TreeDoesUptoSaid : Prop := treeDoesUptoRow.holds Try.pinned (OpenSpec.upto treeDoesSpec)

/-- 'donjonlaw09.TreeKin', WHERE WHAT IT READS IS OF BULK AT MOST 1048576: true; the input reads as it did. -/
def treeKinUptoRow : OpenClaim := { program := "ytboojbnnjbmnoaa", sum := "abeedd91e91848cf6c4dba232ae2d3ae0e9b57653f0643d3ad233cde19045771", func := "donjon/donjonlaw09.TreeKin", spec := "treeKin", inPlace := ["slices.overlaps[donjon/api.Slot]"], plainKeys := false, apart := false, narrowed := true }
def TreeKinUptoSaid : Prop := treeKinUptoRow.holds Try.pinned (OpenSpec.upto treeKinSpec)

/-- 'donjonlaw09.TreeDrops', WHERE WHAT IT READS IS OF BULK AT MOST 1048576: true; the input reads as it did. -/
def treeDropsUptoRow : OpenClaim := { program := "ytboojbnnjbmnoaa", sum := "abeedd91e91848cf6c4dba232ae2d3ae0e9b57653f0643d3ad233cde19045771", func := "donjon/donjonlaw09.TreeDrops", spec := "treeDrops", inPlace := ["slices.overlaps[donjon/api.Slot]"], plainKeys := false, apart := false, narrowed := true }
def TreeDropsUptoSaid : Prop := treeDropsUptoRow.holds Try.pinned (OpenSpec.upto treeDropsSpec)

/-- 'donjonlaw09.TreeMoved', WHERE WHAT IT READS IS OF BULK AT MOST 1048576: true; the input reads as it did. -/
def treeMovedUptoRow : OpenClaim := { program := "ytboojbnnjbmnoaa", sum := "abeedd91e91848cf6c4dba232ae2d3ae0e9b57653f0643d3ad233cde19045771", func := "donjon/donjonlaw09.TreeMoved", spec := "treeMoved", inPlace := ["slices.overlaps[donjon/api.Slot]"], plainKeys := false, apart := false, narrowed := true }
def TreeMovedUptoSaid : Prop := treeMovedUptoRow.holds Try.pinned (OpenSpec.upto treeMovedSpec)

end Rows
end Go.Proofs.Ytboojbnnjbmnoaa
