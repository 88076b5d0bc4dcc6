/-
  No cell of these rows narrows 'for every input' (looked for: loops, veiled, ifaces, maps, wideKeys, modest, calm, conditions, laid).
  DERIVED. THE GIVEN ROWS OF THIS SEAT. 4 by the template 'for every input the law returns true; each argument reads behind the call as it read before'; 0 by the template 'total and deterministic' (their statements: YtkpcdfiebjigbaaTotals.lean).
  GIVEN WITH THE SEED: the statements are not yours to turn. If you find one false, say at which input.
  Laid BY PROGRAM, IN A SANDBOX (cutbox-rows.mjs): the forced cells as the released guide's own fill.sh prints them over the translation 541cd3e44467fb35… (all of the seat's roots in one cut). By AI agents, Wed Nov 11 2026. No macro, syntax, notation, axiom, sorry.
-/
import Derived.Test.YtkpcdfiebjigbaaChecked
import GoSem.Claim
import GoSem.ClaimJoined
import GoSem.ClaimMapViews
import Derived.JoinedTies
import Derived.KernelRfl
namespace Go.Proofs.Ytkpcdfiebjigbaa
/- THE CELL 'sum', in the pinned program and in every row, IS THE sha256 OF THE DUMP (.gsa) THAT YtkpcdfiebjigbaaProg.lean LOADS. Nothing in Lean hashes anything: it is a label: what it is worth is what the hold of that sum in a sandbox is worth. -/
noncomputable def Try.pinned : Pinned := { name := "ytkpcdfiebjigbaa", sum := "541cd3e44467fb35f576773e2601b9df2d2376a65b90d262c8e68b2f9c838d67", checked := Try.checked }
namespace Rows
def none {H : Type} : Left H := { results := [], args := [] }

/-- 'donjonlaw10.MovesStep': WHATEVER THE INPUT: true; the input reads as it did. -/
def movesStepSpec : ChangeSpec := { name := "movesStep", fn := fun _ => fun
  | [d] => { results := [.lit (.bool true)], args := [d] }
  | _ => none }
def movesStepRow : OpenClaim := { program := "ytkpcdfiebjigbaa", sum := "541cd3e44467fb35f576773e2601b9df2d2376a65b90d262c8e68b2f9c838d67", func := "donjon/donjonlaw10.MovesStep", spec := "movesStep", inPlace := ["slices.overlaps[donjon/api.Slot]"], plainKeys := false, apart := false }
def MovesStepSaid : Prop := movesStepRow.holds Try.pinned (OpenSpec.ofChange movesStepSpec)

/-- ITS FALSE NEIGHBOUR: 'it returns false'. Refute it at one input. -/
def movesStepWrong : ChangeSpec := { name := "movesStep", fn := fun _ => fun
  | [d] => { results := [.lit (.bool false)], args := [d] }
  | _ => none }
def MovesStepWrongFalsely : Prop := movesStepRow.holds Try.pinned (OpenSpec.ofChange movesStepWrong)

/-- 'donjonlaw10.MovesBack': WHATEVER THE INPUT: true; the input reads as it did. -/
def movesBackSpec : ChangeSpec := { name := "movesBack", fn := fun _ => fun
  | [d1, d2, d3] => { results := [.lit (.bool true)], args := [d1, d2, d3] }
  | _ => none }
def movesBackRow : OpenClaim := { program := "ytkpcdfiebjigbaa", sum := "541cd3e44467fb35f576773e2601b9df2d2376a65b90d262c8e68b2f9c838d67", func := "donjon/donjonlaw10.MovesBack", spec := "movesBack", inPlace := ["slices.overlaps[donjon/api.Slot]"], plainKeys := false, apart := false }
def MovesBackSaid : Prop := movesBackRow.holds Try.pinned (OpenSpec.ofChange movesBackSpec)

/-- ITS FALSE NEIGHBOUR: 'it returns false'. Refute it at one input. -/
def movesBackWrong : ChangeSpec := { name := "movesBack", fn := fun _ => fun
  | [d1, d2, d3] => { results := [.lit (.bool false)], args := [d1, d2, d3] }
  | _ => none }
def MovesBackWrongFalsely : Prop := movesBackRow.holds Try.pinned (OpenSpec.ofChange movesBackWrong)

/-- 'donjonlaw10.MovesRefused': WHATEVER THE INPUT: true; the input reads as it did. -/
def movesRefusedSpec : ChangeSpec := { name := "movesRefused", fn := fun _ => fun
  | [d] => { results := [.lit (.bool true)], args := [d] }
  | _ => none }
def movesRefusedRow : OpenClaim := { program := "ytkpcdfiebjigbaa", sum := "541cd3e44467fb35f576773e2601b9df2d2376a65b90d262c8e68b2f9c838d67", func := "donjon/donjonlaw10.MovesRefused", spec := "movesRefused", inPlace := ["slices.overlaps[donjon/api.Slot]"], plainKeys := false, apart := false }
def MovesRefusedSaid : Prop := movesRefusedRow.holds Try.pinned (OpenSpec.ofChange movesRefusedSpec)

/-- ITS FALSE NEIGHBOUR: 'it returns false'. Refute it at one input. -/
def movesRefusedWrong : ChangeSpec := { name := "movesRefused", fn := fun _ => fun
  | [d] => { results := [.lit (.bool false)], args := [d] }
  | _ => none }
def MovesRefusedWrongFalsely : Prop := movesRefusedRow.holds Try.pinned (OpenSpec.ofChange movesRefusedWrong)

/-- 'donjonlaw10.MovesTakes': WHATEVER THE INPUT: true; the input reads as it did. -/
def movesTakesSpec : ChangeSpec := { name := "movesTakes", fn := fun _ => fun
  | [d1, d2] => { results := [.lit (.bool true)], args := [d1, d2] }
  | _ => none }
def movesTakesRow : OpenClaim := { program := "ytkpcdfiebjigbaa", sum := "541cd3e44467fb35f576773e2601b9df2d2376a65b90d262c8e68b2f9c838d67", func := "donjon/donjonlaw10.MovesTakes", spec := "movesTakes", inPlace := ["slices.overlaps[donjon/api.Slot]"], plainKeys := false, apart := false }
def MovesTakesSaid : Prop := movesTakesRow.holds Try.pinned (OpenSpec.ofChange movesTakesSpec)

/-- ITS FALSE NEIGHBOUR: 'it returns false'. Refute it at one input. -/
def movesTakesWrong : ChangeSpec := { name := "movesTakes", fn := fun _ => fun
  | [d1, d2] => { results := [.lit (.bool false)], args := [d1, d2] }
  | _ => none }
def MovesTakesWrongFalsely : Prop := movesTakesRow.holds Try.pinned (OpenSpec.ofChange movesTakesWrong)

/- THE SECOND FORM. 'bulk': how many values and letters a reading holds, each counted each time it is reached (what is shared counts as often as it is met; a slice's spare places count too). A statement '..UptoSaid' is the law's where the arguments, and the package variables that the reading takes, are together of bulk at most 1048576: NARROWER than '..Said'. Prove '..Said' where nothing that the law and all that it calls make is longer than what came in: it says more and counts as full. Else prove '..UptoSaid'. A law counts once. -/
mutual
def uptoBulk {H : Type} : DataW H → Nat
  | .lit (.string bytes) => bytes.length + 1
  | .lit _ => 1
  | .nil => 1
  | .ptr d => uptoBulk d + 1
  | .slice elems spare => uptoBulkAll elems + uptoBulkAll spare + 1
  | .agg parts => uptoBulkAll parts + 1
  | .iface _ d => uptoBulk d + 1
  | .map entries => uptoBulkEntries entries + 1
  | .held _ => 1
def uptoBulkAll {H : Type} : List (DataW H) → Nat
  | [] => 0
  | d :: r => uptoBulk d + uptoBulkAll r
def uptoBulkEntries {H : Type} : List (Lit × DataW H) → Nat
  | [] => 0
  | x :: r => uptoBulkEntry x + uptoBulkEntries r
def uptoBulkEntry {H : Type} : Lit × DataW H → Nat
  | (.string bytes, d) => bytes.length + uptoBulk d + 1
  | (_, d) => uptoBulk d + 1
 end
def uptoSmall : (H : Type) → List (DataW H) → Bool := fun _ ds => decide (uptoBulkAll ds ≤ 1048576)
def OpenSpec.upto (s : _root_.Go.ChangeSpec) : _root_.Go.OpenSpec := { _root_.Go.OpenSpec.ofChange s with cond := some uptoSmall }

/-- 'donjonlaw10.MovesStep', WHERE WHAT IT READS IS OF BULK AT MOST 1048576: true; the input reads as it did. -/
def movesStepUptoRow : OpenClaim := { program := "ytkpcdfiebjigbaa", sum := "541cd3e44467fb35f576773e2601b9df2d2376a65b90d262c8e68b2f9c838d67", func := "donjon/donjonlaw10.MovesStep", spec := "movesStep", inPlace := ["slices.overlaps[donjon/api.Slot]"], plainKeys := false, apart := false, narrowed := true }
def MovesStepUptoSaid : Prop := movesStepUptoRow.holds Try.pinned (OpenSpec.upto movesStepSpec)

/-- 'donjonlaw10.MovesBack', WHERE WHAT IT READS IS OF BULK AT MOST 1048576: true; the input reads as it did. -/
def movesBackUptoRow : OpenClaim := { program := "ytkpcdfiebjigbaa", sum := "541cd3e44467fb35f576773e2601b9df2d2376a65b90d262c8e68b2f9c838d67", func := "donjon/donjonlaw10.MovesBack", spec := "movesBack", inPlace := ["slices.overlaps[donjon/api.Slot]"], plainKeys := false, apart := false, narrowed := true }
def MovesBackUptoSaid : Prop := movesBackUptoRow.holds Try.pinned (OpenSpec.upto movesBackSpec)

/-- 'donjonlaw10.MovesRefused', WHERE WHAT IT READS IS OF BULK AT MOST 1048576: true; the input reads as it did. -/
def movesRefusedUptoRow : OpenClaim := { program := "ytkpcdfiebjigbaa", sum := "541cd3e44467fb35f576773e2601b9df2d2376a65b90d262c8e68b2f9c838d67", func := "donjon/donjonlaw10.MovesRefused", spec := "movesRefused", inPlace := ["slices.overlaps[donjon/api.Slot]"], plainKeys := false, apart := false, narrowed := true }
def MovesRefusedUptoSaid : Prop := movesRefusedUptoRow.holds Try.pinned (OpenSpec.upto movesRefusedSpec)

/-- 'donjonlaw10.MovesTakes', WHERE WHAT IT READS IS OF BULK AT MOST 1048576: true; the input reads as it did. -/
def movesTakesUptoRow : OpenClaim := { program := "ytkpcdfiebjigbaa", sum := "541cd3e44467fb35f576773e2601b9df2d2376a65b90d262c8e68b2f9c838d67", func := "donjon/donjonlaw10.MovesTakes", spec := "movesTakes", inPlace := ["slices.overlaps[donjon/api.Slot]"], plainKeys := false, apart := false, narrowed := true }
def MovesTakesUptoSaid : Prop := movesTakesUptoRow.holds Try.pinned (OpenSpec.upto movesTakesSpec)

end Rows
end Go.Proofs.Ytkpcdfiebjigbaa
