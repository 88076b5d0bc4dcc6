/-
  No cell of these rows narrows 'for every input' (looked for: loops, veiled, ifaces, maps, wideKeys, modest, calm, conditions, laid).
  DERIVED. THE GIVEN ROWS OF THIS SEAT. 5 by the template 'for every input the law returns true; each argument reads behind the call as it read before'; 0 by the template 'total and deterministic' (their statements: YtlekmpidhgjpdaaTotals.lean).
  GIVEN WITH THE SEED: the statements are not yours to turn. If you find one false, say at which input.
  Laid BY PROGRAM, IN A SANDBOX (cutbox-rows.mjs): the forced cells as the released guide's own fill.sh prints them over the translation 2d5b0c92888350bd… (all of the seat's roots in one cut). By AI agents, Wed Nov 11 2026. No macro, syntax, notation, axiom, sorry.
-/
import Derived.Test.YtlekmpidhgjpdaaChecked
import GoSem.Claim
import GoSem.ClaimJoined
import GoSem.ClaimMapViews
import Derived.JoinedTies
import Derived.KernelRfl
namespace Go.Proofs.Ytlekmpidhgjpdaa
/- THE CELL 'sum', in the pinned program and in every row, IS THE sha256 OF THE DUMP (.gsa) THAT YtlekmpidhgjpdaaProg.lean LOADS. Nothing in Lean hashes anything: it is a label: what it is worth is what the hold of that sum in a sandbox is worth. -/
noncomputable def Try.pinned : Pinned := { name := "ytlekmpidhgjpdaa", sum := "2d5b0c92888350bd023ba8e477b3d3404839a627aa28fcc7b1118d326f3fdcab", checked := Try.checked }
namespace Rows
def none {H : Type} : Left H := { results := [], args := [] }

/-- 'donjonlaw17.LineDoes': WHATEVER THE INPUT: true; the input reads as it did. -/
def lineDoesSpec : ChangeSpec := { name := "lineDoes", fn := fun _ => fun
  | [d] => { results := [.lit (.bool true)], args := [d] }
  | _ => none }
def lineDoesRow : OpenClaim := { program := "ytlekmpidhgjpdaa", sum := "2d5b0c92888350bd023ba8e477b3d3404839a627aa28fcc7b1118d326f3fdcab", func := "donjon/donjonlaw17.LineDoes", spec := "lineDoes", apart := false }
def LineDoesSaid : Prop := lineDoesRow.holds Try.pinned (OpenSpec.ofChange lineDoesSpec)

/-- ITS FALSE NEIGHBOUR: 'it returns false'. Refute it at one input. -/
def lineDoesWrong : ChangeSpec := { name := "lineDoes", fn := fun _ => fun
  | [d] => { results := [.lit (.bool false)], args := [d] }
  | _ => none }
def LineDoesWrongFalsely : Prop := lineDoesRow.holds Try.pinned (OpenSpec.ofChange lineDoesWrong)

/-- 'donjonlaw17.LineReady': WHATEVER THE INPUT: true; the input reads as it did. -/
def lineReadySpec : ChangeSpec := { name := "lineReady", fn := fun _ => fun
  | [d] => { results := [.lit (.bool true)], args := [d] }
  | _ => none }
def lineReadyRow : OpenClaim := { program := "ytlekmpidhgjpdaa", sum := "2d5b0c92888350bd023ba8e477b3d3404839a627aa28fcc7b1118d326f3fdcab", func := "donjon/donjonlaw17.LineReady", spec := "lineReady", apart := false }
def LineReadySaid : Prop := lineReadyRow.holds Try.pinned (OpenSpec.ofChange lineReadySpec)

/-- ITS FALSE NEIGHBOUR: 'it returns false'. Refute it at one input. -/
def lineReadyWrong : ChangeSpec := { name := "lineReady", fn := fun _ => fun
  | [d] => { results := [.lit (.bool false)], args := [d] }
  | _ => none }
def LineReadyWrongFalsely : Prop := lineReadyRow.holds Try.pinned (OpenSpec.ofChange lineReadyWrong)

/-- 'donjonlaw17.LineOrder': WHATEVER THE INPUT: true; the input reads as it did. -/
def lineOrderSpec : ChangeSpec := { name := "lineOrder", fn := fun _ => fun
  | [d] => { results := [.lit (.bool true)], args := [d] }
  | _ => none }
def lineOrderRow : OpenClaim := { program := "ytlekmpidhgjpdaa", sum := "2d5b0c92888350bd023ba8e477b3d3404839a627aa28fcc7b1118d326f3fdcab", func := "donjon/donjonlaw17.LineOrder", spec := "lineOrder", apart := false }
def LineOrderSaid : Prop := lineOrderRow.holds Try.pinned (OpenSpec.ofChange lineOrderSpec)

/-- ITS FALSE NEIGHBOUR: 'it returns false'. Refute it at one input. -/
def lineOrderWrong : ChangeSpec := { name := "lineOrder", fn := fun _ => fun
  | [d] => { results := [.lit (.bool false)], args := [d] }
  | _ => none }
def LineOrderWrongFalsely : Prop := lineOrderRow.holds Try.pinned (OpenSpec.ofChange lineOrderWrong)

/-- 'donjonlaw17.LineQueue': WHATEVER THE INPUT: true; the input reads as it did. -/
def lineQueueSpec : ChangeSpec := { name := "lineQueue", fn := fun _ => fun
  | [d1, d2] => { results := [.lit (.bool true)], args := [d1, d2] }
  | _ => none }
def lineQueueRow : OpenClaim := { program := "ytlekmpidhgjpdaa", sum := "2d5b0c92888350bd023ba8e477b3d3404839a627aa28fcc7b1118d326f3fdcab", func := "donjon/donjonlaw17.LineQueue", spec := "lineQueue", apart := false }
def LineQueueSaid : Prop := lineQueueRow.holds Try.pinned (OpenSpec.ofChange lineQueueSpec)

/-- ITS FALSE NEIGHBOUR: 'it returns false'. Refute it at one input. -/
def lineQueueWrong : ChangeSpec := { name := "lineQueue", fn := fun _ => fun
  | [d1, d2] => { results := [.lit (.bool false)], args := [d1, d2] }
  | _ => none }
def LineQueueWrongFalsely : Prop := lineQueueRow.holds Try.pinned (OpenSpec.ofChange lineQueueWrong)

/-- 'donjonlaw17.LineLevels': WHATEVER THE INPUT: true; the input reads as it did. -/
def lineLevelsSpec : ChangeSpec := { name := "lineLevels", fn := fun _ => fun
  | [d1, d2] => { results := [.lit (.bool true)], args := [d1, d2] }
  | _ => none }
def lineLevelsRow : OpenClaim := { program := "ytlekmpidhgjpdaa", sum := "2d5b0c92888350bd023ba8e477b3d3404839a627aa28fcc7b1118d326f3fdcab", func := "donjon/donjonlaw17.LineLevels", spec := "lineLevels", apart := false }
def LineLevelsSaid : Prop := lineLevelsRow.holds Try.pinned (OpenSpec.ofChange lineLevelsSpec)

/-- ITS FALSE NEIGHBOUR: 'it returns false'. Refute it at one input. -/
def lineLevelsWrong : ChangeSpec := { name := "lineLevels", fn := fun _ => fun
  | [d1, d2] => { results := [.lit (.bool false)], args := [d1, d2] }
  | _ => none }
def LineLevelsWrongFalsely : Prop := lineLevelsRow.holds Try.pinned (OpenSpec.ofChange lineLevelsWrong)

/- THE SECOND FORM. 'bulk': how many values and letters a reading holds, each counted each time it is reached (what is shared counts as often as it is met; a slice's spare places count too). A statement '..UptoSaid' is the law's where the arguments, and the package variables that the reading takes, are together of bulk at most 1048576: NARROWER than '..Said'. Prove '..Said' where nothing that the law and all that it calls make is longer than what came in: it says more and counts as full. Else prove '..UptoSaid'. A law counts once. -/
mutual
def uptoBulk {H : Type} : DataW H → Nat
  | .lit (.string bytes) => bytes.length + 1
  | .lit _ => 1
  | .nil => 1
  | .ptr d => uptoBulk d + 1
  | .slice elems spare => uptoBulkAll elems + uptoBulkAll spare + 1
  | .agg parts => uptoBulkAll parts + 1
  | .iface _ d => uptoBulk d + 1
  | .map entries => uptoBulkEntries entries + 1
  | .held _ => 1
def uptoBulkAll {H : Type} : List (DataW H) → Nat
  | [] => 0
  | d :: r => uptoBulk d + uptoBulkAll r
def uptoBulkEntries {H : Type} : List (Lit × DataW H) → Nat
  | [] => 0
  | x :: r => uptoBulkEntry x + uptoBulkEntries r
def uptoBulkEntry {H : Type} : Lit × DataW H → Nat
  | (.string bytes, d) => bytes.length + uptoBulk d + 1
  | (_, d) => uptoBulk d + 1
 end
def uptoSmall : (H : Type) → List (DataW H) → Bool := fun _ ds => decide (uptoBulkAll ds ≤ 1048576)
def OpenSpec.upto (s : _root_.Go.ChangeSpec) : _root_.Go.OpenSpec := { _root_.Go.OpenSpec.ofChange s with cond := some uptoSmall }

/-- 'donjonlaw17.LineDoes', WHERE WHAT IT READS IS OF BULK AT MOST 1048576: true; the input reads as it did. -/
def lineDoesUptoRow : OpenClaim := { program := "ytlekmpidhgjpdaa", sum := "2d5b0c92888350bd023ba8e477b3d3404839a627aa28fcc7b1118d326f3fdcab", func := "donjon/donjonlaw17.LineDoes", spec := "lineDoes", apart := false, narrowed := true }
def LineDoesUptoSaid : Prop := lineDoesUptoRow.holds Try.pinned (OpenSpec.upto lineDoesSpec)

/-- 'donjonlaw17.LineReady', WHERE WHAT IT READS IS OF BULK AT MOST 1048576: true; the input reads as it did. -/
def lineReadyUptoRow : OpenClaim := { program := "ytlekmpidhgjpdaa", sum := "2d5b0c92888350bd023ba8e477b3d3404839a627aa28fcc7b1118d326f3fdcab", func := "donjon/donjonlaw17.LineReady", spec := "lineReady", apart := false, narrowed := true }
def LineReadyUptoSaid : Prop := lineReadyUptoRow.holds Try.pinned (OpenSpec.upto lineReadySpec)

/-- 'donjonlaw17.LineOrder', WHERE WHAT IT READS IS OF BULK AT MOST 1048576: true; the input reads as it did. -/
def lineOrderUptoRow : OpenClaim := { program := "ytlekmpidhgjpdaa", sum := "2d5b0c92888350bd023ba8e477b3d3404839a627aa28fcc7b1118d326f3fdcab", func := "donjon/donjonlaw17.LineOrder", spec := "lineOrder", apart := false, narrowed := true }
def LineOrderUptoSaid : Prop := lineOrderUptoRow.holds Try.pinned (OpenSpec.upto lineOrderSpec)

/-- 'donjonlaw17.LineQueue', WHERE WHAT IT READS IS OF BULK AT MOST 1048576: true; the input reads as it did. -/
def lineQueueUptoRow : OpenClaim := { program := "ytlekmpidhgjpdaa", sum := "2d5b0c92888350bd023ba8e477b3d3404839a627aa28fcc7b1118d326f3fdcab", func := "donjon/donjonlaw17.LineQueue", spec := "lineQueue", apart := false, narrowed := true }
def LineQueueUptoSaid : Prop := lineQueueUptoRow.holds Try.pinned (OpenSpec.upto lineQueueSpec)

/-- 'donjonlaw17.LineLevels', WHERE WHAT IT READS IS OF BULK AT MOST 1048576: true; the input reads as it did. -/
def lineLevelsUptoRow : OpenClaim := { program := "ytlekmpidhgjpdaa", sum := "2d5b0c92888350bd023ba8e477b3d3404839a627aa28fcc7b1118d326f3fdcab", func := "donjon/donjonlaw17.LineLevels", spec := "lineLevels", apart := false, narrowed := true }
def LineLevelsUptoSaid : Prop := lineLevelsUptoRow.holds Try.pinned (OpenSpec.upto lineLevelsSpec)

end Rows
end Go.Proofs.Ytlekmpidhgjpdaa
