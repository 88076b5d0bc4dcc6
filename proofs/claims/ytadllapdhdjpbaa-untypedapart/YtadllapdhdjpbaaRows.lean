/-
  No cell of these rows narrows 'for every input' (looked for: loops, veiled, ifaces, maps, wideKeys, modest, calm, conditions, laid).
  DERIVED. THE GIVEN ROWS OF THIS SEAT. 5 by the template 'for every input the law returns true; each argument reads behind the call as it read before'; 0 by the template 'total and deterministic' (their statements: YtadllapdhdjpbaaTotals.lean).
  GIVEN WITH THE SEED: the statements are not yours to turn. If you find one false, say at which input.
  Laid BY PROGRAM, IN A SANDBOX (cutbox-rows.mjs): the forced cells as the released guide's own fill.sh prints them over the translation 96c13c10fbf3eeaf… (all of the seat's roots in one cut). By AI agents, Wed Nov 11 2026. No macro, syntax, notation, axiom, sorry.
-/
import Derived.Test.YtadllapdhdjpbaaChecked
import GoSem.Claim
import GoSem.ClaimJoined
import GoSem.ClaimMapViews
import Derived.JoinedTies
import Derived.KernelRfl
namespace Go.Proofs.Ytadllapdhdjpbaa
/- THE CELL 'sum', in the pinned program and in every row, IS THE sha256 OF THE DUMP (.gsa) THAT YtadllapdhdjpbaaProg.lean LOADS. Nothing in Lean hashes anything: it is a label: what it is worth is what the hold of that sum in a sandbox is worth. -/
noncomputable def Try.pinned : Pinned := { name := "ytadllapdhdjpbaa", sum := "96c13c10fbf3eeaf9b16896a8ceea1832711c8bfe4275a404fdfd862ed13452b", checked := Try.checked }
namespace Rows
def none {H : Type} : Left H := { results := [], args := [] }

/-- 'donjonlaw06.UntypedPlans': WHATEVER THE INPUT: true; the input reads as it did. -/
def untypedPlansSpec : ChangeSpec := { name := "untypedPlans", fn := fun _ => fun
  | [d1, d2, d3] => { results := [.lit (.bool true)], args := [d1, d2, d3] }
  | _ => none }
def untypedPlansRow : OpenClaim := { program := "ytadllapdhdjpbaa", sum := "96c13c10fbf3eeaf9b16896a8ceea1832711c8bfe4275a404fdfd862ed13452b", func := "donjon/donjonlaw06.UntypedPlans", spec := "untypedPlans", apart := false }
def UntypedPlansSaid : Prop := untypedPlansRow.holds Try.pinned (OpenSpec.ofChange untypedPlansSpec)

/-- ITS FALSE NEIGHBOUR: 'it returns false'. Refute it at one input. -/
def untypedPlansWrong : ChangeSpec := { name := "untypedPlans", fn := fun _ => fun
  | [d1, d2, d3] => { results := [.lit (.bool false)], args := [d1, d2, d3] }
  | _ => none }
def UntypedPlansWrongFalsely : Prop := untypedPlansRow.holds Try.pinned (OpenSpec.ofChange untypedPlansWrong)

/-- 'donjonlaw06.UntypedApart': WHATEVER THE INPUT: true; the input reads as it did. -/
def untypedApartSpec : ChangeSpec := { name := "untypedApart", fn := fun _ => fun
  | [d1, d2] => { results := [.lit (.bool true)], args := [d1, d2] }
  | _ => none }
def untypedApartRow : OpenClaim := { program := "ytadllapdhdjpbaa", sum := "96c13c10fbf3eeaf9b16896a8ceea1832711c8bfe4275a404fdfd862ed13452b", func := "donjon/donjonlaw06.UntypedApart", spec := "untypedApart", apart := false }
def UntypedApartSaid : Prop := untypedApartRow.holds Try.pinned (OpenSpec.ofChange untypedApartSpec)

/-- ITS FALSE NEIGHBOUR: 'it returns false'. Refute it at one input. -/
def untypedApartWrong : ChangeSpec := { name := "untypedApart", fn := fun _ => fun
  | [d1, d2] => { results := [.lit (.bool false)], args := [d1, d2] }
  | _ => none }
def UntypedApartWrongFalsely : Prop := untypedApartRow.holds Try.pinned (OpenSpec.ofChange untypedApartWrong)

/-- 'donjonlaw06.UntypedFills': WHATEVER THE INPUT: true; the input reads as it did. -/
def untypedFillsSpec : ChangeSpec := { name := "untypedFills", fn := fun _ => fun
  | [d1, d2] => { results := [.lit (.bool true)], args := [d1, d2] }
  | _ => none }
def untypedFillsRow : OpenClaim := { program := "ytadllapdhdjpbaa", sum := "96c13c10fbf3eeaf9b16896a8ceea1832711c8bfe4275a404fdfd862ed13452b", func := "donjon/donjonlaw06.UntypedFills", spec := "untypedFills", apart := false }
def UntypedFillsSaid : Prop := untypedFillsRow.holds Try.pinned (OpenSpec.ofChange untypedFillsSpec)

/-- ITS FALSE NEIGHBOUR: 'it returns false'. Refute it at one input. -/
def untypedFillsWrong : ChangeSpec := { name := "untypedFills", fn := fun _ => fun
  | [d1, d2] => { results := [.lit (.bool false)], args := [d1, d2] }
  | _ => none }
def UntypedFillsWrongFalsely : Prop := untypedFillsRow.holds Try.pinned (OpenSpec.ofChange untypedFillsWrong)

/-- 'donjonlaw06.UntypedOneByOne': WHATEVER THE INPUT: true; the input reads as it did. -/
def untypedOneByOneSpec : ChangeSpec := { name := "untypedOneByOne", fn := fun _ => fun
  | [d1, d2, d3] => { results := [.lit (.bool true)], args := [d1, d2, d3] }
  | _ => none }
def untypedOneByOneRow : OpenClaim := { program := "ytadllapdhdjpbaa", sum := "96c13c10fbf3eeaf9b16896a8ceea1832711c8bfe4275a404fdfd862ed13452b", func := "donjon/donjonlaw06.UntypedOneByOne", spec := "untypedOneByOne", apart := false }
def UntypedOneByOneSaid : Prop := untypedOneByOneRow.holds Try.pinned (OpenSpec.ofChange untypedOneByOneSpec)

/-- ITS FALSE NEIGHBOUR: 'it returns false'. Refute it at one input. -/
def untypedOneByOneWrong : ChangeSpec := { name := "untypedOneByOne", fn := fun _ => fun
  | [d1, d2, d3] => { results := [.lit (.bool false)], args := [d1, d2, d3] }
  | _ => none }
def UntypedOneByOneWrongFalsely : Prop := untypedOneByOneRow.holds Try.pinned (OpenSpec.ofChange untypedOneByOneWrong)

/-- 'donjonlaw06.UntypedLeft': WHATEVER THE INPUT: true; the input reads as it did. -/
def untypedLeftSpec : ChangeSpec := { name := "untypedLeft", fn := fun _ => fun
  | [d1, d2, d3] => { results := [.lit (.bool true)], args := [d1, d2, d3] }
  | _ => none }
def untypedLeftRow : OpenClaim := { program := "ytadllapdhdjpbaa", sum := "96c13c10fbf3eeaf9b16896a8ceea1832711c8bfe4275a404fdfd862ed13452b", func := "donjon/donjonlaw06.UntypedLeft", spec := "untypedLeft", apart := false }
def UntypedLeftSaid : Prop := untypedLeftRow.holds Try.pinned (OpenSpec.ofChange untypedLeftSpec)

/-- ITS FALSE NEIGHBOUR: 'it returns false'. Refute it at one input. -/
def untypedLeftWrong : ChangeSpec := { name := "untypedLeft", fn := fun _ => fun
  | [d1, d2, d3] => { results := [.lit (.bool false)], args := [d1, d2, d3] }
  | _ => none }
def UntypedLeftWrongFalsely : Prop := untypedLeftRow.holds Try.pinned (OpenSpec.ofChange untypedLeftWrong)

/- THE SECOND FORM. 'bulk': how many values and letters a reading holds, each counted each time it is reached (what is shared counts as often as it is met; a slice's spare places count too). A statement '..UptoSaid' is the law's where the arguments, and the package variables that the reading takes, are together of bulk at most 1048576: NARROWER than '..Said'. Prove '..Said' where nothing that the law and all that it calls make is longer than what came in: it says more and counts as full. Else prove '..UptoSaid'. A law counts once. -/
mutual
def uptoBulk {H : Type} : DataW H → Nat
  | .lit (.string bytes) => bytes.length + 1
  | .lit _ => 1
  | .nil => 1
  | .ptr d => uptoBulk d + 1
  | .slice elems spare => uptoBulkAll elems + uptoBulkAll spare + 1
  | .agg parts => uptoBulkAll parts + 1
  | .iface _ d => uptoBulk d + 1
  | .map entries => uptoBulkEntries entries + 1
  | .held _ => 1
def uptoBulkAll {H : Type} : List (DataW H) → Nat
  | [] => 0
  | d :: r => uptoBulk d + uptoBulkAll r
def uptoBulkEntries {H : Type} : List (Lit × DataW H) → Nat
  | [] => 0
  | x :: r => uptoBulkEntry x + uptoBulkEntries r
def uptoBulkEntry {H : Type} : Lit × DataW H → Nat
  | (.string bytes, d) => bytes.length + uptoBulk d + 1
  | (_, d) => uptoBulk d + 1
 end
def uptoSmall : (H : Type) → List (DataW H) → Bool := fun _ ds => decide (uptoBulkAll ds ≤ 1048576)
def OpenSpec.upto (s : _root_.Go.ChangeSpec) : _root_.Go.OpenSpec := { _root_.Go.OpenSpec.ofChange s with cond := some uptoSmall }

/-- 'donjonlaw06.UntypedPlans', WHERE WHAT IT READS IS OF BULK AT MOST 1048576: true; the input reads as it did. -/
def untypedPlansUptoRow : OpenClaim := { program := "ytadllapdhdjpbaa", sum := "96c13c10fbf3eeaf9b16896a8ceea1832711c8bfe4275a404fdfd862ed13452b", func := "donjon/donjonlaw06.UntypedPlans", spec := "untypedPlans", apart := false, narrowed := true }
def UntypedPlansUptoSaid : Prop := untypedPlansUptoRow.holds Try.pinned (OpenSpec.upto untypedPlansSpec)

/-- 'donjonlaw06.UntypedApart', WHERE WHAT IT READS IS OF BULK AT MOST 1048576: true; the input reads as it did. -/
def untypedApartUptoRow : OpenClaim := { program := "ytadllapdhdjpbaa", sum := "96c13c10fbf3eeaf9b16896a8ceea1832711c8bfe4275a404fdfd862ed13452b", func := "donjon/donjonlaw06.UntypedApart", spec := "untypedApart", apart := false, narrowed := true }
def UntypedApartUptoSaid : Prop := untypedApartUptoRow.holds Try.pinned (OpenSpec.upto untypedApartSpec)

/-- 'donjonlaw06.UntypedFills', WHERE WHAT IT READS IS OF BULK AT MOST 1048576: true; the input reads as it did. -/
def untypedFillsUptoRow : OpenClaim := { program := "ytadllapdhdjpbaa", sum := "96c13c10fbf3eeaf9b16896a8ceea1832711c8bfe4275a404fdfd862ed13452b", func := "donjon/donjonlaw06.UntypedFills", spec := "untypedFills", apart := false, narrowed := true }
def UntypedFillsUptoSaid : Prop := untypedFillsUptoRow.holds Try.pinned (OpenSpec.upto untypedFillsSpec)

/-- 'donjonlaw06.UntypedOneByOne', WHERE WHAT IT READS IS OF BULK AT MOST 1048576: true; the input reads as it did. -/
def untypedOneByOneUptoRow : OpenClaim := { program := "ytadllapdhdjpbaa", sum := "96c13c10fbf3eeaf9b16896a8ceea1832711c8bfe4275a404fdfd862ed13452b", func := "donjon/donjonlaw06.UntypedOneByOne", spec := "untypedOneByOne", apart := false, narrowed := true }
def UntypedOneByOneUptoSaid : Prop := untypedOneByOneUptoRow.holds Try.pinned (OpenSpec.upto untypedOneByOneSpec)

/-- 'donjonlaw06.UntypedLeft', WHERE WHAT IT READS IS OF BULK AT MOST 1048576: true; the input reads as it did. -/
def untypedLeftUptoRow : OpenClaim := { program := "ytadllapdhdjpbaa", sum := "96c13c10fbf3eeaf9b16896a8ceea1832711c8bfe4275a404fdfd862ed13452b", func := "donjon/donjonlaw06.UntypedLeft", spec := "untypedLeft", apart := false, narrowed := true }
def UntypedLeftUptoSaid : Prop := untypedLeftUptoRow.holds Try.pinned (OpenSpec.upto untypedLeftSpec)

end Rows
end Go.Proofs.Ytadllapdhdjpbaa
