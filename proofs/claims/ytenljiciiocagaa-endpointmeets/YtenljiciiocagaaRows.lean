/-
  No cell of these rows narrows 'for every input' (looked for: loops, veiled, ifaces, maps, wideKeys, modest, calm, conditions, laid).
  DERIVED. THE GIVEN ROWS OF THIS SEAT. 3 by the template 'for every input the law returns true; each argument reads behind the call as it read before'; 0 by the template 'total and deterministic' (their statements: YtenljiciiocagaaTotals.lean).
  GIVEN WITH THE SEED: the statements are not yours to turn. If you find one false, say at which input.
  Laid BY PROGRAM, IN A SANDBOX (cutbox-rows.mjs): the forced cells as the released guide's own fill.sh prints them over the translation 179af104b23378ed… (all of the seat's roots in one cut). By AI agents, Wed Nov 11 2026. No macro, syntax, notation, axiom, sorry.
-/
import Derived.Test.YtenljiciiocagaaChecked
import GoSem.Claim
import GoSem.ClaimJoined
import GoSem.ClaimMapViews
import Derived.JoinedTies
import Derived.KernelRfl
namespace Go.Proofs.Ytenljiciiocagaa
/- THE CELL 'sum', in the pinned program and in every row, IS THE sha256 OF THE DUMP (.gsa) THAT YtenljiciiocagaaProg.lean LOADS. Nothing in Lean hashes anything: it is a label: what it is worth is what the hold of that sum in a sandbox is worth. -/
noncomputable def Try.pinned : Pinned := { name := "ytenljiciiocagaa", sum := "179af104b23378eda85c576487b2f9e711cbb0be01ec92a5f0fc3cba650797c5", checked := Try.checked }
namespace Rows
def none {H : Type} : Left H := { results := [], args := [] }

/-- 'donjonlaw18.EndpointDoes': WHATEVER THE INPUT: true; the input reads as it did. -/
def endpointDoesSpec : ChangeSpec := { name := "endpointDoes", fn := fun _ => fun
  | [d] => { results := [.lit (.bool true)], args := [d] }
  | _ => none }
def endpointDoesRow : OpenClaim := { program := "ytenljiciiocagaa", sum := "179af104b23378eda85c576487b2f9e711cbb0be01ec92a5f0fc3cba650797c5", func := "donjon/donjonlaw18.EndpointDoes", spec := "endpointDoes", apart := false }
def EndpointDoesSaid : Prop := endpointDoesRow.holds Try.pinned (OpenSpec.ofChange endpointDoesSpec)

/-- ITS FALSE NEIGHBOUR: 'it returns false'. Refute it at one input. -/
def endpointDoesWrong : ChangeSpec := { name := "endpointDoes", fn := fun _ => fun
  | [d] => { results := [.lit (.bool false)], args := [d] }
  | _ => none }
def EndpointDoesWrongFalsely : Prop := endpointDoesRow.holds Try.pinned (OpenSpec.ofChange endpointDoesWrong)

/-- 'donjonlaw18.EndpointMeets': WHATEVER THE INPUT: true; the input reads as it did. -/
def endpointMeetsSpec : ChangeSpec := { name := "endpointMeets", fn := fun _ => fun
  | [d] => { results := [.lit (.bool true)], args := [d] }
  | _ => none }
def endpointMeetsRow : OpenClaim := { program := "ytenljiciiocagaa", sum := "179af104b23378eda85c576487b2f9e711cbb0be01ec92a5f0fc3cba650797c5", func := "donjon/donjonlaw18.EndpointMeets", spec := "endpointMeets", apart := false }
def EndpointMeetsSaid : Prop := endpointMeetsRow.holds Try.pinned (OpenSpec.ofChange endpointMeetsSpec)

/-- ITS FALSE NEIGHBOUR: 'it returns false'. Refute it at one input. -/
def endpointMeetsWrong : ChangeSpec := { name := "endpointMeets", fn := fun _ => fun
  | [d] => { results := [.lit (.bool false)], args := [d] }
  | _ => none }
def EndpointMeetsWrongFalsely : Prop := endpointMeetsRow.holds Try.pinned (OpenSpec.ofChange endpointMeetsWrong)

/-- 'donjonlaw18.EndpointRow': WHATEVER THE INPUT: true; the input reads as it did. -/
def endpointRowSpec : ChangeSpec := { name := "endpointRow", fn := fun _ => fun
  | [d1, d2, d3] => { results := [.lit (.bool true)], args := [d1, d2, d3] }
  | _ => none }
def endpointRowRow : OpenClaim := { program := "ytenljiciiocagaa", sum := "179af104b23378eda85c576487b2f9e711cbb0be01ec92a5f0fc3cba650797c5", func := "donjon/donjonlaw18.EndpointRow", spec := "endpointRow", apart := false }
def EndpointRowSaid : Prop := endpointRowRow.holds Try.pinned (OpenSpec.ofChange endpointRowSpec)

/-- ITS FALSE NEIGHBOUR: 'it returns false'. Refute it at one input. -/
def endpointRowWrong : ChangeSpec := { name := "endpointRow", fn := fun _ => fun
  | [d1, d2, d3] => { results := [.lit (.bool false)], args := [d1, d2, d3] }
  | _ => none }
def EndpointRowWrongFalsely : Prop := endpointRowRow.holds Try.pinned (OpenSpec.ofChange endpointRowWrong)

/- THE SECOND FORM. 'bulk': how many values and letters a reading holds, each counted each time it is reached (what is shared counts as often as it is met; a slice's spare places count too). A statement '..UptoSaid' is the law's where the arguments, and the package variables that the reading takes, are together of bulk at most 1048576: NARROWER than '..Said'. Prove '..Said' where nothing that the law and all that it calls make is longer than what came in: it says more and counts as full. Else prove '..UptoSaid'. A law counts once. -/
mutual
def uptoBulk {H : Type} : DataW H → Nat
  | .lit (.string bytes) => bytes.length + 1
  | .lit _ => 1
  | .nil => 1
  | .ptr d => uptoBulk d + 1
  | .slice elems spare => uptoBulkAll elems + uptoBulkAll spare + 1
  | .agg parts => uptoBulkAll parts + 1
  | .iface _ d => uptoBulk d + 1
  | .map entries => uptoBulkEntries entries + 1
  | .held _ => 1
def uptoBulkAll {H : Type} : List (DataW H) → Nat
  | [] => 0
  | d :: r => uptoBulk d + uptoBulkAll r
def uptoBulkEntries {H : Type} : List (Lit × DataW H) → Nat
  | [] => 0
  | x :: r => uptoBulkEntry x + uptoBulkEntries r
def uptoBulkEntry {H : Type} : Lit × DataW H → Nat
  | (.string bytes, d) => bytes.length + uptoBulk d + 1
  | (_, d) => uptoBulk d + 1
 end
def uptoSmall : (H : Type) → List (DataW H) → Bool := fun _ ds => decide (uptoBulkAll ds ≤ 1048576)
def OpenSpec.upto (s : _root_.Go.ChangeSpec) : _root_.Go.OpenSpec := { _root_.Go.OpenSpec.ofChange s with cond := some uptoSmall }

/-- 'donjonlaw18.EndpointDoes', WHERE WHAT IT READS IS OF BULK AT MOST 1048576: true; the input reads as it did. -/
def endpointDoesUptoRow : OpenClaim := { program := "ytenljiciiocagaa", sum := "179af104b23378eda85c576487b2f9e711cbb0be01ec92a5f0fc3cba650797c5", func := "donjon/donjonlaw18.EndpointDoes", spec := "endpointDoes", apart := false, narrowed := true }
def EndpointDoesUptoSaid : Prop := endpointDoesUptoRow.holds Try.pinned (OpenSpec.upto endpointDoesSpec)

/-- 'donjonlaw18.EndpointMeets', WHERE WHAT IT READS IS OF BULK AT MOST 1048576: true; the input reads as it did. -/
def endpointMeetsUptoRow : OpenClaim := { program := "ytenljiciiocagaa", sum := "179af104b23378eda85c576487b2f9e711cbb0be01ec92a5f0fc3cba650797c5", func := "donjon/donjonlaw18.EndpointMeets", spec := "endpointMeets", apart := false, narrowed := true }
def EndpointMeetsUptoSaid : Prop := endpointMeetsUptoRow.holds Try.pinned (OpenSpec.upto endpointMeetsSpec)

/-- 'donjonlaw18.EndpointRow', WHERE WHAT IT READS IS OF BULK AT MOST 1048576: true; the input reads as it did. -/
def endpointRowUptoRow : OpenClaim := { program := "ytenljiciiocagaa", sum := "179af104b23378eda85c576487b2f9e711cbb0be01ec92a5f0fc3cba650797c5", func := "donjon/donjonlaw18.EndpointRow", spec := "endpointRow", apart := false, narrowed := true }
def EndpointRowUptoSaid : Prop := endpointRowUptoRow.holds Try.pinned (OpenSpec.upto endpointRowSpec)

end Rows
end Go.Proofs.Ytenljiciiocagaa
