/-
  No cell of these rows narrows 'for every input' (looked for: loops, veiled, ifaces, maps, wideKeys, modest, calm, conditions, laid).
  DERIVED. THE GIVEN ROWS OF THIS SEAT. 5 by the template 'for every input the law returns true; each argument reads behind the call as it read before'; 0 by the template 'total and deterministic' (their statements: YtakappaaiknpfaaTotals.lean).
  GIVEN WITH THE SEED: the statements are not yours to turn. If you find one false, say at which input.
  Laid BY PROGRAM, IN A SANDBOX (cutbox-rows.mjs): the forced cells as the released guide's own fill.sh prints them over the translation 03b5d07a77b82798… (all of the seat's roots in one cut). By AI agents, Wed Nov 11 2026. No macro, syntax, notation, axiom, sorry.
-/
import Derived.Test.YtakappaaiknpfaaChecked
import GoSem.Claim
import GoSem.ClaimJoined
import GoSem.ClaimMapViews
import Derived.JoinedTies
import Derived.KernelRfl
namespace Go.Proofs.Ytakappaaiknpfaa
/- THE CELL 'sum', in the pinned program and in every row, IS THE sha256 OF THE DUMP (.gsa) THAT YtakappaaiknpfaaProg.lean LOADS. Nothing in Lean hashes anything: it is a label: what it is worth is what the hold of that sum in a sandbox is worth. -/
noncomputable def Try.pinned : Pinned := { name := "ytakappaaiknpfaa", sum := "03b5d07a77b82798a5b8c8b6ef54c92c2841e09753ef51c47a44f8563f6d5852", checked := Try.checked }
namespace Rows
def none {H : Type} : Left H := { results := [], args := [] }

/-- 'donjonlaw08.GuardFinds': WHATEVER THE INPUT: true; the input reads as it did. -/
def guardFindsSpec : ChangeSpec := { name := "guardFinds", fn := fun _ => fun
  | [d1, d2, d3, d4, d5] => { results := [.lit (.bool true)], args := [d1, d2, d3, d4, d5] }
  | _ => none }
def guardFindsRow : OpenClaim := { program := "ytakappaaiknpfaa", sum := "03b5d07a77b82798a5b8c8b6ef54c92c2841e09753ef51c47a44f8563f6d5852", func := "donjon/donjonlaw08.GuardFinds", spec := "guardFinds", unfollowed := true, recurses := true, apart := false }
def GuardFindsSaid : Prop := guardFindsRow.holds Try.pinned (OpenSpec.ofChange guardFindsSpec)

/-- ITS FALSE NEIGHBOUR: 'it returns false'. Refute it at one input. -/
def guardFindsWrong : ChangeSpec := { name := "guardFinds", fn := fun _ => fun
  | [d1, d2, d3, d4, d5] => { results := [.lit (.bool false)], args := [d1, d2, d3, d4, d5] }
  | _ => none }
def GuardFindsWrongFalsely : Prop := guardFindsRow.holds Try.pinned (OpenSpec.ofChange guardFindsWrong)

/-- 'donjonlaw08.GuardLevels': WHATEVER THE INPUT: true; the input reads as it did. -/
def guardLevelsSpec : ChangeSpec := { name := "guardLevels", fn := fun _ => fun
  | [d1, d2, d3, d4, d5] => { results := [.lit (.bool true)], args := [d1, d2, d3, d4, d5] }
  | _ => none }
def guardLevelsRow : OpenClaim := { program := "ytakappaaiknpfaa", sum := "03b5d07a77b82798a5b8c8b6ef54c92c2841e09753ef51c47a44f8563f6d5852", func := "donjon/donjonlaw08.GuardLevels", spec := "guardLevels", unfollowed := true, recurses := true, apart := false }
def GuardLevelsSaid : Prop := guardLevelsRow.holds Try.pinned (OpenSpec.ofChange guardLevelsSpec)

/-- ITS FALSE NEIGHBOUR: 'it returns false'. Refute it at one input. -/
def guardLevelsWrong : ChangeSpec := { name := "guardLevels", fn := fun _ => fun
  | [d1, d2, d3, d4, d5] => { results := [.lit (.bool false)], args := [d1, d2, d3, d4, d5] }
  | _ => none }
def GuardLevelsWrongFalsely : Prop := guardLevelsRow.holds Try.pinned (OpenSpec.ofChange guardLevelsWrong)

/-- 'donjonlaw08.GuardLoops': WHATEVER THE INPUT: true; the input reads as it did. -/
def guardLoopsSpec : ChangeSpec := { name := "guardLoops", fn := fun _ => fun
  | [d1, d2, d3] => { results := [.lit (.bool true)], args := [d1, d2, d3] }
  | _ => none }
def guardLoopsRow : OpenClaim := { program := "ytakappaaiknpfaa", sum := "03b5d07a77b82798a5b8c8b6ef54c92c2841e09753ef51c47a44f8563f6d5852", func := "donjon/donjonlaw08.GuardLoops", spec := "guardLoops", unfollowed := true, recurses := true, apart := false }
def GuardLoopsSaid : Prop := guardLoopsRow.holds Try.pinned (OpenSpec.ofChange guardLoopsSpec)

/-- ITS FALSE NEIGHBOUR: 'it returns false'. Refute it at one input. -/
def guardLoopsWrong : ChangeSpec := { name := "guardLoops", fn := fun _ => fun
  | [d1, d2, d3] => { results := [.lit (.bool false)], args := [d1, d2, d3] }
  | _ => none }
def GuardLoopsWrongFalsely : Prop := guardLoopsRow.holds Try.pinned (OpenSpec.ofChange guardLoopsWrong)

/-- 'donjonlaw08.GuardLeft': WHATEVER THE INPUT: true; the input reads as it did. -/
def guardLeftSpec : ChangeSpec := { name := "guardLeft", fn := fun _ => fun
  | [d1, d2, d3, d4, d5] => { results := [.lit (.bool true)], args := [d1, d2, d3, d4, d5] }
  | _ => none }
def guardLeftRow : OpenClaim := { program := "ytakappaaiknpfaa", sum := "03b5d07a77b82798a5b8c8b6ef54c92c2841e09753ef51c47a44f8563f6d5852", func := "donjon/donjonlaw08.GuardLeft", spec := "guardLeft", unfollowed := true, recurses := true, apart := false }
def GuardLeftSaid : Prop := guardLeftRow.holds Try.pinned (OpenSpec.ofChange guardLeftSpec)

/-- ITS FALSE NEIGHBOUR: 'it returns false'. Refute it at one input. -/
def guardLeftWrong : ChangeSpec := { name := "guardLeft", fn := fun _ => fun
  | [d1, d2, d3, d4, d5] => { results := [.lit (.bool false)], args := [d1, d2, d3, d4, d5] }
  | _ => none }
def GuardLeftWrongFalsely : Prop := guardLeftRow.holds Try.pinned (OpenSpec.ofChange guardLeftWrong)

/-- 'donjonlaw08.GuardWrong': WHATEVER THE INPUT: true; the input reads as it did. -/
def guardWrongSpec : ChangeSpec := { name := "guardWrong", fn := fun _ => fun
  | [d1, d2, d3, d4, d5] => { results := [.lit (.bool true)], args := [d1, d2, d3, d4, d5] }
  | _ => none }
def guardWrongRow : OpenClaim := { program := "ytakappaaiknpfaa", sum := "03b5d07a77b82798a5b8c8b6ef54c92c2841e09753ef51c47a44f8563f6d5852", func := "donjon/donjonlaw08.GuardWrong", spec := "guardWrong", unfollowed := true, recurses := true, apart := false }
def GuardWrongSaid : Prop := guardWrongRow.holds Try.pinned (OpenSpec.ofChange guardWrongSpec)

/-- ITS FALSE NEIGHBOUR: 'it returns false'. Refute it at one input. -/
def guardWrongWrong : ChangeSpec := { name := "guardWrong", fn := fun _ => fun
  | [d1, d2, d3, d4, d5] => { results := [.lit (.bool false)], args := [d1, d2, d3, d4, d5] }
  | _ => none }
def GuardWrongWrongFalsely : Prop := guardWrongRow.holds Try.pinned (OpenSpec.ofChange guardWrongWrong)

/- THE SECOND FORM. 'bulk': how many values and letters a reading holds, each counted each time it is reached (what is shared counts as often as it is met; a slice's spare places count too). A statement '..UptoSaid' is the law's where the arguments, and the package variables that the reading takes, are together of bulk at most 1048576: NARROWER than '..Said'. Prove '..Said' where nothing that the law and all that it calls make is longer than what came in: it says more and counts as full. Else prove '..UptoSaid'. A law counts once. -/
mutual
def uptoBulk {H : Type} : DataW H → Nat
  | .lit (.string bytes) => bytes.length + 1
  | .lit _ => 1
  | .nil => 1
  | .ptr d => uptoBulk d + 1
  | .slice elems spare => uptoBulkAll elems + uptoBulkAll spare + 1
  | .agg parts => uptoBulkAll parts + 1
  | .iface _ d => uptoBulk d + 1
  | .map entries => uptoBulkEntries entries + 1
  | .held _ => 1
def uptoBulkAll {H : Type} : List (DataW H) → Nat
  | [] => 0
  | d :: r => uptoBulk d + uptoBulkAll r
def uptoBulkEntries {H : Type} : List (Lit × DataW H) → Nat
  | [] => 0
  | x :: r => uptoBulkEntry x + uptoBulkEntries r
def uptoBulkEntry {H : Type} : Lit × DataW H → Nat
  | (.string bytes, d) => bytes.length + uptoBulk d + 1
  | (_, d) => uptoBulk d + 1
 end
def uptoSmall : (H : Type) → List (DataW H) → Bool := fun _ ds => decide (uptoBulkAll ds ≤ 1048576)
def OpenSpec.upto (s : _root_.Go.ChangeSpec) : _root_.Go.OpenSpec := { _root_.Go.OpenSpec.ofChange s with cond := some uptoSmall }

/-- 'donjonlaw08.GuardFinds', WHERE WHAT IT READS IS OF BULK AT MOST 1048576: true; the input reads as it did. -/
def guardFindsUptoRow : OpenClaim := { program := "ytakappaaiknpfaa", sum := "03b5d07a77b82798a5b8c8b6ef54c92c2841e09753ef51c47a44f8563f6d5852", func := "donjon/donjonlaw08.GuardFinds", spec := "guardFinds", unfollowed := true, recurses := true, apart := false, narrowed := true }
def GuardFindsUptoSaid : Prop := guardFindsUptoRow.holds Try.pinned (OpenSpec.upto guardFindsSpec)

/-- 'donjonlaw08.GuardLevels', WHERE WHAT IT READS IS OF BULK AT MOST 1048576: true; the input reads as it did. -/
def guardLevelsUptoRow : OpenClaim := { program := "ytakappaaiknpfaa", sum := "03b5d07a77b82798a5b8c8b6ef54c92c2841e09753ef51c47a44f8563f6d5852", func := "donjon/donjonlaw08.GuardLevels", spec := "guardLevels", unfollowed := true, recurses := true, apart := false, narrowed := true }
def GuardLevelsUptoSaid : Prop := guardLevelsUptoRow.holds Try.pinned (OpenSpec.upto guardLevelsSpec)

/-- 'donjonlaw08.GuardLoops', WHERE WHAT IT READS IS OF BULK AT MOST 1048576: true; the input reads as it did. -/
def guardLoopsUptoRow : OpenClaim := { program := "ytakappaaiknpfaa", sum := "03b5d07a77b82798a5b8c8b6ef54c92c2841e09753ef51c47a44f8563f6d5852", func := "donjon/donjonlaw08.GuardLoops", spec := "guardLoops", unfollowed := true, recurses := true, apart := false, narrowed := true }
def GuardLoopsUptoSaid : Prop := guardLoopsUptoRow.holds Try.pinned (OpenSpec.upto guardLoopsSpec)

/-- 'donjonlaw08.GuardLeft', WHERE WHAT IT READS IS OF BULK AT MOST 1048576: true; the input reads as it did. -/
def guardLeftUptoRow : OpenClaim := { program := "ytakappaaiknpfaa", sum := "03b5d07a77b82798a5b8c8b6ef54c92c2841e09753ef51c47a44f8563f6d5852", func := "donjon/donjonlaw08.GuardLeft", spec := "guardLeft", unfollowed := true, recurses := true, apart := false, narrowed := true }
def GuardLeftUptoSaid : Prop := guardLeftUptoRow.holds Try.pinned (OpenSpec.upto guardLeftSpec)

/-- 'donjonlaw08.GuardWrong', WHERE WHAT IT READS IS OF BULK AT MOST 1048576: true; the input reads as it did. -/
def guardWrongUptoRow : OpenClaim := { program := "ytakappaaiknpfaa", sum := "03b5d07a77b82798a5b8c8b6ef54c92c2841e09753ef51c47a44f8563f6d5852", func := "donjon/donjonlaw08.GuardWrong", spec := "guardWrong", unfollowed := true, recurses := true, apart := false, narrowed := true }
def GuardWrongUptoSaid : Prop := guardWrongUptoRow.holds Try.pinned (OpenSpec.upto guardWrongSpec)

end Rows
end Go.Proofs.Ytakappaaiknpfaa
