/-
  No cell of these rows narrows 'for every input' (looked for: loops, veiled, ifaces, maps, wideKeys, modest, calm, conditions, laid).
  DERIVED. THE GIVEN ROWS OF THIS SEAT. 4 by the template 'for every input the law returns true; each argument reads behind the call as it read before'; 0 by the template 'total and deterministic' (their statements: YtehgfeflbkdjdaaTotals.lean).
  GIVEN WITH THE SEED: the statements are not yours to turn. If you find one false, say at which input.
  Laid BY PROGRAM, IN A SANDBOX (cutbox-rows.mjs): the forced cells as the released guide's own fill.sh prints them over the translation 40ce63e7e8a0f067… (all of the seat's roots in one cut). By AI agents, Wed Nov 11 2026. No macro, syntax, notation, axiom, sorry.
-/
import Derived.Test.YtehgfeflbkdjdaaChecked
import GoSem.Claim
import GoSem.ClaimJoined
import GoSem.ClaimMapViews
import Derived.JoinedTies
import Derived.KernelRfl
namespace Go.Proofs.Ytehgfeflbkdjdaa
/- THE CELL 'sum', in the pinned program and in every row, IS THE sha256 OF THE DUMP (.gsa) THAT YtehgfeflbkdjdaaProg.lean LOADS. Nothing in Lean hashes anything: it is a label: what it is worth is what the hold of that sum in a sandbox is worth. -/
noncomputable def Try.pinned : Pinned := { name := "ytehgfeflbkdjdaa", sum := "40ce63e7e8a0f067d5ac665964dad12ef7e5ef95b3bab49b29b00709b5b924c4", checked := Try.checked }
namespace Rows
def none {H : Type} : Left H := { results := [], args := [] }

/-- 'donjonlaw19.NoticeDoes': WHATEVER THE INPUT: true; the input reads as it did. -/
def noticeDoesSpec : ChangeSpec := { name := "noticeDoes", fn := fun _ => fun
  | [d] => { results := [.lit (.bool true)], args := [d] }
  | _ => none }
def noticeDoesRow : OpenClaim := { program := "ytehgfeflbkdjdaa", sum := "40ce63e7e8a0f067d5ac665964dad12ef7e5ef95b3bab49b29b00709b5b924c4", func := "donjon/donjonlaw19.NoticeDoes", spec := "noticeDoes", apart := false }
def NoticeDoesSaid : Prop := noticeDoesRow.holds Try.pinned (OpenSpec.ofChange noticeDoesSpec)

/-- ITS FALSE NEIGHBOUR: 'it returns false'. Refute it at one input. -/
def noticeDoesWrong : ChangeSpec := { name := "noticeDoes", fn := fun _ => fun
  | [d] => { results := [.lit (.bool false)], args := [d] }
  | _ => none }
def NoticeDoesWrongFalsely : Prop := noticeDoesRow.holds Try.pinned (OpenSpec.ofChange noticeDoesWrong)

/-- 'donjonlaw19.NoticeKeeps': WHATEVER THE INPUT: true; the input reads as it did. -/
def noticeKeepsSpec : ChangeSpec := { name := "noticeKeeps", fn := fun _ => fun
  | [d] => { results := [.lit (.bool true)], args := [d] }
  | _ => none }
def noticeKeepsRow : OpenClaim := { program := "ytehgfeflbkdjdaa", sum := "40ce63e7e8a0f067d5ac665964dad12ef7e5ef95b3bab49b29b00709b5b924c4", func := "donjon/donjonlaw19.NoticeKeeps", spec := "noticeKeeps", apart := false }
def NoticeKeepsSaid : Prop := noticeKeepsRow.holds Try.pinned (OpenSpec.ofChange noticeKeepsSpec)

/-- ITS FALSE NEIGHBOUR: 'it returns false'. Refute it at one input. -/
def noticeKeepsWrong : ChangeSpec := { name := "noticeKeeps", fn := fun _ => fun
  | [d] => { results := [.lit (.bool false)], args := [d] }
  | _ => none }
def NoticeKeepsWrongFalsely : Prop := noticeKeepsRow.holds Try.pinned (OpenSpec.ofChange noticeKeepsWrong)

/-- 'donjonlaw19.NoticeOnce': WHATEVER THE INPUT: true; the input reads as it did. -/
def noticeOnceSpec : ChangeSpec := { name := "noticeOnce", fn := fun _ => fun
  | [d1, d2] => { results := [.lit (.bool true)], args := [d1, d2] }
  | _ => none }
def noticeOnceRow : OpenClaim := { program := "ytehgfeflbkdjdaa", sum := "40ce63e7e8a0f067d5ac665964dad12ef7e5ef95b3bab49b29b00709b5b924c4", func := "donjon/donjonlaw19.NoticeOnce", spec := "noticeOnce", apart := false }
def NoticeOnceSaid : Prop := noticeOnceRow.holds Try.pinned (OpenSpec.ofChange noticeOnceSpec)

/-- ITS FALSE NEIGHBOUR: 'it returns false'. Refute it at one input. -/
def noticeOnceWrong : ChangeSpec := { name := "noticeOnce", fn := fun _ => fun
  | [d1, d2] => { results := [.lit (.bool false)], args := [d1, d2] }
  | _ => none }
def NoticeOnceWrongFalsely : Prop := noticeOnceRow.holds Try.pinned (OpenSpec.ofChange noticeOnceWrong)

/-- 'donjonlaw19.NoticeBound': WHATEVER THE INPUT: true; the input reads as it did. -/
def noticeBoundSpec : ChangeSpec := { name := "noticeBound", fn := fun _ => fun
  | [d1, d2, d3] => { results := [.lit (.bool true)], args := [d1, d2, d3] }
  | _ => none }
def noticeBoundRow : OpenClaim := { program := "ytehgfeflbkdjdaa", sum := "40ce63e7e8a0f067d5ac665964dad12ef7e5ef95b3bab49b29b00709b5b924c4", func := "donjon/donjonlaw19.NoticeBound", spec := "noticeBound", apart := false }
def NoticeBoundSaid : Prop := noticeBoundRow.holds Try.pinned (OpenSpec.ofChange noticeBoundSpec)

/-- ITS FALSE NEIGHBOUR: 'it returns false'. Refute it at one input. -/
def noticeBoundWrong : ChangeSpec := { name := "noticeBound", fn := fun _ => fun
  | [d1, d2, d3] => { results := [.lit (.bool false)], args := [d1, d2, d3] }
  | _ => none }
def NoticeBoundWrongFalsely : Prop := noticeBoundRow.holds Try.pinned (OpenSpec.ofChange noticeBoundWrong)

/- THE SECOND FORM. 'bulk': how many values and letters a reading holds, each counted each time it is reached (what is shared counts as often as it is met; a slice's spare places count too). A statement '..UptoSaid' is the law's where the arguments, and the package variables that the reading takes, are together of bulk at most 1048576: NARROWER than '..Said'. Prove '..Said' where nothing that the law and all that it calls make is longer than what came in: it says more and counts as full. Else prove '..UptoSaid'. A law counts once. -/
mutual
def uptoBulk {H : Type} : DataW H → Nat
  | .lit (.string bytes) => bytes.length + 1
  | .lit _ => 1
  | .nil => 1
  | .ptr d => uptoBulk d + 1
  | .slice elems spare => uptoBulkAll elems + uptoBulkAll spare + 1
  | .agg parts => uptoBulkAll parts + 1
  | .iface _ d => uptoBulk d + 1
  | .map entries => uptoBulkEntries entries + 1
  | .held _ => 1
def uptoBulkAll {H : Type} : List (DataW H) → Nat
  | [] => 0
  | d :: r => uptoBulk d + uptoBulkAll r
def uptoBulkEntries {H : Type} : List (Lit × DataW H) → Nat
  | [] => 0
  | x :: r => uptoBulkEntry x + uptoBulkEntries r
def uptoBulkEntry {H : Type} : Lit × DataW H → Nat
  | (.string bytes, d) => bytes.length + uptoBulk d + 1
  | (_, d) => uptoBulk d + 1
 end
def uptoSmall : (H : Type) → List (DataW H) → Bool := fun _ ds => decide (uptoBulkAll ds ≤ 1048576)
def OpenSpec.upto (s : _root_.Go.ChangeSpec) : _root_.Go.OpenSpec := { _root_.Go.OpenSpec.ofChange s with cond := some uptoSmall }

/-- 'donjonlaw19.NoticeDoes', WHERE WHAT IT READS IS OF BULK AT MOST 1048576: true; the input reads as it did. -/
def noticeDoesUptoRow : OpenClaim := { program := "ytehgfeflbkdjdaa", sum := "40ce63e7e8a0f067d5ac665964dad12ef7e5ef95b3bab49b29b00709b5b924c4", func := "donjon/donjonlaw19.NoticeDoes", spec := "noticeDoes", apart := false, narrowed := true }
def NoticeDoesUptoSaid : Prop := noticeDoesUptoRow.holds Try.pinned (OpenSpec.upto noticeDoesSpec)

/-- 'donjonlaw19.NoticeKeeps', WHERE WHAT IT READS IS OF BULK AT MOST 1048576: true; the input reads as it did. -/
def noticeKeepsUptoRow : OpenClaim := { program := "ytehgfeflbkdjdaa", sum := "40ce63e7e8a0f067d5ac665964dad12ef7e5ef95b3bab49b29b00709b5b924c4", func := "donjon/donjonlaw19.NoticeKeeps", spec := "noticeKeeps", apart := false, narrowed := true }
def NoticeKeepsUptoSaid : Prop := noticeKeepsUptoRow.holds Try.pinned (OpenSpec.upto noticeKeepsSpec)

/-- 'donjonlaw19.NoticeOnce', WHERE WHAT IT READS IS OF BULK AT MOST 1048576: true; the input reads as it did. -/
def noticeOnceUptoRow : OpenClaim := { program := "ytehgfeflbkdjdaa", sum := "40ce63e7e8a0f067d5ac665964dad12ef7e5ef95b3bab49b29b00709b5b924c4", func := "donjon/donjonlaw19.NoticeOnce", spec := "noticeOnce", apart := false, narrowed := true }
def NoticeOnceUptoSaid : Prop := noticeOnceUptoRow.holds Try.pinned (OpenSpec.upto noticeOnceSpec)

/-- 'donjonlaw19.NoticeBound', WHERE WHAT IT READS IS OF BULK AT MOST 1048576: true; the input reads as it did. -/
def noticeBoundUptoRow : OpenClaim := { program := "ytehgfeflbkdjdaa", sum := "40ce63e7e8a0f067d5ac665964dad12ef7e5ef95b3bab49b29b00709b5b924c4", func := "donjon/donjonlaw19.NoticeBound", spec := "noticeBound", apart := false, narrowed := true }
def NoticeBoundUptoSaid : Prop := noticeBoundUptoRow.holds Try.pinned (OpenSpec.upto noticeBoundSpec)

end Rows
end Go.Proofs.Ytehgfeflbkdjdaa
