/-
  No cell of these rows narrows 'for every input' (looked for: loops, veiled, ifaces, maps, wideKeys, modest, calm, conditions, laid).
  DERIVED. THE GIVEN ROWS OF THIS SEAT. 4 by the template 'for every input the law returns true; each argument reads behind the call as it read before'; 0 by the template 'total and deterministic' (their statements: YtjmklmcnlieplaaTotals.lean).
  GIVEN WITH THE SEED: the statements are not yours to turn. If you find one false, say at which input.
  Laid BY PROGRAM, IN A SANDBOX (cutbox-rows.mjs): the forced cells as the released guide's own fill.sh prints them over the translation 5eb8f46ff712b770… (all of the seat's roots in one cut). By AI agents, Wed Nov 11 2026. No macro, syntax, notation, axiom, sorry.
-/
import Derived.Test.YtjmklmcnlieplaaChecked
import GoSem.Claim
import GoSem.ClaimJoined
import GoSem.ClaimMapViews
import Derived.JoinedTies
import Derived.KernelRfl
namespace Go.Proofs.Ytjmklmcnlieplaa
/- THE CELL 'sum', in the pinned program and in every row, IS THE sha256 OF THE DUMP (.gsa) THAT YtjmklmcnlieplaaProg.lean LOADS. Nothing in Lean hashes anything: it is a label: what it is worth is what the hold of that sum in a sandbox is worth. -/
noncomputable def Try.pinned : Pinned := { name := "ytjmklmcnlieplaa", sum := "5eb8f46ff712b7705dd2a9e7a5bae09cc1d91afbaf60c7cc7fa13a02906a781e", checked := Try.checked }
namespace Rows
def none {H : Type} : Left H := { results := [], args := [] }

/-- 'panicroadlaw.FaultIndexes': WHATEVER THE INPUT: true; the input reads as it did. -/
def faultIndexesSpec : ChangeSpec := { name := "faultIndexes", fn := fun _ => fun
  | [d1, d2] => { results := [.lit (.bool true)], args := [d1, d2] }
  | _ => none }
def faultIndexesRow : OpenClaim := { program := "ytjmklmcnlieplaa", sum := "5eb8f46ff712b7705dd2a9e7a5bae09cc1d91afbaf60c7cc7fa13a02906a781e", func := "panicroad/panicroadlaw.FaultIndexes", spec := "faultIndexes", apart := false }
def FaultIndexesSaid : Prop := faultIndexesRow.holds Try.pinned (OpenSpec.ofChange faultIndexesSpec)

/-- ITS FALSE NEIGHBOUR: 'it returns false'. Refute it at one input. -/
def faultIndexesWrong : ChangeSpec := { name := "faultIndexes", fn := fun _ => fun
  | [d1, d2] => { results := [.lit (.bool false)], args := [d1, d2] }
  | _ => none }
def FaultIndexesWrongFalsely : Prop := faultIndexesRow.holds Try.pinned (OpenSpec.ofChange faultIndexesWrong)

/-- 'panicroadlaw.FaultBounds': WHATEVER THE INPUT: true; the input reads as it did. -/
def faultBoundsSpec : ChangeSpec := { name := "faultBounds", fn := fun _ => fun
  | [d1, d2, d3] => { results := [.lit (.bool true)], args := [d1, d2, d3] }
  | _ => none }
def faultBoundsRow : OpenClaim := { program := "ytjmklmcnlieplaa", sum := "5eb8f46ff712b7705dd2a9e7a5bae09cc1d91afbaf60c7cc7fa13a02906a781e", func := "panicroad/panicroadlaw.FaultBounds", spec := "faultBounds", apart := false }
def FaultBoundsSaid : Prop := faultBoundsRow.holds Try.pinned (OpenSpec.ofChange faultBoundsSpec)

/-- ITS FALSE NEIGHBOUR: 'it returns false'. Refute it at one input. -/
def faultBoundsWrong : ChangeSpec := { name := "faultBounds", fn := fun _ => fun
  | [d1, d2, d3] => { results := [.lit (.bool false)], args := [d1, d2, d3] }
  | _ => none }
def FaultBoundsWrongFalsely : Prop := faultBoundsRow.holds Try.pinned (OpenSpec.ofChange faultBoundsWrong)

/-- 'panicroadlaw.FaultLongs': WHATEVER THE INPUT: true; the input reads as it did. -/
def faultLongsSpec : ChangeSpec := { name := "faultLongs", fn := fun _ => fun
  | [d1, d2] => { results := [.lit (.bool true)], args := [d1, d2] }
  | _ => none }
def faultLongsRow : OpenClaim := { program := "ytjmklmcnlieplaa", sum := "5eb8f46ff712b7705dd2a9e7a5bae09cc1d91afbaf60c7cc7fa13a02906a781e", func := "panicroad/panicroadlaw.FaultLongs", spec := "faultLongs", apart := false }
def FaultLongsSaid : Prop := faultLongsRow.holds Try.pinned (OpenSpec.ofChange faultLongsSpec)

/-- ITS FALSE NEIGHBOUR: 'it returns false'. Refute it at one input. -/
def faultLongsWrong : ChangeSpec := { name := "faultLongs", fn := fun _ => fun
  | [d1, d2] => { results := [.lit (.bool false)], args := [d1, d2] }
  | _ => none }
def FaultLongsWrongFalsely : Prop := faultLongsRow.holds Try.pinned (OpenSpec.ofChange faultLongsWrong)

/-- 'panicroadlaw.FaultOperations': WHATEVER THE INPUT: true; the input reads as it did. -/
def faultOperationsSpec : ChangeSpec := { name := "faultOperations", fn := fun _ => fun
  | [d1, d2] => { results := [.lit (.bool true)], args := [d1, d2] }
  | _ => none }
def faultOperationsRow : OpenClaim := { program := "ytjmklmcnlieplaa", sum := "5eb8f46ff712b7705dd2a9e7a5bae09cc1d91afbaf60c7cc7fa13a02906a781e", func := "panicroad/panicroadlaw.FaultOperations", spec := "faultOperations", apart := false }
def FaultOperationsSaid : Prop := faultOperationsRow.holds Try.pinned (OpenSpec.ofChange faultOperationsSpec)

/-- ITS FALSE NEIGHBOUR: 'it returns false'. Refute it at one input. -/
def faultOperationsWrong : ChangeSpec := { name := "faultOperations", fn := fun _ => fun
  | [d1, d2] => { results := [.lit (.bool false)], args := [d1, d2] }
  | _ => none }
def FaultOperationsWrongFalsely : Prop := faultOperationsRow.holds Try.pinned (OpenSpec.ofChange faultOperationsWrong)

/- THE SECOND FORM. 'bulk': how many values and letters a reading holds, each counted each time it is reached (what is shared counts as often as it is met; a slice's spare places count too). A statement '..UptoSaid' is the law's where the arguments, and the package variables that the reading takes, are together of bulk at most 1048576: NARROWER than '..Said'. Prove '..Said' where nothing that the law and all that it calls make is longer than what came in: it says more and counts as full. Else prove '..UptoSaid'. A law counts once. -/
mutual
def uptoBulk {H : Type} : DataW H → Nat
  | .lit (.string bytes) => bytes.length + 1
  | .lit _ => 1
  | .nil => 1
  | .ptr d => uptoBulk d + 1
  | .slice elems spare => uptoBulkAll elems + uptoBulkAll spare + 1
  | .agg parts => uptoBulkAll parts + 1
  | .iface _ d => uptoBulk d + 1
  | .map entries => uptoBulkEntries entries + 1
  | .held _ => 1
def uptoBulkAll {H : Type} : List (DataW H) → Nat
  | [] => 0
  | d :: r => uptoBulk d + uptoBulkAll r
def uptoBulkEntries {H : Type} : List (Lit × DataW H) → Nat
  | [] => 0
  | x :: r => uptoBulkEntry x + uptoBulkEntries r
def uptoBulkEntry {H : Type} : Lit × DataW H → Nat
  | (.string bytes, d) => bytes.length + uptoBulk d + 1
  | (_, d) => uptoBulk d + 1
 end
def uptoSmall : (H : Type) → List (DataW H) → Bool := fun _ ds => decide (uptoBulkAll ds ≤ 1048576)
def OpenSpec.upto (s : _root_.Go.ChangeSpec) : _root_.Go.OpenSpec := { _root_.Go.OpenSpec.ofChange s with cond := some uptoSmall }

/-- 'panicroadlaw.FaultIndexes', WHERE WHAT IT READS IS OF BULK AT MOST 1048576: true; the input reads as it did. -/
def faultIndexesUptoRow : OpenClaim := { program := "ytjmklmcnlieplaa", sum := "5eb8f46ff712b7705dd2a9e7a5bae09cc1d91afbaf60c7cc7fa13a02906a781e", func := "panicroad/panicroadlaw.FaultIndexes", spec := "faultIndexes", apart := false, narrowed := true }
def FaultIndexesUptoSaid : Prop := faultIndexesUptoRow.holds Try.pinned (OpenSpec.upto faultIndexesSpec)

/-- 'panicroadlaw.FaultBounds', WHERE WHAT IT READS IS OF BULK AT MOST 1048576: true; the input reads as it did. -/
def faultBoundsUptoRow : OpenClaim := { program := "ytjmklmcnlieplaa", sum := "5eb8f46ff712b7705dd2a9e7a5bae09cc1d91afbaf60c7cc7fa13a02906a781e", func := "panicroad/panicroadlaw.FaultBounds", spec := "faultBounds", apart := false, narrowed := true }
def FaultBoundsUptoSaid : Prop := faultBoundsUptoRow.holds Try.pinned (OpenSpec.upto faultBoundsSpec)

/-- 'panicroadlaw.FaultLongs', WHERE WHAT IT READS IS OF BULK AT MOST 1048576: true; the input reads as it did. -/
def faultLongsUptoRow : OpenClaim := { program := "ytjmklmcnlieplaa", sum := "5eb8f46ff712b7705dd2a9e7a5bae09cc1d91afbaf60c7cc7fa13a02906a781e", func := "panicroad/panicroadlaw.FaultLongs", spec := "faultLongs", apart := false, narrowed := true }
def FaultLongsUptoSaid : Prop := faultLongsUptoRow.holds Try.pinned (OpenSpec.upto faultLongsSpec)

/-- 'panicroadlaw.FaultOperations', WHERE WHAT IT READS IS OF BULK AT MOST 1048576: true; the input reads as it did. -/
def faultOperationsUptoRow : OpenClaim := { program := "ytjmklmcnlieplaa", sum := "5eb8f46ff712b7705dd2a9e7a5bae09cc1d91afbaf60c7cc7fa13a02906a781e", func := "panicroad/panicroadlaw.FaultOperations", spec := "faultOperations", apart := false, narrowed := true }
def FaultOperationsUptoSaid : Prop := faultOperationsUptoRow.holds Try.pinned (OpenSpec.upto faultOperationsSpec)

end Rows
end Go.Proofs.Ytjmklmcnlieplaa
