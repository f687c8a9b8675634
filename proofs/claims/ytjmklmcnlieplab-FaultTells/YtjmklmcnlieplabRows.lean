/-
  No cell of these rows narrows 'for every input' (looked for: loops, veiled, ifaces, maps, wideKeys, modest, calm, conditions, laid).
  DERIVED. THE GIVEN ROWS OF THIS SEAT. 5 by the template 'for every input the law returns true; each argument reads behind the call as it read before'; 0 by the template 'total and deterministic' (their statements: YtjmklmcnlieplabTotals.lean).
  GIVEN WITH THE SEED: the statements are not yours to turn. If you find one false, say at which input.
  Laid BY PROGRAM, IN A SANDBOX (cutbox-rows.mjs): the forced cells as the released guide's own fill.sh prints them over the translation f6658a9d6eca83b5… (all of the seat's roots in one cut). By AI agents, Wed Nov 11 2026. No macro, syntax, notation, axiom, sorry.
-/
import Derived.Test.YtjmklmcnlieplabChecked
import GoSem.Claim
import GoSem.ClaimJoined
import GoSem.ClaimMapViews
import Derived.JoinedTies
import Derived.KernelRfl
namespace Go.Proofs.Ytjmklmcnlieplab
/- THE CELL 'sum', in the pinned program and in every row, IS THE sha256 OF THE DUMP (.gsa) THAT YtjmklmcnlieplabProg.lean LOADS. Nothing in Lean hashes anything: it is a label: what it is worth is what the hold of that sum in a sandbox is worth. -/
noncomputable def Try.pinned : Pinned := { name := "ytjmklmcnlieplab", sum := "f6658a9d6eca83b59462c862195fd9a61cc332677d8b307ce6f2043ffcc9df4c", checked := Try.checked }
namespace Rows
def none {H : Type} : Left H := { results := [], args := [] }

/-- 'panicroadlaw.FaultChecks': WHATEVER THE INPUT: true; the input reads as it did. -/
def faultChecksSpec : ChangeSpec := { name := "faultChecks", fn := fun _ => fun
  | [d1, d2, d3, d4] => { results := [.lit (.bool true)], args := [d1, d2, d3, d4] }
  | _ => none }
def faultChecksRow : OpenClaim := { program := "ytjmklmcnlieplab", sum := "f6658a9d6eca83b59462c862195fd9a61cc332677d8b307ce6f2043ffcc9df4c", func := "panicroad/panicroadlaw.FaultChecks", spec := "faultChecks", apart := false }
def FaultChecksSaid : Prop := faultChecksRow.holds Try.pinned (OpenSpec.ofChange faultChecksSpec)

/-- ITS FALSE NEIGHBOUR: 'it returns false'. Refute it at one input. -/
def faultChecksWrong : ChangeSpec := { name := "faultChecks", fn := fun _ => fun
  | [d1, d2, d3, d4] => { results := [.lit (.bool false)], args := [d1, d2, d3, d4] }
  | _ => none }
def FaultChecksWrongFalsely : Prop := faultChecksRow.holds Try.pinned (OpenSpec.ofChange faultChecksWrong)

/-- 'panicroadlaw.FaultCats': WHATEVER THE INPUT: true; the input reads as it did. -/
def faultCatsSpec : ChangeSpec := { name := "faultCats", fn := fun _ => fun
  | [d1, d2] => { results := [.lit (.bool true)], args := [d1, d2] }
  | _ => none }
def faultCatsRow : OpenClaim := { program := "ytjmklmcnlieplab", sum := "f6658a9d6eca83b59462c862195fd9a61cc332677d8b307ce6f2043ffcc9df4c", func := "panicroad/panicroadlaw.FaultCats", spec := "faultCats", apart := false }
def FaultCatsSaid : Prop := faultCatsRow.holds Try.pinned (OpenSpec.ofChange faultCatsSpec)

/-- ITS FALSE NEIGHBOUR: 'it returns false'. Refute it at one input. -/
def faultCatsWrong : ChangeSpec := { name := "faultCats", fn := fun _ => fun
  | [d1, d2] => { results := [.lit (.bool false)], args := [d1, d2] }
  | _ => none }
def FaultCatsWrongFalsely : Prop := faultCatsRow.holds Try.pinned (OpenSpec.ofChange faultCatsWrong)

/-- 'panicroadkeep.FaultPieces': WHATEVER THE INPUT: true; the input reads as it did. -/
def faultPiecesSpec : ChangeSpec := { name := "faultPieces", fn := fun _ => fun
  | [d1, d2, d3, d4] => { results := [.lit (.bool true)], args := [d1, d2, d3, d4] }
  | _ => none }
def faultPiecesRow : OpenClaim := { program := "ytjmklmcnlieplab", sum := "f6658a9d6eca83b59462c862195fd9a61cc332677d8b307ce6f2043ffcc9df4c", func := "panicroad/panicroadkeep.FaultPieces", spec := "faultPieces", apart := false }
def FaultPiecesSaid : Prop := faultPiecesRow.holds Try.pinned (OpenSpec.ofChange faultPiecesSpec)

/-- ITS FALSE NEIGHBOUR: 'it returns false'. Refute it at one input. -/
def faultPiecesWrong : ChangeSpec := { name := "faultPieces", fn := fun _ => fun
  | [d1, d2, d3, d4] => { results := [.lit (.bool false)], args := [d1, d2, d3, d4] }
  | _ => none }
def FaultPiecesWrongFalsely : Prop := faultPiecesRow.holds Try.pinned (OpenSpec.ofChange faultPiecesWrong)

/-- 'panicroadkeep.FaultWithin': WHATEVER THE INPUT: true; the input reads as it did. -/
def faultWithinSpec : ChangeSpec := { name := "faultWithin", fn := fun _ => fun
  | [d1, d2, d3] => { results := [.lit (.bool true)], args := [d1, d2, d3] }
  | _ => none }
def faultWithinRow : OpenClaim := { program := "ytjmklmcnlieplab", sum := "f6658a9d6eca83b59462c862195fd9a61cc332677d8b307ce6f2043ffcc9df4c", func := "panicroad/panicroadkeep.FaultWithin", spec := "faultWithin", apart := false }
def FaultWithinSaid : Prop := faultWithinRow.holds Try.pinned (OpenSpec.ofChange faultWithinSpec)

/-- ITS FALSE NEIGHBOUR: 'it returns false'. Refute it at one input. -/
def faultWithinWrong : ChangeSpec := { name := "faultWithin", fn := fun _ => fun
  | [d1, d2, d3] => { results := [.lit (.bool false)], args := [d1, d2, d3] }
  | _ => none }
def FaultWithinWrongFalsely : Prop := faultWithinRow.holds Try.pinned (OpenSpec.ofChange faultWithinWrong)

/-- 'panicroadkeep.FaultTells': WHATEVER THE INPUT: true; the input reads as it did. -/
def faultTellsSpec : ChangeSpec := { name := "faultTells", fn := fun _ => fun
  | [d1, d2, d3] => { results := [.lit (.bool true)], args := [d1, d2, d3] }
  | _ => none }
def faultTellsRow : OpenClaim := { program := "ytjmklmcnlieplab", sum := "f6658a9d6eca83b59462c862195fd9a61cc332677d8b307ce6f2043ffcc9df4c", func := "panicroad/panicroadkeep.FaultTells", spec := "faultTells", apart := false }
def FaultTellsSaid : Prop := faultTellsRow.holds Try.pinned (OpenSpec.ofChange faultTellsSpec)

/-- ITS FALSE NEIGHBOUR: 'it returns false'. Refute it at one input. -/
def faultTellsWrong : ChangeSpec := { name := "faultTells", fn := fun _ => fun
  | [d1, d2, d3] => { results := [.lit (.bool false)], args := [d1, d2, d3] }
  | _ => none }
def FaultTellsWrongFalsely : Prop := faultTellsRow.holds Try.pinned (OpenSpec.ofChange faultTellsWrong)

/- THE SECOND FORM. 'bulk': how many values and letters a reading holds, each counted each time it is reached (what is shared counts as often as it is met; a slice's spare places count too). A statement '..UptoSaid' is the law's where the arguments, and the package variables that the reading takes, are together of bulk at most 1048576: NARROWER than '..Said'. Prove '..Said' where nothing that the law and all that it calls make is longer than what came in: it says more and counts as full. Else prove '..UptoSaid'. A law counts once. -/
mutual
def uptoBulk {H : Type} : DataW H → Nat
  | .lit (.string bytes) => bytes.length + 1
  | .lit _ => 1
  | .nil => 1
  | .ptr d => uptoBulk d + 1
  | .slice elems spare => uptoBulkAll elems + uptoBulkAll spare + 1
  | .agg parts => uptoBulkAll parts + 1
  | .iface _ d => uptoBulk d + 1
  | .map entries => uptoBulkEntries entries + 1
  | .held _ => 1
def uptoBulkAll {H : Type} : List (DataW H) → Nat
  | [] => 0
  | d :: r => uptoBulk d + uptoBulkAll r
def uptoBulkEntries {H : Type} : List (Lit × DataW H) → Nat
  | [] => 0
  | x :: r => uptoBulkEntry x + uptoBulkEntries r
def uptoBulkEntry {H : Type} : Lit × DataW H → Nat
  | (.string bytes, d) => bytes.length + uptoBulk d + 1
  | (_, d) => uptoBulk d + 1
 end
def uptoSmall : (H : Type) → List (DataW H) → Bool := fun _ ds => decide (uptoBulkAll ds ≤ 1048576)
def OpenSpec.upto (s : _root_.Go.ChangeSpec) : _root_.Go.OpenSpec := { _root_.Go.OpenSpec.ofChange s with cond := some uptoSmall }

/-- 'panicroadlaw.FaultChecks', WHERE WHAT IT READS IS OF BULK AT MOST 1048576: true; the input reads as it did. -/
def faultChecksUptoRow : OpenClaim := { program := "ytjmklmcnlieplab", sum := "f6658a9d6eca83b59462c862195fd9a61cc332677d8b307ce6f2043ffcc9df4c", func := "panicroad/panicroadlaw.FaultChecks", spec := "faultChecks", apart := false, narrowed := true }
def FaultChecksUptoSaid : Prop := faultChecksUptoRow.holds Try.pinned (OpenSpec.upto faultChecksSpec)

/-- 'panicroadlaw.FaultCats', WHERE WHAT IT READS IS OF BULK AT MOST 1048576: true; the input reads as it did. -/
def faultCatsUptoRow : OpenClaim := { program := "ytjmklmcnlieplab", sum := "f6658a9d6eca83b59462c862195fd9a61cc332677d8b307ce6f2043ffcc9df4c", func := "panicroad/panicroadlaw.FaultCats", spec := "faultCats", apart := false, narrowed := true }
def FaultCatsUptoSaid : Prop := faultCatsUptoRow.holds Try.pinned (OpenSpec.upto faultCatsSpec)

/-- 'panicroadkeep.FaultPieces', WHERE WHAT IT READS IS OF BULK AT MOST 1048576: true; the input reads as it did. -/
def faultPiecesUptoRow : OpenClaim := { program := "ytjmklmcnlieplab", sum := "f6658a9d6eca83b59462c862195fd9a61cc332677d8b307ce6f2043ffcc9df4c", func := "panicroad/panicroadkeep.FaultPieces", spec := "faultPieces", apart := false, narrowed := true }
def FaultPiecesUptoSaid : Prop := faultPiecesUptoRow.holds Try.pinned (OpenSpec.upto faultPiecesSpec)

/-- 'panicroadkeep.FaultWithin', WHERE WHAT IT READS IS OF BULK AT MOST 1048576: true; the input reads as it did. -/
def faultWithinUptoRow : OpenClaim := { program := "ytjmklmcnlieplab", sum := "f6658a9d6eca83b59462c862195fd9a61cc332677d8b307ce6f2043ffcc9df4c", func := "panicroad/panicroadkeep.FaultWithin", spec := "faultWithin", apart := false, narrowed := true }
def FaultWithinUptoSaid : Prop := faultWithinUptoRow.holds Try.pinned (OpenSpec.upto faultWithinSpec)

/-- 'panicroadkeep.FaultTells', WHERE WHAT IT READS IS OF BULK AT MOST 1048576: true; the input reads as it did. -/
def faultTellsUptoRow : OpenClaim := { program := "ytjmklmcnlieplab", sum := "f6658a9d6eca83b59462c862195fd9a61cc332677d8b307ce6f2043ffcc9df4c", func := "panicroad/panicroadkeep.FaultTells", spec := "faultTells", apart := false, narrowed := true }
def FaultTellsUptoSaid : Prop := faultTellsUptoRow.holds Try.pinned (OpenSpec.upto faultTellsSpec)

end Rows
end Go.Proofs.Ytjmklmcnlieplab
