/-
  No cell of these rows narrows 'for every input' (looked for: loops, veiled, ifaces, maps, wideKeys, modest, calm, conditions, laid).
  DERIVED. THE GIVEN ROWS OF THIS SEAT. 3 by the template 'for every input the law returns true; each argument reads behind the call as it read before'; 0 by the template 'total and deterministic' (their statements: YtljdfaoplenloaaTotals.lean).
  GIVEN WITH THE SEED: the statements are not yours to turn. If you find one false, say at which input.
  Laid BY PROGRAM, IN A SANDBOX (cutbox-rows.mjs): the forced cells as the released guide's own fill.sh prints them over the translation 328d2e9369fc9300… (all of the seat's roots in one cut). By AI agents, Wed Nov 11 2026. No macro, syntax, notation, axiom, sorry.
-/
import Derived.Test.YtljdfaoplenloaaChecked
import GoSem.Claim
import GoSem.ClaimJoined
import GoSem.ClaimMapViews
import Derived.JoinedTies
import Derived.KernelRfl
namespace Go.Proofs.Ytljdfaoplenloaa
/- THE CELL 'sum', in the pinned program and in every row, IS THE sha256 OF THE DUMP (.gsa) THAT YtljdfaoplenloaaProg.lean LOADS. Nothing in Lean hashes anything: it is a label: what it is worth is what the hold of that sum in a sandbox is worth. -/
noncomputable def Try.pinned : Pinned := { name := "ytljdfaoplenloaa", sum := "328d2e9369fc93005caf2e058aaf5ecb1f69b76c349134466422a94498735eba", checked := Try.checked }
namespace Rows
def none {H : Type} : Left H := { results := [], args := [] }

/-- 'panicroadlaw.ScanWords': WHATEVER THE INPUT: true; the input reads as it did. -/
def scanWordsSpec : ChangeSpec := { name := "scanWords", fn := fun _ => fun
  | [d] => { results := [.lit (.bool true)], args := [d] }
  | _ => none }
def scanWordsRow : OpenClaim := { program := "ytljdfaoplenloaa", sum := "328d2e9369fc93005caf2e058aaf5ecb1f69b76c349134466422a94498735eba", func := "panicroad/panicroadlaw.ScanWords", spec := "scanWords", apart := false }
def ScanWordsSaid : Prop := scanWordsRow.holds Try.pinned (OpenSpec.ofChange scanWordsSpec)

/-- ITS FALSE NEIGHBOUR: 'it returns false'. Refute it at one input. -/
def scanWordsWrong : ChangeSpec := { name := "scanWords", fn := fun _ => fun
  | [d] => { results := [.lit (.bool false)], args := [d] }
  | _ => none }
def ScanWordsWrongFalsely : Prop := scanWordsRow.holds Try.pinned (OpenSpec.ofChange scanWordsWrong)

/-- 'panicroadlaw.ScanQuotes': WHATEVER THE INPUT: true; the input reads as it did. -/
def scanQuotesSpec : ChangeSpec := { name := "scanQuotes", fn := fun _ => fun
  | [d] => { results := [.lit (.bool true)], args := [d] }
  | _ => none }
def scanQuotesRow : OpenClaim := { program := "ytljdfaoplenloaa", sum := "328d2e9369fc93005caf2e058aaf5ecb1f69b76c349134466422a94498735eba", func := "panicroad/panicroadlaw.ScanQuotes", spec := "scanQuotes", inPlace := ["internal/abi.NoEscape"], apart := false }
def ScanQuotesSaid : Prop := scanQuotesRow.holds Try.pinned (OpenSpec.ofChange scanQuotesSpec)

/-- ITS FALSE NEIGHBOUR: 'it returns false'. Refute it at one input. -/
def scanQuotesWrong : ChangeSpec := { name := "scanQuotes", fn := fun _ => fun
  | [d] => { results := [.lit (.bool false)], args := [d] }
  | _ => none }
def ScanQuotesWrongFalsely : Prop := scanQuotesRow.holds Try.pinned (OpenSpec.ofChange scanQuotesWrong)

/-- 'panicroadlaw.ScanUnquotes': WHATEVER THE INPUT: true; the input reads as it did. -/
def scanUnquotesSpec : ChangeSpec := { name := "scanUnquotes", fn := fun _ => fun
  | [d] => { results := [.lit (.bool true)], args := [d] }
  | _ => none }
def scanUnquotesRow : OpenClaim := { program := "ytljdfaoplenloaa", sum := "328d2e9369fc93005caf2e058aaf5ecb1f69b76c349134466422a94498735eba", func := "panicroad/panicroadlaw.ScanUnquotes", spec := "scanUnquotes", inPlace := ["internal/abi.NoEscape"], apart := false }
def ScanUnquotesSaid : Prop := scanUnquotesRow.holds Try.pinned (OpenSpec.ofChange scanUnquotesSpec)

/-- ITS FALSE NEIGHBOUR: 'it returns false'. Refute it at one input. -/
def scanUnquotesWrong : ChangeSpec := { name := "scanUnquotes", fn := fun _ => fun
  | [d] => { results := [.lit (.bool false)], args := [d] }
  | _ => none }
def ScanUnquotesWrongFalsely : Prop := scanUnquotesRow.holds Try.pinned (OpenSpec.ofChange scanUnquotesWrong)

/- THE SECOND FORM. 'bulk': how many values and letters a reading holds, each counted each time it is reached (what is shared counts as often as it is met; a slice's spare places count too). A statement '..UptoSaid' is the law's where the arguments, and the package variables that the reading takes, are together of bulk at most 1048576: NARROWER than '..Said'. Prove '..Said' where nothing that the law and all that it calls make is longer than what came in: it says more and counts as full. Else prove '..UptoSaid'. A law counts once. -/
mutual
def uptoBulk {H : Type} : DataW H → Nat
  | .lit (.string bytes) => bytes.length + 1
  | .lit _ => 1
  | .nil => 1
  | .ptr d => uptoBulk d + 1
  | .slice elems spare => uptoBulkAll elems + uptoBulkAll spare + 1
  | .agg parts => uptoBulkAll parts + 1
  | .iface _ d => uptoBulk d + 1
  | .map entries => uptoBulkEntries entries + 1
  | .held _ => 1
def uptoBulkAll {H : Type} : List (DataW H) → Nat
  | [] => 0
  | d :: r => uptoBulk d + uptoBulkAll r
def uptoBulkEntries {H : Type} : List (Lit × DataW H) → Nat
  | [] => 0
  | x :: r => uptoBulkEntry x + uptoBulkEntries r
def uptoBulkEntry {H : Type} : Lit × DataW H → Nat
  | (.string bytes, d) => bytes.length + uptoBulk d + 1
  | (_, d) => uptoBulk d + 1
 end
def uptoSmall : (H : Type) → List (DataW H) → Bool := fun _ ds => decide (uptoBulkAll ds ≤ 1048576)
def OpenSpec.upto (s : _root_.Go.ChangeSpec) : _root_.Go.OpenSpec := { _root_.Go.OpenSpec.ofChange s with cond := some uptoSmall }

/-- 'panicroadlaw.ScanWords', WHERE WHAT IT READS IS OF BULK AT MOST 1048576: true; the input reads as it did. -/
def scanWordsUptoRow : OpenClaim := { program := "ytljdfaoplenloaa", sum := "328d2e9369fc93005caf2e058aaf5ecb1f69b76c349134466422a94498735eba", func := "panicroad/panicroadlaw.ScanWords", spec := "scanWords", apart := false, narrowed := true }
def ScanWordsUptoSaid : Prop := scanWordsUptoRow.holds Try.pinned (OpenSpec.upto scanWordsSpec)

/-- 'panicroadlaw.ScanQuotes', WHERE WHAT IT READS IS OF BULK AT MOST 1048576: true; the input reads as it did. -/
def scanQuotesUptoRow : OpenClaim := { program := "ytljdfaoplenloaa", sum := "328d2e9369fc93005caf2e058aaf5ecb1f69b76c349134466422a94498735eba", func := "panicroad/panicroadlaw.ScanQuotes", spec := "scanQuotes", inPlace := ["internal/abi.NoEscape"], apart := false, narrowed := true }
def ScanQuotesUptoSaid : Prop := scanQuotesUptoRow.holds Try.pinned (OpenSpec.upto scanQuotesSpec)

/-- 'panicroadlaw.ScanUnquotes', WHERE WHAT IT READS IS OF BULK AT MOST 1048576: true; the input reads as it did. -/
def scanUnquotesUptoRow : OpenClaim := { program := "ytljdfaoplenloaa", sum := "328d2e9369fc93005caf2e058aaf5ecb1f69b76c349134466422a94498735eba", func := "panicroad/panicroadlaw.ScanUnquotes", spec := "scanUnquotes", inPlace := ["internal/abi.NoEscape"], apart := false, narrowed := true }
def ScanUnquotesUptoSaid : Prop := scanUnquotesUptoRow.holds Try.pinned (OpenSpec.upto scanUnquotesSpec)

end Rows
end Go.Proofs.Ytljdfaoplenloaa
