/-
  No cell of these rows narrows 'for every input' (looked for: loops, veiled, ifaces, maps, wideKeys, modest, calm, conditions, laid).
  DERIVED. THE GIVEN ROWS OF THIS SEAT. 6 by the template 'for every input the law returns true; each argument reads behind the call as it read before'; 0 by the template 'total and deterministic' (their statements: YtcnpoldcebdhjaaTotals.lean).
  GIVEN WITH THE SEED: the statements are not yours to turn. If you find one false, say at which input.
  Laid BY PROGRAM, IN A SANDBOX (cutbox-rows.mjs): the forced cells as the released guide's own fill.sh prints them over the translation 44a403bd57b24b0f… (all of the seat's roots in one cut). By AI agents, Wed Nov 11 2026. No macro, syntax, notation, axiom, sorry.
-/
import Derived.Test.YtcnpoldcebdhjaaChecked
import GoSem.Claim
import GoSem.ClaimJoined
import GoSem.ClaimMapViews
import Derived.JoinedTies
import Derived.KernelRfl
namespace Go.Proofs.Ytcnpoldcebdhjaa
/- THE CELL 'sum', in the pinned program and in every row, IS THE sha256 OF THE DUMP (.gsa) THAT YtcnpoldcebdhjaaProg.lean LOADS. Nothing in Lean hashes anything: it is a label: what it is worth is what the hold of that sum in a sandbox is worth. -/
noncomputable def Try.pinned : Pinned := { name := "ytcnpoldcebdhjaa", sum := "44a403bd57b24b0f3b80cebdfdcc599d63e0d2301f18953835c44320fd8e3ebc", checked := Try.checked }
namespace Rows
def none {H : Type} : Left H := { results := [], args := [] }

/-- 'panicroadlaw.PanicsBegins': WHATEVER THE INPUT: true; the input reads as it did. -/
def panicsBeginsSpec : ChangeSpec := { name := "panicsBegins", fn := fun _ => fun
  | [] => { results := [.lit (.bool true)], args := [] }
  | _ => none }
def panicsBeginsRow : OpenClaim := { program := "ytcnpoldcebdhjaa", sum := "44a403bd57b24b0f3b80cebdfdcc599d63e0d2301f18953835c44320fd8e3ebc", func := "panicroad/panicroadlaw.PanicsBegins", spec := "panicsBegins", apart := false }
def PanicsBeginsSaid : Prop := panicsBeginsRow.holds Try.pinned (OpenSpec.ofChange panicsBeginsSpec)

/-- ITS FALSE NEIGHBOUR: 'it returns false'. Refute it at one input. -/
def panicsBeginsWrong : ChangeSpec := { name := "panicsBegins", fn := fun _ => fun
  | [] => { results := [.lit (.bool false)], args := [] }
  | _ => none }
def PanicsBeginsWrongFalsely : Prop := panicsBeginsRow.holds Try.pinned (OpenSpec.ofChange panicsBeginsWrong)

/-- 'panicroadlaw.PanicsSteps': WHATEVER THE INPUT: true; the input reads as it did. -/
def panicsStepsSpec : ChangeSpec := { name := "panicsSteps", fn := fun _ => fun
  | [d1, d2] => { results := [.lit (.bool true)], args := [d1, d2] }
  | _ => none }
def panicsStepsRow : OpenClaim := { program := "ytcnpoldcebdhjaa", sum := "44a403bd57b24b0f3b80cebdfdcc599d63e0d2301f18953835c44320fd8e3ebc", func := "panicroad/panicroadlaw.PanicsSteps", spec := "panicsSteps", recurses := true, apart := false }
def PanicsStepsSaid : Prop := panicsStepsRow.holds Try.pinned (OpenSpec.ofChange panicsStepsSpec)

/-- ITS FALSE NEIGHBOUR: 'it returns false'. Refute it at one input. -/
def panicsStepsWrong : ChangeSpec := { name := "panicsSteps", fn := fun _ => fun
  | [d1, d2] => { results := [.lit (.bool false)], args := [d1, d2] }
  | _ => none }
def PanicsStepsWrongFalsely : Prop := panicsStepsRow.holds Try.pinned (OpenSpec.ofChange panicsStepsWrong)

/-- 'panicroadlaw.PanicsPlays': WHATEVER THE INPUT: true; the input reads as it did. -/
def panicsPlaysSpec : ChangeSpec := { name := "panicsPlays", fn := fun _ => fun
  | [d] => { results := [.lit (.bool true)], args := [d] }
  | _ => none }
def panicsPlaysRow : OpenClaim := { program := "ytcnpoldcebdhjaa", sum := "44a403bd57b24b0f3b80cebdfdcc599d63e0d2301f18953835c44320fd8e3ebc", func := "panicroad/panicroadlaw.PanicsPlays", spec := "panicsPlays", recurses := true, apart := false }
def PanicsPlaysSaid : Prop := panicsPlaysRow.holds Try.pinned (OpenSpec.ofChange panicsPlaysSpec)

/-- ITS FALSE NEIGHBOUR: 'it returns false'. Refute it at one input. -/
def panicsPlaysWrong : ChangeSpec := { name := "panicsPlays", fn := fun _ => fun
  | [d] => { results := [.lit (.bool false)], args := [d] }
  | _ => none }
def PanicsPlaysWrongFalsely : Prop := panicsPlaysRow.holds Try.pinned (OpenSpec.ofChange panicsPlaysWrong)

/-- 'panicroadkeep.PanicsMemory': WHATEVER THE INPUT: true; the input reads as it did. -/
def panicsMemorySpec : ChangeSpec := { name := "panicsMemory", fn := fun _ => fun
  | [d1, d2] => { results := [.lit (.bool true)], args := [d1, d2] }
  | _ => none }
def panicsMemoryRow : OpenClaim := { program := "ytcnpoldcebdhjaa", sum := "44a403bd57b24b0f3b80cebdfdcc599d63e0d2301f18953835c44320fd8e3ebc", func := "panicroad/panicroadkeep.PanicsMemory", spec := "panicsMemory", apart := false }
def PanicsMemorySaid : Prop := panicsMemoryRow.holds Try.pinned (OpenSpec.ofChange panicsMemorySpec)

/-- ITS FALSE NEIGHBOUR: 'it returns false'. Refute it at one input. -/
def panicsMemoryWrong : ChangeSpec := { name := "panicsMemory", fn := fun _ => fun
  | [d1, d2] => { results := [.lit (.bool false)], args := [d1, d2] }
  | _ => none }
def PanicsMemoryWrongFalsely : Prop := panicsMemoryRow.holds Try.pinned (OpenSpec.ofChange panicsMemoryWrong)

/-- 'panicroadkeep.PanicsCut': WHATEVER THE INPUT: true; the input reads as it did. -/
def panicsCutSpec : ChangeSpec := { name := "panicsCut", fn := fun _ => fun
  | [d] => { results := [.lit (.bool true)], args := [d] }
  | _ => none }
def panicsCutRow : OpenClaim := { program := "ytcnpoldcebdhjaa", sum := "44a403bd57b24b0f3b80cebdfdcc599d63e0d2301f18953835c44320fd8e3ebc", func := "panicroad/panicroadkeep.PanicsCut", spec := "panicsCut", apart := false }
def PanicsCutSaid : Prop := panicsCutRow.holds Try.pinned (OpenSpec.ofChange panicsCutSpec)

/-- ITS FALSE NEIGHBOUR: 'it returns false'. Refute it at one input. -/
def panicsCutWrong : ChangeSpec := { name := "panicsCut", fn := fun _ => fun
  | [d] => { results := [.lit (.bool false)], args := [d] }
  | _ => none }
def PanicsCutWrongFalsely : Prop := panicsCutRow.holds Try.pinned (OpenSpec.ofChange panicsCutWrong)

/-- 'panicroadkeep.PanicsLast': WHATEVER THE INPUT: true; the input reads as it did. -/
def panicsLastSpec : ChangeSpec := { name := "panicsLast", fn := fun _ => fun
  | [d] => { results := [.lit (.bool true)], args := [d] }
  | _ => none }
def panicsLastRow : OpenClaim := { program := "ytcnpoldcebdhjaa", sum := "44a403bd57b24b0f3b80cebdfdcc599d63e0d2301f18953835c44320fd8e3ebc", func := "panicroad/panicroadkeep.PanicsLast", spec := "panicsLast", apart := false }
def PanicsLastSaid : Prop := panicsLastRow.holds Try.pinned (OpenSpec.ofChange panicsLastSpec)

/-- ITS FALSE NEIGHBOUR: 'it returns false'. Refute it at one input. -/
def panicsLastWrong : ChangeSpec := { name := "panicsLast", fn := fun _ => fun
  | [d] => { results := [.lit (.bool false)], args := [d] }
  | _ => none }
def PanicsLastWrongFalsely : Prop := panicsLastRow.holds Try.pinned (OpenSpec.ofChange panicsLastWrong)

/- THE SECOND FORM. 'bulk': how many values and letters a reading holds, each counted each time it is reached (what is shared counts as often as it is met; a slice's spare places count too). A statement '..UptoSaid' is the law's where the arguments, and the package variables that the reading takes, are together of bulk at most 1048576: NARROWER than '..Said'. Prove '..Said' where nothing that the law and all that it calls make is longer than what came in: it says more and counts as full. Else prove '..UptoSaid'. A law counts once. -/
mutual
def uptoBulk {H : Type} : DataW H → Nat
  | .lit (.string bytes) => bytes.length + 1
  | .lit _ => 1
  | .nil => 1
  | .ptr d => uptoBulk d + 1
  | .slice elems spare => uptoBulkAll elems + uptoBulkAll spare + 1
  | .agg parts => uptoBulkAll parts + 1
  | .iface _ d => uptoBulk d + 1
  | .map entries => uptoBulkEntries entries + 1
  | .held _ => 1
def uptoBulkAll {H : Type} : List (DataW H) → Nat
  | [] => 0
  | d :: r => uptoBulk d + uptoBulkAll r
def uptoBulkEntries {H : Type} : List (Lit × DataW H) → Nat
  | [] => 0
  | x :: r => uptoBulkEntry x + uptoBulkEntries r
def uptoBulkEntry {H : Type} : Lit × DataW H → Nat
  | (.string bytes, d) => bytes.length + uptoBulk d + 1
  | (_, d) => uptoBulk d + 1
 end
def uptoSmall : (H : Type) → List (DataW H) → Bool := fun _ ds => decide (uptoBulkAll ds ≤ 1048576)
def OpenSpec.upto (s : _root_.Go.ChangeSpec) : _root_.Go.OpenSpec := { _root_.Go.OpenSpec.ofChange s with cond := some uptoSmall }

/-- 'panicroadlaw.PanicsBegins', WHERE WHAT IT READS IS OF BULK AT MOST 1048576: true; the input reads as it did. -/
def panicsBeginsUptoRow : OpenClaim := { program := "ytcnpoldcebdhjaa", sum := "44a403bd57b24b0f3b80cebdfdcc599d63e0d2301f18953835c44320fd8e3ebc", func := "panicroad/panicroadlaw.PanicsBegins", spec := "panicsBegins", apart := false, narrowed := true }
def PanicsBeginsUptoSaid : Prop := panicsBeginsUptoRow.holds Try.pinned (OpenSpec.upto panicsBeginsSpec)

/-- 'panicroadlaw.PanicsSteps', WHERE WHAT IT READS IS OF BULK AT MOST 1048576: true; the input reads as it did. -/
def panicsStepsUptoRow : OpenClaim := { program := "ytcnpoldcebdhjaa", sum := "44a403bd57b24b0f3b80cebdfdcc599d63e0d2301f18953835c44320fd8e3ebc", func := "panicroad/panicroadlaw.PanicsSteps", spec := "panicsSteps", recurses := true, apart := false, narrowed := true }
def PanicsStepsUptoSaid : Prop := panicsStepsUptoRow.holds Try.pinned (OpenSpec.upto panicsStepsSpec)

/-- 'panicroadlaw.PanicsPlays', WHERE WHAT IT READS IS OF BULK AT MOST 1048576: true; the input reads as it did. -/
def panicsPlaysUptoRow : OpenClaim := { program := "ytcnpoldcebdhjaa", sum := "44a403bd57b24b0f3b80cebdfdcc599d63e0d2301f18953835c44320fd8e3ebc", func := "panicroad/panicroadlaw.PanicsPlays", spec := "panicsPlays", recurses := true, apart := false, narrowed := true }
def PanicsPlaysUptoSaid : Prop := panicsPlaysUptoRow.holds Try.pinned (OpenSpec.upto panicsPlaysSpec)

/-- 'panicroadkeep.PanicsMemory', WHERE WHAT IT READS IS OF BULK AT MOST 1048576: true; the input reads as it did. -/
def panicsMemoryUptoRow : OpenClaim := { program := "ytcnpoldcebdhjaa", sum := "44a403bd57b24b0f3b80cebdfdcc599d63e0d2301f18953835c44320fd8e3ebc", func := "panicroad/panicroadkeep.PanicsMemory", spec := "panicsMemory", apart := false, narrowed := true }
def PanicsMemoryUptoSaid : Prop := panicsMemoryUptoRow.holds Try.pinned (OpenSpec.upto panicsMemorySpec)

/-- 'panicroadkeep.PanicsCut', WHERE WHAT IT READS IS OF BULK AT MOST 1048576: true; the input reads as it did. -/
def panicsCutUptoRow : OpenClaim := { program := "ytcnpoldcebdhjaa", sum := "44a403bd57b24b0f3b80cebdfdcc599d63e0d2301f18953835c44320fd8e3ebc", func := "panicroad/panicroadkeep.PanicsCut", spec := "panicsCut", apart := false, narrowed := true }
def PanicsCutUptoSaid : Prop := panicsCutUptoRow.holds Try.pinned (OpenSpec.upto panicsCutSpec)

/-- 'panicroadkeep.PanicsLast', WHERE WHAT IT READS IS OF BULK AT MOST 1048576: true; the input reads as it did. -/
def panicsLastUptoRow : OpenClaim := { program := "ytcnpoldcebdhjaa", sum := "44a403bd57b24b0f3b80cebdfdcc599d63e0d2301f18953835c44320fd8e3ebc", func := "panicroad/panicroadkeep.PanicsLast", spec := "panicsLast", apart := false, narrowed := true }
def PanicsLastUptoSaid : Prop := panicsLastUptoRow.holds Try.pinned (OpenSpec.upto panicsLastSpec)

end Rows
end Go.Proofs.Ytcnpoldcebdhjaa
