/-
  No cell of these rows narrows 'for every input' (looked for: loops, veiled, ifaces, maps, wideKeys, modest, calm, conditions, laid).
  DERIVED. THE GIVEN ROWS OF THIS SEAT. 6 by the template 'for every input the law returns true; each argument reads behind the call as it read before'; 0 by the template 'total and deterministic' (their statements: YtmcechcigehjbaaTotals.lean).
  GIVEN WITH THE SEED: the statements are not yours to turn. If you find one false, say at which input.
  Laid BY PROGRAM, IN A SANDBOX (cutbox-rows.mjs): the forced cells as the released guide's own fill.sh prints them over the translation 7fe3813bf3526858… (all of the seat's roots in one cut). By AI agents, Wed Nov 11 2026. No macro, syntax, notation, axiom, sorry.
-/
import Derived.Test.YtmcechcigehjbaaChecked
import GoSem.Claim
import GoSem.ClaimJoined
import GoSem.ClaimMapViews
import Derived.JoinedTies
import Derived.KernelRfl
namespace Go.Proofs.Ytmcechcigehjbaa
/- THE CELL 'sum', in the pinned program and in every row, IS THE sha256 OF THE DUMP (.gsa) THAT YtmcechcigehjbaaProg.lean LOADS. Nothing in Lean hashes anything: it is a label: what it is worth is what the hold of that sum in a sandbox is worth. -/
noncomputable def Try.pinned : Pinned := { name := "ytmcechcigehjbaa", sum := "7fe3813bf3526858590278957dc130dfce4daf60a204f32d2ecdb9c0d66bf8af", checked := Try.checked }
namespace Rows
def none {H : Type} : Left H := { results := [], args := [] }

/-- 'panicroadlaw.TypesValid': WHATEVER THE INPUT: true; the input reads as it did. -/
def typesValidSpec : ChangeSpec := { name := "typesValid", fn := fun _ => fun
  | [d] => { results := [.lit (.bool true)], args := [d] }
  | _ => none }
def typesValidRow : OpenClaim := { program := "ytmcechcigehjbaa", sum := "7fe3813bf3526858590278957dc130dfce4daf60a204f32d2ecdb9c0d66bf8af", func := "panicroad/panicroadlaw.TypesValid", spec := "typesValid", unfollowed := true, recurses := true, apart := false }
def TypesValidSaid : Prop := typesValidRow.holds Try.pinned (OpenSpec.ofChange typesValidSpec)

/-- ITS FALSE NEIGHBOUR: 'it returns false'. Refute it at one input. -/
def typesValidWrong : ChangeSpec := { name := "typesValid", fn := fun _ => fun
  | [d] => { results := [.lit (.bool false)], args := [d] }
  | _ => none }
def TypesValidWrongFalsely : Prop := typesValidRow.holds Try.pinned (OpenSpec.ofChange typesValidWrong)

/-- 'panicroadlaw.TypesParams': WHATEVER THE INPUT: true; the input reads as it did. -/
def typesParamsSpec : ChangeSpec := { name := "typesParams", fn := fun _ => fun
  | [d] => { results := [.lit (.bool true)], args := [d] }
  | _ => none }
def typesParamsRow : OpenClaim := { program := "ytmcechcigehjbaa", sum := "7fe3813bf3526858590278957dc130dfce4daf60a204f32d2ecdb9c0d66bf8af", func := "panicroad/panicroadlaw.TypesParams", spec := "typesParams", unfollowed := true, recurses := true, apart := false }
def TypesParamsSaid : Prop := typesParamsRow.holds Try.pinned (OpenSpec.ofChange typesParamsSpec)

/-- ITS FALSE NEIGHBOUR: 'it returns false'. Refute it at one input. -/
def typesParamsWrong : ChangeSpec := { name := "typesParams", fn := fun _ => fun
  | [d] => { results := [.lit (.bool false)], args := [d] }
  | _ => none }
def TypesParamsWrongFalsely : Prop := typesParamsRow.holds Try.pinned (OpenSpec.ofChange typesParamsWrong)

/-- 'panicroadlaw.TypesResults': WHATEVER THE INPUT: true; the input reads as it did. -/
def typesResultsSpec : ChangeSpec := { name := "typesResults", fn := fun _ => fun
  | [d] => { results := [.lit (.bool true)], args := [d] }
  | _ => none }
def typesResultsRow : OpenClaim := { program := "ytmcechcigehjbaa", sum := "7fe3813bf3526858590278957dc130dfce4daf60a204f32d2ecdb9c0d66bf8af", func := "panicroad/panicroadlaw.TypesResults", spec := "typesResults", unfollowed := true, recurses := true, apart := false }
def TypesResultsSaid : Prop := typesResultsRow.holds Try.pinned (OpenSpec.ofChange typesResultsSpec)

/-- ITS FALSE NEIGHBOUR: 'it returns false'. Refute it at one input. -/
def typesResultsWrong : ChangeSpec := { name := "typesResults", fn := fun _ => fun
  | [d] => { results := [.lit (.bool false)], args := [d] }
  | _ => none }
def TypesResultsWrongFalsely : Prop := typesResultsRow.holds Try.pinned (OpenSpec.ofChange typesResultsWrong)

/-- 'panicroadlaw.TypesFuncs': WHATEVER THE INPUT: true; the input reads as it did. -/
def typesFuncsSpec : ChangeSpec := { name := "typesFuncs", fn := fun _ => fun
  | [d1, d2] => { results := [.lit (.bool true)], args := [d1, d2] }
  | _ => none }
def typesFuncsRow : OpenClaim := { program := "ytmcechcigehjbaa", sum := "7fe3813bf3526858590278957dc130dfce4daf60a204f32d2ecdb9c0d66bf8af", func := "panicroad/panicroadlaw.TypesFuncs", spec := "typesFuncs", inPlace := ["internal/abi.NoEscape", "internal/bytealg.MakeNoZero"], unfollowed := true, recurses := true, apart := false }
def TypesFuncsSaid : Prop := typesFuncsRow.holds Try.pinned (OpenSpec.ofChange typesFuncsSpec)

/-- ITS FALSE NEIGHBOUR: 'it returns false'. Refute it at one input. -/
def typesFuncsWrong : ChangeSpec := { name := "typesFuncs", fn := fun _ => fun
  | [d1, d2] => { results := [.lit (.bool false)], args := [d1, d2] }
  | _ => none }
def TypesFuncsWrongFalsely : Prop := typesFuncsRow.holds Try.pinned (OpenSpec.ofChange typesFuncsWrong)

/-- 'panicroadlaw.TypesFits': WHATEVER THE INPUT: true; the input reads as it did. -/
def typesFitsSpec : ChangeSpec := { name := "typesFits", fn := fun _ => fun
  | [d1, d2] => { results := [.lit (.bool true)], args := [d1, d2] }
  | _ => none }
def typesFitsRow : OpenClaim := { program := "ytmcechcigehjbaa", sum := "7fe3813bf3526858590278957dc130dfce4daf60a204f32d2ecdb9c0d66bf8af", func := "panicroad/panicroadlaw.TypesFits", spec := "typesFits", unfollowed := true, recurses := true, apart := false }
def TypesFitsSaid : Prop := typesFitsRow.holds Try.pinned (OpenSpec.ofChange typesFitsSpec)

/-- ITS FALSE NEIGHBOUR: 'it returns false'. Refute it at one input. -/
def typesFitsWrong : ChangeSpec := { name := "typesFits", fn := fun _ => fun
  | [d1, d2] => { results := [.lit (.bool false)], args := [d1, d2] }
  | _ => none }
def TypesFitsWrongFalsely : Prop := typesFitsRow.holds Try.pinned (OpenSpec.ofChange typesFitsWrong)

/-- 'panicroadlaw.TypesCompares': WHATEVER THE INPUT: true; the input reads as it did. -/
def typesComparesSpec : ChangeSpec := { name := "typesCompares", fn := fun _ => fun
  | [d1, d2] => { results := [.lit (.bool true)], args := [d1, d2] }
  | _ => none }
def typesComparesRow : OpenClaim := { program := "ytmcechcigehjbaa", sum := "7fe3813bf3526858590278957dc130dfce4daf60a204f32d2ecdb9c0d66bf8af", func := "panicroad/panicroadlaw.TypesCompares", spec := "typesCompares", unfollowed := true, recurses := true, apart := false }
def TypesComparesSaid : Prop := typesComparesRow.holds Try.pinned (OpenSpec.ofChange typesComparesSpec)

/-- ITS FALSE NEIGHBOUR: 'it returns false'. Refute it at one input. -/
def typesComparesWrong : ChangeSpec := { name := "typesCompares", fn := fun _ => fun
  | [d1, d2] => { results := [.lit (.bool false)], args := [d1, d2] }
  | _ => none }
def TypesComparesWrongFalsely : Prop := typesComparesRow.holds Try.pinned (OpenSpec.ofChange typesComparesWrong)

/- THE SECOND FORM. 'bulk': how many values and letters a reading holds, each counted each time it is reached (what is shared counts as often as it is met; a slice's spare places count too). A statement '..UptoSaid' is the law's where the arguments, and the package variables that the reading takes, are together of bulk at most 1048576: NARROWER than '..Said'. Prove '..Said' where nothing that the law and all that it calls make is longer than what came in: it says more and counts as full. Else prove '..UptoSaid'. A law counts once. -/
mutual
def uptoBulk {H : Type} : DataW H → Nat
  | .lit (.string bytes) => bytes.length + 1
  | .lit _ => 1
  | .nil => 1
  | .ptr d => uptoBulk d + 1
  | .slice elems spare => uptoBulkAll elems + uptoBulkAll spare + 1
  | .agg parts => uptoBulkAll parts + 1
  | .iface _ d => uptoBulk d + 1
  | .map entries => uptoBulkEntries entries + 1
  | .held _ => 1
def uptoBulkAll {H : Type} : List (DataW H) → Nat
  | [] => 0
  | d :: r => uptoBulk d + uptoBulkAll r
def uptoBulkEntries {H : Type} : List (Lit × DataW H) → Nat
  | [] => 0
  | x :: r => uptoBulkEntry x + uptoBulkEntries r
def uptoBulkEntry {H : Type} : Lit × DataW H → Nat
  | (.string bytes, d) => bytes.length + uptoBulk d + 1
  | (_, d) => uptoBulk d + 1
 end
def uptoSmall : (H : Type) → List (DataW H) → Bool := fun _ ds => decide (uptoBulkAll ds ≤ 1048576)
def OpenSpec.upto (s : _root_.Go.ChangeSpec) : _root_.Go.OpenSpec := { _root_.Go.OpenSpec.ofChange s with cond := some uptoSmall }

/-- 'panicroadlaw.TypesValid', WHERE WHAT IT READS IS OF BULK AT MOST 1048576: true; the input reads as it did. -/
def typesValidUptoRow : OpenClaim := { program := "ytmcechcigehjbaa", sum := "7fe3813bf3526858590278957dc130dfce4daf60a204f32d2ecdb9c0d66bf8af", func := "panicroad/panicroadlaw.TypesValid", spec := "typesValid", unfollowed := true, recurses := true, apart := false, narrowed := true }
def TypesValidUptoSaid : Prop := typesValidUptoRow.holds Try.pinned (OpenSpec.upto typesValidSpec)

/-- 'panicroadlaw.TypesParams', WHERE WHAT IT READS IS OF BULK AT MOST 1048576: true; the input reads as it did. -/
def typesParamsUptoRow : OpenClaim := { program := "ytmcechcigehjbaa", sum := "7fe3813bf3526858590278957dc130dfce4daf60a204f32d2ecdb9c0d66bf8af", func := "panicroad/panicroadlaw.TypesParams", spec := "typesParams", unfollowed := true, recurses := true, apart := false, narrowed := true }
def TypesParamsUptoSaid : Prop := typesParamsUptoRow.holds Try.pinned (OpenSpec.upto typesParamsSpec)

/-- 'panicroadlaw.TypesResults', WHERE WHAT IT READS IS OF BULK AT MOST 1048576: true; the input reads as it did. -/
def typesResultsUptoRow : OpenClaim := { program := "ytmcechcigehjbaa", sum := "7fe3813bf3526858590278957dc130dfce4daf60a204f32d2ecdb9c0d66bf8af", func := "panicroad/panicroadlaw.TypesResults", spec := "typesResults", unfollowed := true, recurses := true, apart := false, narrowed := true }
def TypesResultsUptoSaid : Prop := typesResultsUptoRow.holds Try.pinned (OpenSpec.upto typesResultsSpec)

/-- 'panicroadlaw.TypesFuncs', WHERE WHAT IT READS IS OF BULK AT MOST 1048576: true; the input reads as it did. -/
def typesFuncsUptoRow : OpenClaim := { program := "ytmcechcigehjbaa", sum := "7fe3813bf3526858590278957dc130dfce4daf60a204f32d2ecdb9c0d66bf8af", func := "panicroad/panicroadlaw.TypesFuncs", spec := "typesFuncs", inPlace := ["internal/abi.NoEscape", "internal/bytealg.MakeNoZero"], unfollowed := true, recurses := true, apart := false, narrowed := true }
def TypesFuncsUptoSaid : Prop := typesFuncsUptoRow.holds Try.pinned (OpenSpec.upto typesFuncsSpec)

/-- 'panicroadlaw.TypesFits', WHERE WHAT IT READS IS OF BULK AT MOST 1048576: true; the input reads as it did. -/
def typesFitsUptoRow : OpenClaim := { program := "ytmcechcigehjbaa", sum := "7fe3813bf3526858590278957dc130dfce4daf60a204f32d2ecdb9c0d66bf8af", func := "panicroad/panicroadlaw.TypesFits", spec := "typesFits", unfollowed := true, recurses := true, apart := false, narrowed := true }
def TypesFitsUptoSaid : Prop := typesFitsUptoRow.holds Try.pinned (OpenSpec.upto typesFitsSpec)

/-- 'panicroadlaw.TypesCompares', WHERE WHAT IT READS IS OF BULK AT MOST 1048576: true; the input reads as it did. -/
def typesComparesUptoRow : OpenClaim := { program := "ytmcechcigehjbaa", sum := "7fe3813bf3526858590278957dc130dfce4daf60a204f32d2ecdb9c0d66bf8af", func := "panicroad/panicroadlaw.TypesCompares", spec := "typesCompares", unfollowed := true, recurses := true, apart := false, narrowed := true }
def TypesComparesUptoSaid : Prop := typesComparesUptoRow.holds Try.pinned (OpenSpec.upto typesComparesSpec)

end Rows
end Go.Proofs.Ytmcechcigehjbaa
