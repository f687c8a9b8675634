/-
  No cell of these rows narrows 'for every input' (looked for: loops, veiled, ifaces, maps, wideKeys, modest, calm, conditions, laid).
  DERIVED. THE GIVEN ROWS OF THIS SEAT. 5 by the template 'for every input the law returns true; each argument reads behind the call as it read before'; 0 by the template 'total and deterministic' (their statements: YtmcechcigehjbabTotals.lean).
  GIVEN WITH THE SEED: the statements are not yours to turn. If you find one false, say at which input.
  Laid BY PROGRAM, IN A SANDBOX (cutbox-rows.mjs): the forced cells as the released guide's own fill.sh prints them over the translation 27808515e493e1a7… (all of the seat's roots in one cut). By AI agents, Wed Nov 11 2026. No macro, syntax, notation, axiom, sorry.
-/
import Derived.Test.YtmcechcigehjbabChecked
import GoSem.Claim
import GoSem.ClaimJoined
import GoSem.ClaimMapViews
import Derived.JoinedTies
import Derived.KernelRfl
namespace Go.Proofs.Ytmcechcigehjbab
/- THE CELL 'sum', in the pinned program and in every row, IS THE sha256 OF THE DUMP (.gsa) THAT YtmcechcigehjbabProg.lean LOADS. Nothing in Lean hashes anything: it is a label: what it is worth is what the hold of that sum in a sandbox is worth. -/
noncomputable def Try.pinned : Pinned := { name := "ytmcechcigehjbab", sum := "27808515e493e1a7b7e802bd9150d9462c8a3292e362608fc4c33d39a728d1a0", checked := Try.checked }
namespace Rows
def none {H : Type} : Left H := { results := [], args := [] }

/-- 'panicroadlaw.TypesZeros': WHATEVER THE INPUT: true; the input reads as it did. -/
def typesZerosSpec : ChangeSpec := { name := "typesZeros", fn := fun _ => fun
  | [d] => { results := [.lit (.bool true)], args := [d] }
  | _ => none }
def typesZerosRow : OpenClaim := { program := "ytmcechcigehjbab", sum := "27808515e493e1a7b7e802bd9150d9462c8a3292e362608fc4c33d39a728d1a0", func := "panicroad/panicroadlaw.TypesZeros", spec := "typesZeros", unfollowed := true, recurses := true, apart := false }
def TypesZerosSaid : Prop := typesZerosRow.holds Try.pinned (OpenSpec.ofChange typesZerosSpec)

/-- ITS FALSE NEIGHBOUR: 'it returns false'. Refute it at one input. -/
def typesZerosWrong : ChangeSpec := { name := "typesZeros", fn := fun _ => fun
  | [d] => { results := [.lit (.bool false)], args := [d] }
  | _ => none }
def TypesZerosWrongFalsely : Prop := typesZerosRow.holds Try.pinned (OpenSpec.ofChange typesZerosWrong)

/-- 'panicroadkeep.TypesMemory': WHATEVER THE INPUT: true; the input reads as it did. -/
def typesMemorySpec : ChangeSpec := { name := "typesMemory", fn := fun _ => fun
  | [d] => { results := [.lit (.bool true)], args := [d] }
  | _ => none }
def typesMemoryRow : OpenClaim := { program := "ytmcechcigehjbab", sum := "27808515e493e1a7b7e802bd9150d9462c8a3292e362608fc4c33d39a728d1a0", func := "panicroad/panicroadkeep.TypesMemory", spec := "typesMemory", unfollowed := true, recurses := true, apart := false }
def TypesMemorySaid : Prop := typesMemoryRow.holds Try.pinned (OpenSpec.ofChange typesMemorySpec)

/-- ITS FALSE NEIGHBOUR: 'it returns false'. Refute it at one input. -/
def typesMemoryWrong : ChangeSpec := { name := "typesMemory", fn := fun _ => fun
  | [d] => { results := [.lit (.bool false)], args := [d] }
  | _ => none }
def TypesMemoryWrongFalsely : Prop := typesMemoryRow.holds Try.pinned (OpenSpec.ofChange typesMemoryWrong)

/-- 'panicroadkeep.TypesBack': WHATEVER THE INPUT: true; the input reads as it did. -/
def typesBackSpec : ChangeSpec := { name := "typesBack", fn := fun _ => fun
  | [d] => { results := [.lit (.bool true)], args := [d] }
  | _ => none }
def typesBackRow : OpenClaim := { program := "ytmcechcigehjbab", sum := "27808515e493e1a7b7e802bd9150d9462c8a3292e362608fc4c33d39a728d1a0", func := "panicroad/panicroadkeep.TypesBack", spec := "typesBack", inPlace := ["internal/abi.NoEscape", "internal/bytealg.MakeNoZero"], unfollowed := true, recurses := true, apart := false }
def TypesBackSaid : Prop := typesBackRow.holds Try.pinned (OpenSpec.ofChange typesBackSpec)

/-- ITS FALSE NEIGHBOUR: 'it returns false'. Refute it at one input. -/
def typesBackWrong : ChangeSpec := { name := "typesBack", fn := fun _ => fun
  | [d] => { results := [.lit (.bool false)], args := [d] }
  | _ => none }
def TypesBackWrongFalsely : Prop := typesBackRow.holds Try.pinned (OpenSpec.ofChange typesBackWrong)

/-- 'panicroadkeep.TypesMade': WHATEVER THE INPUT: true; the input reads as it did. -/
def typesMadeSpec : ChangeSpec := { name := "typesMade", fn := fun _ => fun
  | [d1, d2] => { results := [.lit (.bool true)], args := [d1, d2] }
  | _ => none }
def typesMadeRow : OpenClaim := { program := "ytmcechcigehjbab", sum := "27808515e493e1a7b7e802bd9150d9462c8a3292e362608fc4c33d39a728d1a0", func := "panicroad/panicroadkeep.TypesMade", spec := "typesMade", inPlace := ["internal/abi.NoEscape", "internal/bytealg.MakeNoZero"], unfollowed := true, recurses := true, apart := false }
def TypesMadeSaid : Prop := typesMadeRow.holds Try.pinned (OpenSpec.ofChange typesMadeSpec)

/-- ITS FALSE NEIGHBOUR: 'it returns false'. Refute it at one input. -/
def typesMadeWrong : ChangeSpec := { name := "typesMade", fn := fun _ => fun
  | [d1, d2] => { results := [.lit (.bool false)], args := [d1, d2] }
  | _ => none }
def TypesMadeWrongFalsely : Prop := typesMadeRow.holds Try.pinned (OpenSpec.ofChange typesMadeWrong)

/-- 'panicroadkeep.TypesFitting': WHATEVER THE INPUT: true; the input reads as it did. -/
def typesFittingSpec : ChangeSpec := { name := "typesFitting", fn := fun _ => fun
  | [d1, d2] => { results := [.lit (.bool true)], args := [d1, d2] }
  | _ => none }
def typesFittingRow : OpenClaim := { program := "ytmcechcigehjbab", sum := "27808515e493e1a7b7e802bd9150d9462c8a3292e362608fc4c33d39a728d1a0", func := "panicroad/panicroadkeep.TypesFitting", spec := "typesFitting", unfollowed := true, recurses := true, apart := false }
def TypesFittingSaid : Prop := typesFittingRow.holds Try.pinned (OpenSpec.ofChange typesFittingSpec)

/-- ITS FALSE NEIGHBOUR: 'it returns false'. Refute it at one input. -/
def typesFittingWrong : ChangeSpec := { name := "typesFitting", fn := fun _ => fun
  | [d1, d2] => { results := [.lit (.bool false)], args := [d1, d2] }
  | _ => none }
def TypesFittingWrongFalsely : Prop := typesFittingRow.holds Try.pinned (OpenSpec.ofChange typesFittingWrong)

/- THE SECOND FORM. 'bulk': how many values and letters a reading holds, each counted each time it is reached (what is shared counts as often as it is met; a slice's spare places count too). A statement '..UptoSaid' is the law's where the arguments, and the package variables that the reading takes, are together of bulk at most 1048576: NARROWER than '..Said'. Prove '..Said' where nothing that the law and all that it calls make is longer than what came in: it says more and counts as full. Else prove '..UptoSaid'. A law counts once. -/
mutual
def uptoBulk {H : Type} : DataW H → Nat
  | .lit (.string bytes) => bytes.length + 1
  | .lit _ => 1
  | .nil => 1
  | .ptr d => uptoBulk d + 1
  | .slice elems spare => uptoBulkAll elems + uptoBulkAll spare + 1
  | .agg parts => uptoBulkAll parts + 1
  | .iface _ d => uptoBulk d + 1
  | .map entries => uptoBulkEntries entries + 1
  | .held _ => 1
def uptoBulkAll {H : Type} : List (DataW H) → Nat
  | [] => 0
  | d :: r => uptoBulk d + uptoBulkAll r
def uptoBulkEntries {H : Type} : List (Lit × DataW H) → Nat
  | [] => 0
  | x :: r => uptoBulkEntry x + uptoBulkEntries r
def uptoBulkEntry {H : Type} : Lit × DataW H → Nat
  | (.string bytes, d) => bytes.length + uptoBulk d + 1
  | (_, d) => uptoBulk d + 1
 end
def uptoSmall : (H : Type) → List (DataW H) → Bool := fun _ ds => decide (uptoBulkAll ds ≤ 1048576)
def OpenSpec.upto (s : _root_.Go.ChangeSpec) : _root_.Go.OpenSpec := { _root_.Go.OpenSpec.ofChange s with cond := some uptoSmall }

/-- 'panicroadlaw.TypesZeros', WHERE WHAT IT READS IS OF BULK AT MOST 1048576: true; the input reads as it did. -/
def typesZerosUptoRow : OpenClaim := { program := "ytmcechcigehjbab", sum := "27808515e493e1a7b7e802bd9150d9462c8a3292e362608fc4c33d39a728d1a0", func := "panicroad/panicroadlaw.TypesZeros", spec := "typesZeros", unfollowed := true, recurses := true, apart := false, narrowed := true }
def TypesZerosUptoSaid : Prop := typesZerosUptoRow.holds Try.pinned (OpenSpec.upto typesZerosSpec)

/-- 'panicroadkeep.TypesMemory', WHERE WHAT IT READS IS OF BULK AT MOST 1048576: true; the input reads as it did. -/
def typesMemoryUptoRow : OpenClaim := { program := "ytmcechcigehjbab", sum := "27808515e493e1a7b7e802bd9150d9462c8a3292e362608fc4c33d39a728d1a0", func := "panicroad/panicroadkeep.TypesMemory", spec := "typesMemory", unfollowed := true, recurses := true, apart := false, narrowed := true }
def TypesMemoryUptoSaid : Prop := typesMemoryUptoRow.holds Try.pinned (OpenSpec.upto typesMemorySpec)

/-- 'panicroadkeep.TypesBack', WHERE WHAT IT READS IS OF BULK AT MOST 1048576: true; the input reads as it did. -/
def typesBackUptoRow : OpenClaim := { program := "ytmcechcigehjbab", sum := "27808515e493e1a7b7e802bd9150d9462c8a3292e362608fc4c33d39a728d1a0", func := "panicroad/panicroadkeep.TypesBack", spec := "typesBack", inPlace := ["internal/abi.NoEscape", "internal/bytealg.MakeNoZero"], unfollowed := true, recurses := true, apart := false, narrowed := true }
def TypesBackUptoSaid : Prop := typesBackUptoRow.holds Try.pinned (OpenSpec.upto typesBackSpec)

/-- 'panicroadkeep.TypesMade', WHERE WHAT IT READS IS OF BULK AT MOST 1048576: true; the input reads as it did. -/
def typesMadeUptoRow : OpenClaim := { program := "ytmcechcigehjbab", sum := "27808515e493e1a7b7e802bd9150d9462c8a3292e362608fc4c33d39a728d1a0", func := "panicroad/panicroadkeep.TypesMade", spec := "typesMade", inPlace := ["internal/abi.NoEscape", "internal/bytealg.MakeNoZero"], unfollowed := true, recurses := true, apart := false, narrowed := true }
def TypesMadeUptoSaid : Prop := typesMadeUptoRow.holds Try.pinned (OpenSpec.upto typesMadeSpec)

/-- 'panicroadkeep.TypesFitting', WHERE WHAT IT READS IS OF BULK AT MOST 1048576: true; the input reads as it did. -/
def typesFittingUptoRow : OpenClaim := { program := "ytmcechcigehjbab", sum := "27808515e493e1a7b7e802bd9150d9462c8a3292e362608fc4c33d39a728d1a0", func := "panicroad/panicroadkeep.TypesFitting", spec := "typesFitting", unfollowed := true, recurses := true, apart := false, narrowed := true }
def TypesFittingUptoSaid : Prop := typesFittingUptoRow.holds Try.pinned (OpenSpec.upto typesFittingSpec)

end Rows
end Go.Proofs.Ytmcechcigehjbab
