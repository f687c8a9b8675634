/-
  No cell of these rows narrows 'for every input' (looked for: loops, veiled, ifaces, maps, wideKeys, modest, calm, conditions, laid).
  DERIVED. THE GIVEN ROWS OF THIS SEAT. 5 by the template 'for every input the law returns true; each argument reads behind the call as it read before'; 0 by the template 'total and deterministic' (their statements: YtiaoidbhdkldlabTotals.lean).
  GIVEN WITH THE SEED: the statements are not yours to turn. If you find one false, say at which input.
  Laid BY PROGRAM, IN A SANDBOX (cutbox-rows.mjs): the forced cells as the released guide's own fill.sh prints them over the translation b6642c121eab41f0… (all of the seat's roots in one cut). By AI agents, Wed Nov 11 2026. No macro, syntax, notation, axiom, sorry.
-/
import Derived.Test.YtiaoidbhdkldlabChecked
import GoSem.Claim
import GoSem.ClaimJoined
import GoSem.ClaimMapViews
import Derived.JoinedTies
import Derived.KernelRfl
namespace Go.Proofs.Ytiaoidbhdkldlab
/- THE CELL 'sum', in the pinned program and in every row, IS THE sha256 OF THE DUMP (.gsa) THAT YtiaoidbhdkldlabProg.lean LOADS. Nothing in Lean hashes anything: it is a label: what it is worth is what the hold of that sum in a sandbox is worth. -/
noncomputable def Try.pinned : Pinned := { name := "ytiaoidbhdkldlab", sum := "b6642c121eab41f0e9fd5c5fff8b4a50dbc75fb13a4d5d374ea1631bca95c1da", checked := Try.checked }
namespace Rows
def none {H : Type} : Left H := { results := [], args := [] }

/-- 'panicroadkeep.DefersMemory': WHATEVER THE INPUT: true; the input reads as it did. -/
def defersMemorySpec : ChangeSpec := { name := "defersMemory", fn := fun _ => fun
  | [d1, d2] => { results := [.lit (.bool true)], args := [d1, d2] }
  | _ => none }
def defersMemoryRow : OpenClaim := { program := "ytiaoidbhdkldlab", sum := "b6642c121eab41f0e9fd5c5fff8b4a50dbc75fb13a4d5d374ea1631bca95c1da", func := "panicroad/panicroadkeep.DefersMemory", spec := "defersMemory", apart := false }
def DefersMemorySaid : Prop := defersMemoryRow.holds Try.pinned (OpenSpec.ofChange defersMemorySpec)

/-- ITS FALSE NEIGHBOUR: 'it returns false'. Refute it at one input. -/
def defersMemoryWrong : ChangeSpec := { name := "defersMemory", fn := fun _ => fun
  | [d1, d2] => { results := [.lit (.bool false)], args := [d1, d2] }
  | _ => none }
def DefersMemoryWrongFalsely : Prop := defersMemoryRow.holds Try.pinned (OpenSpec.ofChange defersMemoryWrong)

/-- 'panicroadkeep.DefersStack': WHATEVER THE INPUT: true; the input reads as it did. -/
def defersStackSpec : ChangeSpec := { name := "defersStack", fn := fun _ => fun
  | [d1, d2] => { results := [.lit (.bool true)], args := [d1, d2] }
  | _ => none }
def defersStackRow : OpenClaim := { program := "ytiaoidbhdkldlab", sum := "b6642c121eab41f0e9fd5c5fff8b4a50dbc75fb13a4d5d374ea1631bca95c1da", func := "panicroad/panicroadkeep.DefersStack", spec := "defersStack", apart := false }
def DefersStackSaid : Prop := defersStackRow.holds Try.pinned (OpenSpec.ofChange defersStackSpec)

/-- ITS FALSE NEIGHBOUR: 'it returns false'. Refute it at one input. -/
def defersStackWrong : ChangeSpec := { name := "defersStack", fn := fun _ => fun
  | [d1, d2] => { results := [.lit (.bool false)], args := [d1, d2] }
  | _ => none }
def DefersStackWrongFalsely : Prop := defersStackRow.holds Try.pinned (OpenSpec.ofChange defersStackWrong)

/-- 'panicroadkeep.DefersTwice': WHATEVER THE INPUT: true; the input reads as it did. -/
def defersTwiceSpec : ChangeSpec := { name := "defersTwice", fn := fun _ => fun
  | [d] => { results := [.lit (.bool true)], args := [d] }
  | _ => none }
def defersTwiceRow : OpenClaim := { program := "ytiaoidbhdkldlab", sum := "b6642c121eab41f0e9fd5c5fff8b4a50dbc75fb13a4d5d374ea1631bca95c1da", func := "panicroad/panicroadkeep.DefersTwice", spec := "defersTwice", apart := false }
def DefersTwiceSaid : Prop := defersTwiceRow.holds Try.pinned (OpenSpec.ofChange defersTwiceSpec)

/-- ITS FALSE NEIGHBOUR: 'it returns false'. Refute it at one input. -/
def defersTwiceWrong : ChangeSpec := { name := "defersTwice", fn := fun _ => fun
  | [d] => { results := [.lit (.bool false)], args := [d] }
  | _ => none }
def DefersTwiceWrongFalsely : Prop := defersTwiceRow.holds Try.pinned (OpenSpec.ofChange defersTwiceWrong)

/-- 'panicroadkeep.DefersSame': WHATEVER THE INPUT: true; the input reads as it did. -/
def defersSameSpec : ChangeSpec := { name := "defersSame", fn := fun _ => fun
  | [d] => { results := [.lit (.bool true)], args := [d] }
  | _ => none }
def defersSameRow : OpenClaim := { program := "ytiaoidbhdkldlab", sum := "b6642c121eab41f0e9fd5c5fff8b4a50dbc75fb13a4d5d374ea1631bca95c1da", func := "panicroad/panicroadkeep.DefersSame", spec := "defersSame", apart := false }
def DefersSameSaid : Prop := defersSameRow.holds Try.pinned (OpenSpec.ofChange defersSameSpec)

/-- ITS FALSE NEIGHBOUR: 'it returns false'. Refute it at one input. -/
def defersSameWrong : ChangeSpec := { name := "defersSame", fn := fun _ => fun
  | [d] => { results := [.lit (.bool false)], args := [d] }
  | _ => none }
def DefersSameWrongFalsely : Prop := defersSameRow.holds Try.pinned (OpenSpec.ofChange defersSameWrong)

/-- 'panicroadkeep.DefersBits': WHATEVER THE INPUT: true; the input reads as it did. -/
def defersBitsSpec : ChangeSpec := { name := "defersBits", fn := fun _ => fun
  | [d1, d2] => { results := [.lit (.bool true)], args := [d1, d2] }
  | _ => none }
def defersBitsRow : OpenClaim := { program := "ytiaoidbhdkldlab", sum := "b6642c121eab41f0e9fd5c5fff8b4a50dbc75fb13a4d5d374ea1631bca95c1da", func := "panicroad/panicroadkeep.DefersBits", spec := "defersBits", apart := false }
def DefersBitsSaid : Prop := defersBitsRow.holds Try.pinned (OpenSpec.ofChange defersBitsSpec)

/-- ITS FALSE NEIGHBOUR: 'it returns false'. Refute it at one input. -/
def defersBitsWrong : ChangeSpec := { name := "defersBits", fn := fun _ => fun
  | [d1, d2] => { results := [.lit (.bool false)], args := [d1, d2] }
  | _ => none }
def DefersBitsWrongFalsely : Prop := defersBitsRow.holds Try.pinned (OpenSpec.ofChange defersBitsWrong)

/- THE SECOND FORM. 'bulk': how many values and letters a reading holds, each counted each time it is reached (what is shared counts as often as it is met; a slice's spare places count too). A statement '..UptoSaid' is the law's where the arguments, and the package variables that the reading takes, are together of bulk at most 1048576: NARROWER than '..Said'. Prove '..Said' where nothing that the law and all that it calls make is longer than what came in: it says more and counts as full. Else prove '..UptoSaid'. A law counts once. -/
mutual
def uptoBulk {H : Type} : DataW H → Nat
  | .lit (.string bytes) => bytes.length + 1
  | .lit _ => 1
  | .nil => 1
  | .ptr d => uptoBulk d + 1
  | .slice elems spare => uptoBulkAll elems + uptoBulkAll spare + 1
  | .agg parts => uptoBulkAll parts + 1
  | .iface _ d => uptoBulk d + 1
  | .map entries => uptoBulkEntries entries + 1
  | .held _ => 1
def uptoBulkAll {H : Type} : List (DataW H) → Nat
  | [] => 0
  | d :: r => uptoBulk d + uptoBulkAll r
def uptoBulkEntries {H : Type} : List (Lit × DataW H) → Nat
  | [] => 0
  | x :: r => uptoBulkEntry x + uptoBulkEntries r
def uptoBulkEntry {H : Type} : Lit × DataW H → Nat
  | (.string bytes, d) => bytes.length + uptoBulk d + 1
  | (_, d) => uptoBulk d + 1
 end
def uptoSmall : (H : Type) → List (DataW H) → Bool := fun _ ds => decide (uptoBulkAll ds ≤ 1048576)
def OpenSpec.upto (s : _root_.Go.ChangeSpec) : _root_.Go.OpenSpec := { _root_.Go.OpenSpec.ofChange s with cond := some uptoSmall }

/-- 'panicroadkeep.DefersMemory', WHERE WHAT IT READS IS OF BULK AT MOST 1048576: true; the input reads as it did. -/
def defersMemoryUptoRow : OpenClaim := { program := "ytiaoidbhdkldlab", sum := "b6642c121eab41f0e9fd5c5fff8b4a50dbc75fb13a4d5d374ea1631bca95c1da", func := "panicroad/panicroadkeep.DefersMemory", spec := "defersMemory", apart := false, narrowed := true }
def DefersMemoryUptoSaid : Prop := defersMemoryUptoRow.holds Try.pinned (OpenSpec.upto defersMemorySpec)

/-- 'panicroadkeep.DefersStack', WHERE WHAT IT READS IS OF BULK AT MOST 1048576: true; the input reads as it did. -/
def defersStackUptoRow : OpenClaim := { program := "ytiaoidbhdkldlab", sum := "b6642c121eab41f0e9fd5c5fff8b4a50dbc75fb13a4d5d374ea1631bca95c1da", func := "panicroad/panicroadkeep.DefersStack", spec := "defersStack", apart := false, narrowed := true }
def DefersStackUptoSaid : Prop := defersStackUptoRow.holds Try.pinned (OpenSpec.upto defersStackSpec)

/-- 'panicroadkeep.DefersTwice', WHERE WHAT IT READS IS OF BULK AT MOST 1048576: true; the input reads as it did. -/
def defersTwiceUptoRow : OpenClaim := { program := "ytiaoidbhdkldlab", sum := "b6642c121eab41f0e9fd5c5fff8b4a50dbc75fb13a4d5d374ea1631bca95c1da", func := "panicroad/panicroadkeep.DefersTwice", spec := "defersTwice", apart := false, narrowed := true }
def DefersTwiceUptoSaid : Prop := defersTwiceUptoRow.holds Try.pinned (OpenSpec.upto defersTwiceSpec)

/-- 'panicroadkeep.DefersSame', WHERE WHAT IT READS IS OF BULK AT MOST 1048576: true; the input reads as it did. -/
def defersSameUptoRow : OpenClaim := { program := "ytiaoidbhdkldlab", sum := "b6642c121eab41f0e9fd5c5fff8b4a50dbc75fb13a4d5d374ea1631bca95c1da", func := "panicroad/panicroadkeep.DefersSame", spec := "defersSame", apart := false, narrowed := true }
def DefersSameUptoSaid : Prop := defersSameUptoRow.holds Try.pinned (OpenSpec.upto defersSameSpec)

/-- 'panicroadkeep.DefersBits', WHERE WHAT IT READS IS OF BULK AT MOST 1048576: true; the input reads as it did. -/
def defersBitsUptoRow : OpenClaim := { program := "ytiaoidbhdkldlab", sum := "b6642c121eab41f0e9fd5c5fff8b4a50dbc75fb13a4d5d374ea1631bca95c1da", func := "panicroad/panicroadkeep.DefersBits", spec := "defersBits", apart := false, narrowed := true }
def DefersBitsUptoSaid : Prop := defersBitsUptoRow.holds Try.pinned (OpenSpec.upto defersBitsSpec)

end Rows
end Go.Proofs.Ytiaoidbhdkldlab
