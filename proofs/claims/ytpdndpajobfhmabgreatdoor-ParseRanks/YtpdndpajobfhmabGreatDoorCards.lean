/-
  DERIVED. GIVEN WITH THE SEED: THE CARDS: each row of YtpdndpajobfhmabGreatDoorRows.lean that lists a variable, with what it lists TIED to the program's text (the seventh form; the later family's looks); each row that meets fmt, with fmt's text TOLD by the authors' own Lean function (tested against real Go, not proved from fmt's source: count such statements apart). THE CARD IS WHAT COUNTS. Prove the row's statement (the work); the ties are given (YtpdndpajobfhmabGreatDoorTie.lean); close each card by the builder's one call (the guide's Derived/Test/ToyasCard.lean, 'card_holds'). Laid BY PROGRAM, IN A SANDBOX (cutbox-door.mjs). By AI agents, Wed Nov 11 2026. No macro, syntax, notation, axiom, sorry.
-/
import Derived.Test.YtpdndpajobfhmabGreatDoorRows
import GoSem.ClaimSeven
namespace Go.Proofs.YtpdndpajobfhmabGreatDoor
namespace Rows

/-- THE TIED CARD OF 'panicroadkeep.ParseWell'. -/
def parseWellCard : Claim7 := { stood := { row := parseWellRow, standIns := [], harness := (true, "844c81e370ff758b130e4a105e1cd3f9268f4484c61c7263691ea1928c76bc95"), looks := true }, kinds := [], alts := [], laidByText := true, laidKinds := [.data, .data, .data, .data, .sentinel, .sentinel, .pinned], laidTests := true, laidLooks := .later }
def ParseWellCardSaid : Prop := Claim7.holds Tryz.pinned (.plain (OpenSpec.ofChange parseWellSpec)) parseWellCard

/-- THE TIED CARD OF 'panicroadkeep.ParseWraps'. -/
def parseWrapsCard : Claim7 := { stood := { row := parseWrapsRow, standIns := [], harness := (true, "844c81e370ff758b130e4a105e1cd3f9268f4484c61c7263691ea1928c76bc95"), looks := true }, kinds := [], alts := [], laidByText := true, laidKinds := [.data, .data, .data, .sentinel, .sentinel], laidTests := true, laidLooks := .later }
def ParseWrapsCardSaid : Prop := Claim7.holds Tryz.pinned (.plain (OpenSpec.ofChange parseWrapsSpec)) parseWrapsCard

/-- THE TIED CARD OF 'panicroadkeep.ParseRanks'. -/
def parseRanksCard : Claim7 := { stood := { row := parseRanksRow, standIns := [], harness := (true, "844c81e370ff758b130e4a105e1cd3f9268f4484c61c7263691ea1928c76bc95"), looks := true }, kinds := [], alts := [], laidByText := true, laidKinds := [.data, .data, .data, .sentinel, .sentinel, .data], laidTests := true, laidLooks := .later }
def ParseRanksCardSaid : Prop := Claim7.holds Tryz.pinned (.plain (OpenSpec.ofChange parseRanksSpec)) parseRanksCard

/-- THE SECOND FORM's CARD OF 'panicroadkeep.ParseWell'. -/
def parseWellUptoCard : Claim7 := { stood := { row := parseWellUptoRow, standIns := [], harness := (true, "844c81e370ff758b130e4a105e1cd3f9268f4484c61c7263691ea1928c76bc95"), looks := true }, kinds := [], alts := [], laidByText := true, laidKinds := [.data, .data, .data, .data, .sentinel, .sentinel, .pinned], laidTests := true, laidLooks := .later }
def ParseWellUptoCardSaid : Prop := Claim7.holds Tryz.pinned (.plain (OpenSpec.upto parseWellSpec)) parseWellUptoCard

/-- THE SECOND FORM's CARD OF 'panicroadkeep.ParseWraps'. -/
def parseWrapsUptoCard : Claim7 := { stood := { row := parseWrapsUptoRow, standIns := [], harness := (true, "844c81e370ff758b130e4a105e1cd3f9268f4484c61c7263691ea1928c76bc95"), looks := true }, kinds := [], alts := [], laidByText := true, laidKinds := [.data, .data, .data, .sentinel, .sentinel], laidTests := true, laidLooks := .later }
def ParseWrapsUptoCardSaid : Prop := Claim7.holds Tryz.pinned (.plain (OpenSpec.upto parseWrapsSpec)) parseWrapsUptoCard

/-- THE SECOND FORM's CARD OF 'panicroadkeep.ParseRanks'. -/
def parseRanksUptoCard : Claim7 := { stood := { row := parseRanksUptoRow, standIns := [], harness := (true, "844c81e370ff758b130e4a105e1cd3f9268f4484c61c7263691ea1928c76bc95"), looks := true }, kinds := [], alts := [], laidByText := true, laidKinds := [.data, .data, .data, .sentinel, .sentinel, .data], laidTests := true, laidLooks := .later }
def ParseRanksUptoCardSaid : Prop := Claim7.holds Tryz.pinned (.plain (OpenSpec.upto parseRanksSpec)) parseRanksUptoCard
end Rows
end Go.Proofs.YtpdndpajobfhmabGreatDoor
