/-
  DERIVED. GIVEN WITH THE SEED: THE CARDS: each row of YtljdfaoplenloaaDoorRows.lean that lists a variable, with what it lists TIED to the program's text (the seventh form; the later family's looks); each row that meets fmt, with fmt's text TOLD by the authors' own Lean function (tested against real Go, not proved from fmt's source: count such statements apart). THE CARD IS WHAT COUNTS. Prove the row's statement (the work); the ties are given (YtljdfaoplenloaaDoorTie.lean); close each card by the builder's one call (the guide's Derived/Test/ToyasCard.lean, 'card_holds'). Laid BY PROGRAM, IN A SANDBOX (cutbox-door.mjs). By AI agents, Wed Nov 11 2026. No macro, syntax, notation, axiom, sorry.
-/
import Derived.Test.YtljdfaoplenloaaDoorRows
import GoSem.ClaimSeven
namespace Go.Proofs.YtljdfaoplenloaaDoor
namespace Rows

/-- THE TIED CARD OF 'panicroadlaw.ScanTokens'. -/
def scanTokensCard : Claim7 := { stood := { row := scanTokensRow, standIns := [], harness := (true, "7235549c68a2a6f0050d75cea952ae80e240373231d90235a4cb22ba93f5f9fe"), looks := true }, kinds := [], alts := [], laidByText := true, laidKinds := [.data, .data, .data, .sentinel, .sentinel], laidTests := true, laidLooks := .later }
def ScanTokensCardSaid : Prop := Claim7.holds Tryd.pinned (.plain (OpenSpec.ofChange scanTokensSpec)) scanTokensCard

/-- THE TIED CARD OF 'panicroadlaw.ScanShows'. -/
def scanShowsCard : Claim7 := { stood := { row := scanShowsRow, standIns := [], harness := (true, "7235549c68a2a6f0050d75cea952ae80e240373231d90235a4cb22ba93f5f9fe"), looks := true }, kinds := [], alts := [], laidByText := true, laidKinds := [.data, .data, .data, .sentinel, .sentinel], laidTests := true, laidLooks := .later }
def ScanShowsCardSaid : Prop := Claim7.holds Tryd.pinned (.plain (OpenSpec.ofChange scanShowsSpec)) scanShowsCard

/-- THE TIED CARD OF 'panicroadkeep.ScanMemory'. -/
def scanMemoryCard : Claim7 := { stood := { row := scanMemoryRow, standIns := [], harness := (true, "7235549c68a2a6f0050d75cea952ae80e240373231d90235a4cb22ba93f5f9fe"), looks := true }, kinds := [], alts := [], laidByText := true, laidKinds := [.data, .data, .data, .sentinel, .sentinel], laidTests := true, laidLooks := .later }
def ScanMemoryCardSaid : Prop := Claim7.holds Tryd.pinned (.plain (OpenSpec.ofChange scanMemorySpec)) scanMemoryCard

/-- THE SECOND FORM's CARD OF 'panicroadlaw.ScanTokens'. -/
def scanTokensUptoCard : Claim7 := { stood := { row := scanTokensUptoRow, standIns := [], harness := (true, "7235549c68a2a6f0050d75cea952ae80e240373231d90235a4cb22ba93f5f9fe"), looks := true }, kinds := [], alts := [], laidByText := true, laidKinds := [.data, .data, .data, .sentinel, .sentinel], laidTests := true, laidLooks := .later }
def ScanTokensUptoCardSaid : Prop := Claim7.holds Tryd.pinned (.plain (OpenSpec.upto scanTokensSpec)) scanTokensUptoCard

/-- THE SECOND FORM's CARD OF 'panicroadlaw.ScanShows'. -/
def scanShowsUptoCard : Claim7 := { stood := { row := scanShowsUptoRow, standIns := [], harness := (true, "7235549c68a2a6f0050d75cea952ae80e240373231d90235a4cb22ba93f5f9fe"), looks := true }, kinds := [], alts := [], laidByText := true, laidKinds := [.data, .data, .data, .sentinel, .sentinel], laidTests := true, laidLooks := .later }
def ScanShowsUptoCardSaid : Prop := Claim7.holds Tryd.pinned (.plain (OpenSpec.upto scanShowsSpec)) scanShowsUptoCard

/-- THE SECOND FORM's CARD OF 'panicroadkeep.ScanMemory'. -/
def scanMemoryUptoCard : Claim7 := { stood := { row := scanMemoryUptoRow, standIns := [], harness := (true, "7235549c68a2a6f0050d75cea952ae80e240373231d90235a4cb22ba93f5f9fe"), looks := true }, kinds := [], alts := [], laidByText := true, laidKinds := [.data, .data, .data, .sentinel, .sentinel], laidTests := true, laidLooks := .later }
def ScanMemoryUptoCardSaid : Prop := Claim7.holds Tryd.pinned (.plain (OpenSpec.upto scanMemorySpec)) scanMemoryUptoCard
end Rows
end Go.Proofs.YtljdfaoplenloaaDoor
