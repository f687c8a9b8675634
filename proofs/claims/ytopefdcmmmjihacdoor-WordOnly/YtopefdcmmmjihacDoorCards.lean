/-
  DERIVED. GIVEN WITH THE SEED: THE CARDS: each row of YtopefdcmmmjihacDoorRows.lean that lists a variable, with what it lists TIED to the program's text (the seventh form; the later family's looks); each row that meets fmt, with fmt's text TOLD by the authors' own Lean function (tested against real Go, not proved from fmt's source: count such statements apart). THE CARD IS WHAT COUNTS. Prove the row's statement (the work); the ties are given (YtopefdcmmmjihacDoorTie.lean); close each card by the builder's one call (the guide's Derived/Test/ToyasCard.lean, 'card_holds'). Laid BY PROGRAM, IN A SANDBOX (cutbox-door.mjs). By AI agents, Wed Nov 11 2026. No macro, syntax, notation, axiom, sorry.
-/
import Derived.Test.YtopefdcmmmjihacDoorRows
import GoSem.ClaimSeven
namespace Go.Proofs.YtopefdcmmmjihacDoor
namespace Rows

/-- THE TIED CARD OF 'panicroadkeep.WordBack'. -/
def wordBackCard : Claim7 := { stood := { row := wordBackRow, standIns := [], harness := (true, "a6ee70389d312d0211b50f41a089e627d563854438ebbf0642918fa8e035ed36"), looks := true }, kinds := [], alts := [], laidByText := true, laidKinds := [.data, .data, .data, .sentinel, .sentinel], laidTests := true, laidLooks := .later }
def WordBackCardSaid : Prop := Claim7.holds Tryd.pinned (.plain (OpenSpec.ofChange wordBackSpec)) wordBackCard

/-- THE TIED CARD OF 'panicroadkeep.WordOnly'. -/
def wordOnlyCard : Claim7 := { stood := { row := wordOnlyRow, standIns := [], harness := (true, "a6ee70389d312d0211b50f41a089e627d563854438ebbf0642918fa8e035ed36"), looks := true }, kinds := [], alts := [], laidByText := true, laidKinds := [.data, .data, .data, .sentinel, .sentinel], laidTests := true, laidLooks := .later }
def WordOnlyCardSaid : Prop := Claim7.holds Tryd.pinned (.plain (OpenSpec.ofChange wordOnlySpec)) wordOnlyCard

/-- THE TIED CARD OF 'panicroadkeep.WordSignBack'. -/
def wordSignBackCard : Claim7 := { stood := { row := wordSignBackRow, standIns := [], harness := (true, "a6ee70389d312d0211b50f41a089e627d563854438ebbf0642918fa8e035ed36"), looks := true }, kinds := [], alts := [], laidByText := true, laidKinds := [.data], laidTests := true, laidLooks := .later }
def WordSignBackCardSaid : Prop := Claim7.holds Tryd.pinned (.plain (OpenSpec.ofChange wordSignBackSpec)) wordSignBackCard

/-- THE SECOND FORM's CARD OF 'panicroadkeep.WordBack'. -/
def wordBackUptoCard : Claim7 := { stood := { row := wordBackUptoRow, standIns := [], harness := (true, "a6ee70389d312d0211b50f41a089e627d563854438ebbf0642918fa8e035ed36"), looks := true }, kinds := [], alts := [], laidByText := true, laidKinds := [.data, .data, .data, .sentinel, .sentinel], laidTests := true, laidLooks := .later }
def WordBackUptoCardSaid : Prop := Claim7.holds Tryd.pinned (.plain (OpenSpec.upto wordBackSpec)) wordBackUptoCard

/-- THE SECOND FORM's CARD OF 'panicroadkeep.WordOnly'. -/
def wordOnlyUptoCard : Claim7 := { stood := { row := wordOnlyUptoRow, standIns := [], harness := (true, "a6ee70389d312d0211b50f41a089e627d563854438ebbf0642918fa8e035ed36"), looks := true }, kinds := [], alts := [], laidByText := true, laidKinds := [.data, .data, .data, .sentinel, .sentinel], laidTests := true, laidLooks := .later }
def WordOnlyUptoCardSaid : Prop := Claim7.holds Tryd.pinned (.plain (OpenSpec.upto wordOnlySpec)) wordOnlyUptoCard

/-- THE SECOND FORM's CARD OF 'panicroadkeep.WordSignBack'. -/
def wordSignBackUptoCard : Claim7 := { stood := { row := wordSignBackUptoRow, standIns := [], harness := (true, "a6ee70389d312d0211b50f41a089e627d563854438ebbf0642918fa8e035ed36"), looks := true }, kinds := [], alts := [], laidByText := true, laidKinds := [.data], laidTests := true, laidLooks := .later }
def WordSignBackUptoCardSaid : Prop := Claim7.holds Tryd.pinned (.plain (OpenSpec.upto wordSignBackSpec)) wordSignBackUptoCard
end Rows
end Go.Proofs.YtopefdcmmmjihacDoor
