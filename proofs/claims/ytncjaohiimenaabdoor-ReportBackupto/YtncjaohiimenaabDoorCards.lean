/-
  DERIVED. GIVEN WITH THE SEED: THE CARDS: each row of YtncjaohiimenaabDoorRows.lean that lists a variable, with what it lists TIED to the program's text (the seventh form; the later family's looks); each row that meets fmt, with fmt's text TOLD by the authors' own Lean function (tested against real Go, not proved from fmt's source: count such statements apart). THE CARD IS WHAT COUNTS. Prove the row's statement (the work); the ties are given (YtncjaohiimenaabDoorTie.lean); close each card by the builder's one call (the guide's Derived/Test/ToyasCard.lean, 'card_holds'). Laid BY PROGRAM, IN A SANDBOX (cutbox-door.mjs). By AI agents, Wed Nov 11 2026. No macro, syntax, notation, axiom, sorry.
-/
import Derived.Test.YtncjaohiimenaabDoorRows
import GoSem.ClaimSeven
namespace Go.Proofs.YtncjaohiimenaabDoor
namespace Rows

/-- THE TIED CARD OF 'panicroadkeep.ReportBack'. -/
def reportBackCard : Claim7 := { stood := { row := reportBackRow, standIns := [], harness := (true, "3799288223583857e5f7a5f6ecbd24d808eec6f2824ebd64d47a5a4d19c93bce"), looks := true }, kinds := [], alts := [], laidByText := true, laidKinds := [.data, .data, .data, .sentinel, .sentinel], laidTests := true, laidLooks := .later }
def ReportBackCardSaid : Prop := Claim7.holds Tryd.pinned (.plain (OpenSpec.ofChange reportBackSpec)) reportBackCard

/-- THE TIED CARD OF 'panicroadkeep.ReportRows'. -/
def reportRowsCard : Claim7 := { stood := { row := reportRowsRow, standIns := [], harness := (true, "3799288223583857e5f7a5f6ecbd24d808eec6f2824ebd64d47a5a4d19c93bce"), looks := true }, kinds := [], alts := [], laidByText := true, laidKinds := [.data, .data, .data], laidTests := true, laidLooks := .later }
def ReportRowsCardSaid : Prop := Claim7.holds Tryd.pinned (.plain (OpenSpec.ofChange reportRowsSpec)) reportRowsCard

/-- THE TIED CARD OF 'panicroadkeep.ReportStatus'. -/
def reportStatusCard : Claim7 := { stood := { row := reportStatusRow, standIns := [], harness := (true, "3799288223583857e5f7a5f6ecbd24d808eec6f2824ebd64d47a5a4d19c93bce"), looks := true }, kinds := [], alts := [], laidByText := true, laidKinds := [.data], laidTests := true, laidLooks := .later }
def ReportStatusCardSaid : Prop := Claim7.holds Tryd.pinned (.plain (OpenSpec.ofChange reportStatusSpec)) reportStatusCard

/-- THE SECOND FORM's CARD OF 'panicroadkeep.ReportBack'. -/
def reportBackUptoCard : Claim7 := { stood := { row := reportBackUptoRow, standIns := [], harness := (true, "3799288223583857e5f7a5f6ecbd24d808eec6f2824ebd64d47a5a4d19c93bce"), looks := true }, kinds := [], alts := [], laidByText := true, laidKinds := [.data, .data, .data, .sentinel, .sentinel], laidTests := true, laidLooks := .later }
def ReportBackUptoCardSaid : Prop := Claim7.holds Tryd.pinned (.plain (OpenSpec.upto reportBackSpec)) reportBackUptoCard

/-- THE SECOND FORM's CARD OF 'panicroadkeep.ReportRows'. -/
def reportRowsUptoCard : Claim7 := { stood := { row := reportRowsUptoRow, standIns := [], harness := (true, "3799288223583857e5f7a5f6ecbd24d808eec6f2824ebd64d47a5a4d19c93bce"), looks := true }, kinds := [], alts := [], laidByText := true, laidKinds := [.data, .data, .data], laidTests := true, laidLooks := .later }
def ReportRowsUptoCardSaid : Prop := Claim7.holds Tryd.pinned (.plain (OpenSpec.upto reportRowsSpec)) reportRowsUptoCard

/-- THE SECOND FORM's CARD OF 'panicroadkeep.ReportStatus'. -/
def reportStatusUptoCard : Claim7 := { stood := { row := reportStatusUptoRow, standIns := [], harness := (true, "3799288223583857e5f7a5f6ecbd24d808eec6f2824ebd64d47a5a4d19c93bce"), looks := true }, kinds := [], alts := [], laidByText := true, laidKinds := [.data], laidTests := true, laidLooks := .later }
def ReportStatusUptoCardSaid : Prop := Claim7.holds Tryd.pinned (.plain (OpenSpec.upto reportStatusSpec)) reportStatusUptoCard
end Rows
end Go.Proofs.YtncjaohiimenaabDoor
