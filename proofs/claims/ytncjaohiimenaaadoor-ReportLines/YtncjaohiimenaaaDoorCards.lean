/-
  DERIVED. GIVEN WITH THE SEED: THE CARDS: each row of YtncjaohiimenaaaDoorRows.lean that lists a variable, with what it lists TIED to the program's text (the seventh form; the later family's looks); each row that meets fmt, with fmt's text TOLD by the authors' own Lean function (tested against real Go, not proved from fmt's source: count such statements apart). THE CARD IS WHAT COUNTS. Prove the row's statement (the work); the ties are given (YtncjaohiimenaaaDoorTie.lean); close each card by the builder's one call (the guide's Derived/Test/ToyasCard.lean, 'card_holds'). Laid BY PROGRAM, IN A SANDBOX (cutbox-door.mjs). By AI agents, Wed Nov 11 2026. No macro, syntax, notation, axiom, sorry.
-/
import Derived.Test.YtncjaohiimenaaaDoorRows
import GoSem.ClaimSeven
namespace Go.Proofs.YtncjaohiimenaaaDoor
namespace Rows

/-- THE TIED CARD OF 'panicroadlaw.ReportTexts'. -/
def reportTextsCard : Claim7 := { stood := { row := reportTextsRow, standIns := [], harness := (true, "0a57898fb46f62f8219d3c775ce2395e9cc8d5fb059d123a8f85c28529a1f7d8"), looks := false }, kinds := [], alts := [], laidByText := true, laidKinds := [.data, .data, .data], laidTests := true, laidLooks := .later }
def ReportTextsCardSaid : Prop := Claim7.holds Tryd.pinned (.plain (OpenSpec.ofChange reportTextsSpec)) reportTextsCard

/-- THE TIED CARD OF 'panicroadlaw.ReportCrashes'. -/
def reportCrashesCard : Claim7 := { stood := { row := reportCrashesRow, standIns := [], harness := (true, "0a57898fb46f62f8219d3c775ce2395e9cc8d5fb059d123a8f85c28529a1f7d8"), looks := false }, kinds := [], alts := [], laidByText := true, laidKinds := [.data, .data, .data], laidTests := true, laidLooks := .later }
def ReportCrashesCardSaid : Prop := Claim7.holds Tryd.pinned (.plain (OpenSpec.ofChange reportCrashesSpec)) reportCrashesCard

/-- THE TIED CARD OF 'panicroadlaw.ReportEnds'. -/
def reportEndsCard : Claim7 := { stood := { row := reportEndsRow, standIns := [], harness := (true, "0a57898fb46f62f8219d3c775ce2395e9cc8d5fb059d123a8f85c28529a1f7d8"), looks := false }, kinds := [], alts := [], laidByText := true, laidKinds := [.data], laidTests := true, laidLooks := .later }
def ReportEndsCardSaid : Prop := Claim7.holds Tryd.pinned (.plain (OpenSpec.ofChange reportEndsSpec)) reportEndsCard

/-- THE TIED CARD OF 'panicroadlaw.ReportLines'. -/
def reportLinesCard : Claim7 := { stood := { row := reportLinesRow, standIns := [], harness := (true, "0a57898fb46f62f8219d3c775ce2395e9cc8d5fb059d123a8f85c28529a1f7d8"), looks := false }, kinds := [], alts := [], laidByText := true, laidKinds := [.data, .data, .data, .data], laidTests := true, laidLooks := .later }
def ReportLinesCardSaid : Prop := Claim7.holds Tryd.pinned (.plain (OpenSpec.ofChange reportLinesSpec)) reportLinesCard

/-- THE TIED CARD OF 'panicroadlaw.ReportValues'. -/
def reportValuesCard : Claim7 := { stood := { row := reportValuesRow, standIns := [], harness := (true, "0a57898fb46f62f8219d3c775ce2395e9cc8d5fb059d123a8f85c28529a1f7d8"), looks := false }, kinds := [], alts := [], laidByText := true, laidKinds := [.data, .data, .data], laidTests := true, laidLooks := .later }
def ReportValuesCardSaid : Prop := Claim7.holds Tryd.pinned (.plain (OpenSpec.ofChange reportValuesSpec)) reportValuesCard

/-- THE SECOND FORM's CARD OF 'panicroadlaw.ReportTexts'. -/
def reportTextsUptoCard : Claim7 := { stood := { row := reportTextsUptoRow, standIns := [], harness := (true, "0a57898fb46f62f8219d3c775ce2395e9cc8d5fb059d123a8f85c28529a1f7d8"), looks := false }, kinds := [], alts := [], laidByText := true, laidKinds := [.data, .data, .data], laidTests := true, laidLooks := .later }
def ReportTextsUptoCardSaid : Prop := Claim7.holds Tryd.pinned (.plain (OpenSpec.upto reportTextsSpec)) reportTextsUptoCard

/-- THE SECOND FORM's CARD OF 'panicroadlaw.ReportCrashes'. -/
def reportCrashesUptoCard : Claim7 := { stood := { row := reportCrashesUptoRow, standIns := [], harness := (true, "0a57898fb46f62f8219d3c775ce2395e9cc8d5fb059d123a8f85c28529a1f7d8"), looks := false }, kinds := [], alts := [], laidByText := true, laidKinds := [.data, .data, .data], laidTests := true, laidLooks := .later }
def ReportCrashesUptoCardSaid : Prop := Claim7.holds Tryd.pinned (.plain (OpenSpec.upto reportCrashesSpec)) reportCrashesUptoCard

/-- THE SECOND FORM's CARD OF 'panicroadlaw.ReportEnds'. -/
def reportEndsUptoCard : Claim7 := { stood := { row := reportEndsUptoRow, standIns := [], harness := (true, "0a57898fb46f62f8219d3c775ce2395e9cc8d5fb059d123a8f85c28529a1f7d8"), looks := false }, kinds := [], alts := [], laidByText := true, laidKinds := [.data], laidTests := true, laidLooks := .later }
def ReportEndsUptoCardSaid : Prop := Claim7.holds Tryd.pinned (.plain (OpenSpec.upto reportEndsSpec)) reportEndsUptoCard

/-- THE SECOND FORM's CARD OF 'panicroadlaw.ReportLines'. -/
def reportLinesUptoCard : Claim7 := { stood := { row := reportLinesUptoRow, standIns := [], harness := (true, "0a57898fb46f62f8219d3c775ce2395e9cc8d5fb059d123a8f85c28529a1f7d8"), looks := false }, kinds := [], alts := [], laidByText := true, laidKinds := [.data, .data, .data, .data], laidTests := true, laidLooks := .later }
def ReportLinesUptoCardSaid : Prop := Claim7.holds Tryd.pinned (.plain (OpenSpec.upto reportLinesSpec)) reportLinesUptoCard

/-- THE SECOND FORM's CARD OF 'panicroadlaw.ReportValues'. -/
def reportValuesUptoCard : Claim7 := { stood := { row := reportValuesUptoRow, standIns := [], harness := (true, "0a57898fb46f62f8219d3c775ce2395e9cc8d5fb059d123a8f85c28529a1f7d8"), looks := false }, kinds := [], alts := [], laidByText := true, laidKinds := [.data, .data, .data], laidTests := true, laidLooks := .later }
def ReportValuesUptoCardSaid : Prop := Claim7.holds Tryd.pinned (.plain (OpenSpec.upto reportValuesSpec)) reportValuesUptoCard
end Rows
end Go.Proofs.YtncjaohiimenaaaDoor
