/-
  DERIVED. GIVEN WITH THE SEED: THE CARDS: each row of YtjfmhppgjhgdaabDoorRows.lean that lists a variable, with what it lists TIED to the program's text (the seventh form; the later family's looks); each row that meets fmt, with fmt's text TOLD by the authors' own Lean function (tested against real Go, not proved from fmt's source: count such statements apart). THE CARD IS WHAT COUNTS. Prove the row's statement (the work); the ties are given (YtjfmhppgjhgdaabDoorTie.lean); close each card by the builder's one call (the guide's Derived/Test/ToyasCard.lean, 'card_holds'). Laid BY PROGRAM, IN A SANDBOX (cutbox-door.mjs). By AI agents, Wed Nov 11 2026. No macro, syntax, notation, axiom, sorry.
-/
import Derived.Test.YtjfmhppgjhgdaabDoorRows
import GoSem.ClaimSeven
namespace Go.Proofs.YtjfmhppgjhgdaabDoor
namespace Rows

/-- THE TIED CARD OF 'panicroadkeep.ValueMemory'. -/
def valueMemoryCard : Claim7 := { stood := { row := valueMemoryRow, standIns := [], harness := (true, "c608672aa40cd1eefdc7c985b79e9096b0c7e737915271fa598886c72ab3d0b8"), looks := false }, kinds := [], alts := [], laidByText := true, laidKinds := [.data, .data, .data], laidTests := true, laidLooks := .later }
def ValueMemoryCardSaid : Prop := Claim7.holds Tryd.pinned (.plain (OpenSpec.ofChange valueMemorySpec)) valueMemoryCard

/-- THE TIED CARD OF 'panicroadkeep.ValueAlike'. -/
def valueAlikeCard : Claim7 := { stood := { row := valueAlikeRow, standIns := [], harness := (true, "c608672aa40cd1eefdc7c985b79e9096b0c7e737915271fa598886c72ab3d0b8"), looks := false }, kinds := [], alts := [], laidByText := true, laidKinds := [.data, .data, .data], laidTests := true, laidLooks := .later }
def ValueAlikeCardSaid : Prop := Claim7.holds Tryd.pinned (.plain (OpenSpec.ofChange valueAlikeSpec)) valueAlikeCard

/-- THE TIED CARD OF 'panicroadkeep.ValueSeen'. -/
def valueSeenCard : Claim7 := { stood := { row := valueSeenRow, standIns := [], harness := (true, "c608672aa40cd1eefdc7c985b79e9096b0c7e737915271fa598886c72ab3d0b8"), looks := false }, kinds := [], alts := [], laidByText := true, laidKinds := [.data, .data, .data], laidTests := true, laidLooks := .later }
def ValueSeenCardSaid : Prop := Claim7.holds Tryd.pinned (.plain (OpenSpec.ofChange valueSeenSpec)) valueSeenCard

/-- THE TIED CARD OF 'panicroadkeep.ValueJoined'. -/
def valueJoinedCard : Claim7 := { stood := { row := valueJoinedRow, standIns := [], harness := (true, "c608672aa40cd1eefdc7c985b79e9096b0c7e737915271fa598886c72ab3d0b8"), looks := false }, kinds := [], alts := [], laidByText := true, laidKinds := [.data, .data, .data], laidTests := true, laidLooks := .later }
def ValueJoinedCardSaid : Prop := Claim7.holds Tryd.pinned (.plain (OpenSpec.ofChange valueJoinedSpec)) valueJoinedCard

/-- THE SECOND FORM's CARD OF 'panicroadkeep.ValueMemory'. -/
def valueMemoryUptoCard : Claim7 := { stood := { row := valueMemoryUptoRow, standIns := [], harness := (true, "c608672aa40cd1eefdc7c985b79e9096b0c7e737915271fa598886c72ab3d0b8"), looks := false }, kinds := [], alts := [], laidByText := true, laidKinds := [.data, .data, .data], laidTests := true, laidLooks := .later }
def ValueMemoryUptoCardSaid : Prop := Claim7.holds Tryd.pinned (.plain (OpenSpec.upto valueMemorySpec)) valueMemoryUptoCard

/-- THE SECOND FORM's CARD OF 'panicroadkeep.ValueAlike'. -/
def valueAlikeUptoCard : Claim7 := { stood := { row := valueAlikeUptoRow, standIns := [], harness := (true, "c608672aa40cd1eefdc7c985b79e9096b0c7e737915271fa598886c72ab3d0b8"), looks := false }, kinds := [], alts := [], laidByText := true, laidKinds := [.data, .data, .data], laidTests := true, laidLooks := .later }
def ValueAlikeUptoCardSaid : Prop := Claim7.holds Tryd.pinned (.plain (OpenSpec.upto valueAlikeSpec)) valueAlikeUptoCard

/-- THE SECOND FORM's CARD OF 'panicroadkeep.ValueSeen'. -/
def valueSeenUptoCard : Claim7 := { stood := { row := valueSeenUptoRow, standIns := [], harness := (true, "c608672aa40cd1eefdc7c985b79e9096b0c7e737915271fa598886c72ab3d0b8"), looks := false }, kinds := [], alts := [], laidByText := true, laidKinds := [.data, .data, .data], laidTests := true, laidLooks := .later }
def ValueSeenUptoCardSaid : Prop := Claim7.holds Tryd.pinned (.plain (OpenSpec.upto valueSeenSpec)) valueSeenUptoCard

/-- THE SECOND FORM's CARD OF 'panicroadkeep.ValueJoined'. -/
def valueJoinedUptoCard : Claim7 := { stood := { row := valueJoinedUptoRow, standIns := [], harness := (true, "c608672aa40cd1eefdc7c985b79e9096b0c7e737915271fa598886c72ab3d0b8"), looks := false }, kinds := [], alts := [], laidByText := true, laidKinds := [.data, .data, .data], laidTests := true, laidLooks := .later }
def ValueJoinedUptoCardSaid : Prop := Claim7.holds Tryd.pinned (.plain (OpenSpec.upto valueJoinedSpec)) valueJoinedUptoCard
end Rows
end Go.Proofs.YtjfmhppgjhgdaabDoor
