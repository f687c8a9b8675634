/-
  DERIVED. GIVEN WITH THE SEED: THE CARDS: each row of YtjfmhppgjhgdaaaDoorRows.lean that lists a variable, with what it lists TIED to the program's text (the seventh form; the later family's looks); each row that meets fmt, with fmt's text TOLD by the authors' own Lean function (tested against real Go, not proved from fmt's source: count such statements apart). THE CARD IS WHAT COUNTS. Prove the row's statement (the work); the ties are given (YtjfmhppgjhgdaaaDoorTie.lean); close each card by the builder's one call (the guide's Derived/Test/ToyasCard.lean, 'card_holds'). Laid BY PROGRAM, IN A SANDBOX (cutbox-door.mjs). By AI agents, Wed Nov 11 2026. No macro, syntax, notation, axiom, sorry.
-/
import Derived.Test.YtjfmhppgjhgdaaaDoorRows
import GoSem.ClaimSeven
namespace Go.Proofs.YtjfmhppgjhgdaaaDoor
namespace Rows

/-- THE TIED CARD OF 'panicroadlaw.ValueShows'. -/
def valueShowsCard : Claim7 := { stood := { row := valueShowsRow, standIns := [], harness := (true, "19859d174ee51860bb6312cb50a3eaad7b4c8b1e072d5a07314db5239d07cfc8"), looks := false }, kinds := [], alts := [], laidByText := true, laidKinds := [.data, .data, .data], laidTests := true, laidLooks := .later }
def ValueShowsCardSaid : Prop := Claim7.holds Tryd.pinned (.plain (OpenSpec.ofChange valueShowsSpec)) valueShowsCard

/-- THE TIED CARD OF 'panicroadlaw.ValueLines'. -/
def valueLinesCard : Claim7 := { stood := { row := valueLinesRow, standIns := [], harness := (true, "19859d174ee51860bb6312cb50a3eaad7b4c8b1e072d5a07314db5239d07cfc8"), looks := false }, kinds := [], alts := [], laidByText := true, laidKinds := [.data, .data, .data], laidTests := true, laidLooks := .later }
def ValueLinesCardSaid : Prop := Claim7.holds Tryd.pinned (.plain (OpenSpec.ofChange valueLinesSpec)) valueLinesCard

/-- THE SECOND FORM's CARD OF 'panicroadlaw.ValueShows'. -/
def valueShowsUptoCard : Claim7 := { stood := { row := valueShowsUptoRow, standIns := [], harness := (true, "19859d174ee51860bb6312cb50a3eaad7b4c8b1e072d5a07314db5239d07cfc8"), looks := false }, kinds := [], alts := [], laidByText := true, laidKinds := [.data, .data, .data], laidTests := true, laidLooks := .later }
def ValueShowsUptoCardSaid : Prop := Claim7.holds Tryd.pinned (.plain (OpenSpec.upto valueShowsSpec)) valueShowsUptoCard

/-- THE SECOND FORM's CARD OF 'panicroadlaw.ValueLines'. -/
def valueLinesUptoCard : Claim7 := { stood := { row := valueLinesUptoRow, standIns := [], harness := (true, "19859d174ee51860bb6312cb50a3eaad7b4c8b1e072d5a07314db5239d07cfc8"), looks := false }, kinds := [], alts := [], laidByText := true, laidKinds := [.data, .data, .data], laidTests := true, laidLooks := .later }
def ValueLinesUptoCardSaid : Prop := Claim7.holds Tryd.pinned (.plain (OpenSpec.upto valueLinesSpec)) valueLinesUptoCard
end Rows
end Go.Proofs.YtjfmhppgjhgdaaaDoor
