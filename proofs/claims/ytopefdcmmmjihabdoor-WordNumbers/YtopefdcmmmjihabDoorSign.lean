/- What word.Sign and panicroadref.Sign answer, for every number. -/
import Derived.Test.YtopefdcmmmjihabDoorCut
import Derived.Lib.LaidTab
import Derived.Laws.OwnMore
namespace Go.Proofs.YtopefdcmmmjihabDoor
open Go.ChangeShapes Go.WideShapes Go.ChangeAt Go.RowKit

/-- The sixteen signs. -/
def signsL : List ByteArray := [⟨#[43]⟩, ⟨#[45]⟩, ⟨#[42]⟩, ⟨#[47]⟩, ⟨#[37]⟩, ⟨#[60, 60]⟩, ⟨#[62, 62]⟩, ⟨#[38]⟩, ⟨#[124]⟩, ⟨#[94]⟩, ⟨#[61, 61]⟩, ⟨#[33, 61]⟩, ⟨#[60]⟩, ⟨#[60, 61]⟩, ⟨#[62]⟩, ⟨#[62, 61]⟩]
def signAt (k : Nat) : ByteArray := signsL.getD k ByteArray.empty
def allSigns : ByteArray := ⟨#[32, 43, 32, 45, 32, 42, 32, 47, 32, 37, 32, 60, 60, 32, 62, 62, 32, 38, 32, 124, 32, 94, 32, 61, 61, 32, 33, 61, 32, 60, 32, 60, 61, 32, 62, 32, 62, 61]⟩
theorem signs_cut : (cutSt allSigns 32 (allSigns.size + 1)).1 = ByteArray.empty :: signsL := by kernel_rfl
/-- The package's table, cell by cell. -/
def SignTab (w : World) : Prop := ∀ k, k < 16 → w.cell? ⟨0, k, none⟩ = some (.string (signAt k))

end Go.Proofs.YtopefdcmmmjihabDoor
