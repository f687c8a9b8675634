/- Pairs of signs: some rows. -/
import Derived.Test.YtpdndpajobfhmabGreatDoorRkpDefs
namespace Go.Proofs.YtpdndpajobfhmabGreatDoor
set_option maxRecDepth 1000000
theorem rk_row0 : ∀ b, b < 16 → rkOk 0 b = true := by decide +kernel
theorem rk_row1 : ∀ b, b < 16 → rkOk 1 b = true := by decide +kernel
theorem rk_row2 : ∀ b, b < 16 → rkOk 2 b = true := by decide +kernel
theorem rk_row3 : ∀ b, b < 16 → rkOk 3 b = true := by decide +kernel
end Go.Proofs.YtpdndpajobfhmabGreatDoor
