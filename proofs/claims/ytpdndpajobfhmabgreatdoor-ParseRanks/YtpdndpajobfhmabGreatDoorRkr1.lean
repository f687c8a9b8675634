/- Pairs of signs: some rows. -/
import Derived.Test.YtpdndpajobfhmabGreatDoorRkpDefs
namespace Go.Proofs.YtpdndpajobfhmabGreatDoor
set_option maxRecDepth 1000000
theorem rk_row4 : ∀ b, b < 16 → rkOk 4 b = true := by decide +kernel
theorem rk_row5 : ∀ b, b < 16 → rkOk 5 b = true := by decide +kernel
theorem rk_row6 : ∀ b, b < 16 → rkOk 6 b = true := by decide +kernel
theorem rk_row7 : ∀ b, b < 16 → rkOk 7 b = true := by decide +kernel
end Go.Proofs.YtpdndpajobfhmabGreatDoor
