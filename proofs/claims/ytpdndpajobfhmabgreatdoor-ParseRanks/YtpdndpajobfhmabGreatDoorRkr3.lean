/- Pairs of signs: some rows. -/
import Derived.Test.YtpdndpajobfhmabGreatDoorRkpDefs
namespace Go.Proofs.YtpdndpajobfhmabGreatDoor
set_option maxRecDepth 1000000
theorem rk_row12 : ∀ b, b < 16 → rkOk 12 b = true := by decide +kernel
theorem rk_row13 : ∀ b, b < 16 → rkOk 13 b = true := by decide +kernel
theorem rk_row14 : ∀ b, b < 16 → rkOk 14 b = true := by decide +kernel
theorem rk_row15 : ∀ b, b < 16 → rkOk 15 b = true := by decide +kernel
end Go.Proofs.YtpdndpajobfhmabGreatDoor
