/- Pairs of signs: some rows. -/
import Derived.Test.YtpdndpajobfhmabGreatDoorRkpDefs
namespace Go.Proofs.YtpdndpajobfhmabGreatDoor
set_option maxRecDepth 1000000
theorem rk_row8 : ∀ b, b < 16 → rkOk 8 b = true := by decide +kernel
theorem rk_row9 : ∀ b, b < 16 → rkOk 9 b = true := by decide +kernel
theorem rk_row10 : ∀ b, b < 16 → rkOk 10 b = true := by decide +kernel
theorem rk_row11 : ∀ b, b < 16 → rkOk 11 b = true := by decide +kernel
end Go.Proofs.YtpdndpajobfhmabGreatDoor
