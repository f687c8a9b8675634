/- All pairs of signs. -/
import Derived.Test.YtpdndpajobfhmabGreatDoorRkr0
import Derived.Test.YtpdndpajobfhmabGreatDoorRkr1
import Derived.Test.YtpdndpajobfhmabGreatDoorRkr2
import Derived.Test.YtpdndpajobfhmabGreatDoorRkr3
namespace Go.Proofs.YtpdndpajobfhmabGreatDoor
theorem rk_all (a b : Nat) (ha : a < 16) (hb : b < 16) : rkOk a b = true := by
  have h : a = 0 ∨ a = 1 ∨ a = 2 ∨ a = 3 ∨ a = 4 ∨ a = 5 ∨ a = 6 ∨ a = 7 ∨ a = 8 ∨ a = 9 ∨ a = 10 ∨ a = 11 ∨ a = 12 ∨ a = 13 ∨ a = 14 ∨ a = 15 := by omega
  rcases h with rfl | rfl | rfl | rfl | rfl | rfl | rfl | rfl | rfl | rfl | rfl | rfl | rfl | rfl | rfl | rfl
  · exact rk_row0 b hb
  · exact rk_row1 b hb
  · exact rk_row2 b hb
  · exact rk_row3 b hb
  · exact rk_row4 b hb
  · exact rk_row5 b hb
  · exact rk_row6 b hb
  · exact rk_row7 b hb
  · exact rk_row8 b hb
  · exact rk_row9 b hb
  · exact rk_row10 b hb
  · exact rk_row11 b hb
  · exact rk_row12 b hb
  · exact rk_row13 b hb
  · exact rk_row14 b hb
  · exact rk_row15 b hb
end Go.Proofs.YtpdndpajobfhmabGreatDoor
