/- What scan.isPlain answers. -/
import Derived.Test.YtncjaohiimenaabDoorRows
import Derived.WalkKit
import Derived.ProofKit
import Derived.OpenShut
import Derived.Handy
namespace Go.Proofs.YtncjaohiimenaabDoor
open Go.ChangeShapes Go.WideShapes Go.ChangeAt Go.RowKit
set_option maxRecDepth 100000

def plainI (c : Int) : Bool := decide (32 ≤ c) && decide (c ≤ 126)
theorem plainI_yes {c : Int} (h : 32 ≤ c ∧ c ≤ 126) : plainI c = true := by simp [plainI, h.1, h.2]
theorem plainI_no {c : Int} (h : c < 32 ∨ 126 < c) : plainI c = false := by simp [plainI]; omega
theorem plain_any (c : Int) (w : World) : Calls Tryd.prog 50 #[.int .u8 c] w fun e w' => e = .returned (.bool (plainI c)) ∧ w' = w := by
  by_cases h1 : 32 ≤ c
  · by_cases h2 : c ≤ 126
    · rw [plainI_yes ⟨h1, h2⟩]
      go_enter Tryd.func50, Tryd.ntmps50
      go_wp2
      go_ret
      exact ⟨rfl, rfl⟩
    · rw [plainI_no (by omega)]
      have h3 : decide (c ≤ 126) = false := by simpa using h2
      clear h2
      go_enter Tryd.func50, Tryd.ntmps50
      go_wp2
      go_ret
      exact ⟨rfl, rfl⟩
  · rw [plainI_no (by omega)]
    have h3 : decide (32 ≤ c) = false := by simpa using h1
    clear h1
    go_enter Tryd.func50, Tryd.ntmps50
    go_wp2
    go_ret
    exact ⟨rfl, rfl⟩
end Go.Proofs.YtncjaohiimenaabDoor
