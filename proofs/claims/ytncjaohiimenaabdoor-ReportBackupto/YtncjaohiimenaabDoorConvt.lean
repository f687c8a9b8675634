/- Bounds of a number of 64 bits. -/
import Derived.Test.YtncjaohiimenaabDoorConv
namespace Go.Proofs.YtncjaohiimenaabDoor
theorem i64_bounds {n : Int} (h : (Go.Lit.int .i64 n).wf = true) : -9223372036854775808 ≤ n ∧ n ≤ 9223372036854775807 := by
  simp [Go.Lit.wf, Go.IntKind.min, Go.IntKind.max, Go.IntKind.bits, Go.IntKind.signed] at h; omega
end Go.Proofs.YtncjaohiimenaabDoor
