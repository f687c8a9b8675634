/- The order of calls that are kept by records. -/
import Derived.Test.YtiaoidbhdkldlabCrevw
namespace Go.Proofs.Ytiaoidbhdkldlab
open Go.ChangeShapes Go.WideShapes Go.ChangeAt Go.RowKit
set_option maxRecDepth 100000
set_option linter.unusedSimpArgs false
set_option linter.unusedVariables false
set_option maxHeartbeats 1000000 in
theorem own_order0 (v : Value) (es : List Ce) (cs : List Cc) (w : World) (hv : CSrc w v es cs) (hc : COk cs) :
    Calls Try.prog 12 #[.bool false, v] w fun e w' => ∃ v' ms, e = .returned (.tuple #[v', .int .i64 0]) ∧ CRow w.heap.size w' v' ms cs.reverse ∧ Below w.heap.size w w' := by
  have HV : Hid (CSrc w v es cs) := hv
  obtain ⟨lo, lc, rfl⟩ := hv.row.shape
  clear hv
  go_enter Try.func12, Try.ntmps12
  go_wp2_with fail
  refine (own_copyAll _ _ _ _ HV.out hc).mono ?_
  rintro e u1 ⟨V1, M1, rfl, q1, b1⟩
  go_wp2_with fail
  refine (own_reverse V1 M1 cs _ u1 q1 (by rw [q1.len]; have := hc.size; omega)).mono ?_
  rintro e u2 ⟨rfl, q2, b2⟩
  go_wp2_with fail
  go_ret2
  exact ⟨_, M1.reverse, rfl, q2, b1.trans (b2.mono (Nat.le_refl _))⟩
end Go.Proofs.Ytiaoidbhdkldlab
