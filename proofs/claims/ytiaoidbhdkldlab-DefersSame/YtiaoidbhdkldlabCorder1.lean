/- The order of calls, kept by bits. -/
import Derived.Test.YtiaoidbhdkldlabCbitw
import Derived.BigQuiet
import Derived.Deep.QuietTactic
namespace Go.Proofs.Ytiaoidbhdkldlab
open Go.ChangeShapes Go.WideShapes Go.ChangeAt Go.RowKit
set_option maxRecDepth 100000
set_option linter.unusedSimpArgs false
set_option linter.unusedVariables false
set_option maxHeartbeats 1000000 in
theorem own_order1 (v : Value) (es : List Ce) (cs : List Cc) (w : World) (hv : CSrc w v es cs) (hc : COk cs) :
    Calls Try.prog 12 #[.bool true, v] w fun e w' => ((Rise cs cs.length ∧ ∃ v' ms, e = .returned (.tuple #[v', .int .i64 0]) ∧ CRow w.heap.size w' v' ms cs.reverse) ∨ (¬ Rise cs cs.length ∧ e = .returned (.tuple #[.slice none 0 0, .int .i64 14]))) ∧ Below w.heap.size w w' := by
  have HV : Hid (CSrc w v es cs) := hv
  obtain ⟨lo, lc, rfl⟩ := hv.row.shape
  clear hv
  go_enter Try.func12, Try.ntmps12
  go_wp2_with fail
  refine (own_bits _ _ _ _ HV.out hc).mono ?_
  rintro e u1 ⟨h | h, b1⟩
  · obtain ⟨hr, V1, M1, rfl, q1⟩ := h
    have HR : Hid (Rise cs cs.length) := hr
    clear hr
    go_wp2_with fail
    go_ret2
    exact ⟨.inl ⟨HR.out, _, M1, rfl, q1.up (by omega)⟩, b1⟩
  · obtain ⟨hr, rfl⟩ := h
    have HR : Hid (¬ Rise cs cs.length) := hr
    clear hr
    go_wp2_with fail
    go_ret2
    exact ⟨.inr ⟨HR.out, rfl⟩, b1⟩
end Go.Proofs.Ytiaoidbhdkldlab
