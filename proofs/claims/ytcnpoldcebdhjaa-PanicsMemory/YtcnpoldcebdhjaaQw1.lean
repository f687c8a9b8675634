/- The work's small steps that only read. -/
import Derived.Test.YtcnpoldcebdhjaaPst2
import Derived.Test.YtcnpoldcebdhjaaSteady5
import Derived.BigQuiet
namespace Go.Proofs.Ytcnpoldcebdhjaa
open Go.ChangeShapes Go.WideShapes Go.ChangeAt Go.RowKit
set_option maxRecDepth 100000
set_option linter.unusedSimpArgs false
set_option linter.unusedVariables false
set_option maxHeartbeats 1000000 in
theorem own_running (p g n cap : Nat) (c1 c2 c3 c4 c5 c6 : Value) (w : World) (hn : n ≤ 1000000) (hb : w.heap[p]? = some (.cells #[.slice (some ⟨g, 0, none⟩) (n + 1) cap, c1, c2, c3, c4, c5, c6] 62 (0, 0))) :
    Calls Try.prog 42 #[.pointer (some ⟨p, 0, none⟩)] w fun e w' => e = .returned (.pointer (some ⟨g, n * 5, none⟩)) ∧ Below w.heap.size w w' := by
  obtain ⟨⟨x0, -⟩, -⟩ := box7 hb
  have hmi : (n : Int) < (n : Int) + 1 := by omega
  clear hb
  go_enter Try.func42, Try.ntmps42
  go_wp2_with fail
  go_quiet (fail)
  go_wp2_with fail
  go_ret
  exact ⟨rfl, below_dn _ _⟩
set_option maxHeartbeats 1000000 in
theorem own_lastPanic (p g n cap : Nat) (c0 c2 c3 c4 c5 c6 : Value) (w : World) (hn : n ≤ 1000000) (hb : w.heap[p]? = some (.cells #[c0, .slice (some ⟨g, 0, none⟩) (n + 1) cap, c2, c3, c4, c5, c6] 62 (0, 0))) :
    Calls Try.prog 54 #[.pointer (some ⟨p, 0, none⟩)] w fun e w' => e = .returned (.pointer (some ⟨g, n * 7, none⟩)) ∧ Below w.heap.size w w' := by
  obtain ⟨⟨-, x1, -⟩, -⟩ := box7 hb
  have hmi : (n : Int) < (n : Int) + 1 := by omega
  clear hb
  go_enter Try.func54, Try.ntmps54
  go_wp2_with fail
  go_quiet (fail)
  go_wp2_with fail
  go_ret
  exact ⟨rfl, below_dn _ _⟩
set_option maxHeartbeats 1000000 in
theorem own_noPanic (p cap : Nat) (po : Option Addr) (c0 c2 c3 c4 c5 c6 : Value) (w : World) (hb : w.heap[p]? = some (.cells #[c0, .slice po 0 cap, c2, c3, c4, c5, c6] 62 (0, 0))) :
    Calls Try.prog 54 #[.pointer (some ⟨p, 0, none⟩)] w fun e w' => e = .returned (.pointer (some ⟨w.heap.size, 0, none⟩)) ∧ w'.heap[w.heap.size]? = some (.cells #[.int .i64 (-1), .int .i64 0, .int .i64 0, .string ⟨#[]⟩, .slice none 0 0, .bool false, .bool false] 55 (0, 0)) ∧ Below w.heap.size w w' := by
  obtain ⟨⟨-, x1, -⟩, -⟩ := box7 hb
  clear hb
  go_enter Try.func54, Try.ntmps54
  go_wp2_with fail
  go_ret
  exact ⟨rfl, box_stays (Below.refl _ _), (Below.refl _ _).alloc (Nat.le_refl _) _⟩
end Go.Proofs.Ytcnpoldcebdhjaa
