/- What panicroadlaw.sameTexts answers of two lists that are the same. -/
import Derived.Test.YtmcechcigehjbaaReflaws
namespace Go.Proofs.Ytmcechcigehjbaa
open Go.ChangeShapes Go.WideShapes Go.ChangeAt Go.RowKit
set_option maxRecDepth 100000
set_option linter.unusedSimpArgs false

set_option maxHeartbeats 1000000 in
theorem law_same (a b : Value) (xs : List ByteArray) (w : World) (hl : xs.length ≤ 4) (ha : Reads w a xs) (hb : Reads w b xs) :
    Calls Try.prog 13 #[a, b] w fun e w' => e = .returned (.bool true) ∧ Below w.heap.size w w' := by
  obtain ⟨ao, ca, rfl, h1⟩ := ha
  obtain ⟨bo, cb, rfl, h2⟩ := hb
  have HX : Hid (∀ k : Nat, k < xs.length → ∃ g1 g2 x, ao = some ⟨g1, 0, none⟩ ∧ bo = some ⟨g2, 0, none⟩ ∧ w.cell? ⟨g1, k, none⟩ = some (.string x) ∧ w.cell? ⟨g2, k, none⟩ = some (.string x)) := fun k hk => by
    have hne : xs ≠ [] := fun e => by rw [e] at hk; simp at hk
    obtain ⟨g1, e1, c1⟩ := h1 hne
    obtain ⟨g2, e2, c2⟩ := h2 hne
    have hx : xs[k]? = some xs[k] := List.getElem?_eq_getElem hk
    exact ⟨g1, g2, xs[k], e1, e2, c1 k _ hx, c2 k _ hx⟩
  clear h1 h2
  generalize xs.length = n at *
  go_enter Try.func13, Try.ntmps13
  go_wp2_with fail
  go_loopw [5] (fun i wr => ∃ k : Nat, k ≤ n ∧ i = .int .i64 k ∧ Hid (∃ m, wr = w.drewN m)) (fun i _ => n - (intOf i).toNat)
  case atStart => exact ⟨0, Nat.zero_le _, rfl, 0, rfl⟩
  case round =>
    obtain ⟨k, hk, rfl, HW⟩ := hrel
    by_cases hlt : k < n
    · obtain ⟨g1, g2, x, rfl, rfl, c1, c2⟩ := HX.out k hlt
      obtain ⟨m, rfl⟩ := HW.out
      have hq : (x.toList == x.toList) = true := by simp
      have hlt2 : (k : Int) < (n : Int) := by omega
      go_wp2_with fail
      go_quiet (fail)
      go_wp2_with fail
      go_roundw
      case rel => exact ⟨k + 1, by omega, by go_num, m + nq, rfl⟩
      case measure => simp [intOf]; omega
    · obtain ⟨m, rfl⟩ := HW.out
      have hlt2 : ¬ (k : Int) < (n : Int) := by omega
      go_wp2_with fail
      go_ret
      exact ⟨rfl, ⟨rfl, rfl, rfl, Nat.le_refl _, fun _ _ => rfl⟩⟩
end Go.Proofs.Ytmcechcigehjbaa
