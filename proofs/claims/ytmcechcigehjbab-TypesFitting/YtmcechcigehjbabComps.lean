/- What types.Compares and panicroadref.Compares answer. -/
import Derived.Test.YtmcechcigehjbabFits
namespace Go.Proofs.Ytmcechcigehjbab
open Go.ChangeShapes Go.WideShapes Go.ChangeAt Go.RowKit
set_option maxRecDepth 100000
set_option linter.unusedSimpArgs false

def compB (a b : ByteArray) : Bool :=
  if (a.toList == [110, 105, 108]) = true then nilB b else if (b.toList == [110, 105, 108]) = true then nilB a
  else (a.toList == b.toList) && ((a.toList == [105, 110, 116]) || ((a.toList == [98, 111, 111, 108]) || (a.toList == [115, 116, 114, 105, 110, 103])))
set_option maxHeartbeats 1000000 in
theorem own_comps (a b : ByteArray) (w : World) (ha : a.size ≤ maxLen) (hb : b.size ≤ maxLen) :
    Calls Try.prog 16 #[.string a, .string b] w fun e w' => e = .returned (.bool (compB a b)) ∧ Below w.heap.size w w' := by
  have HA : Hid (Calls Try.prog 17 #[.string a] w fun e w' => e = .returned (.bool (nilB a)) ∧ Below w.heap.size w w') := own_nil a w ha
  have HB : Hid (Calls Try.prog 17 #[.string b] w fun e w' => e = .returned (.bool (nilB b)) ∧ Below w.heap.size w w') := own_nil b w hb
  unfold compB
  cases h0 : (a.toList == [110, 105, 108]) with
  | true =>
    rw [if_pos rfl]
    go_enter Try.func16, Try.ntmps16
    go_wp2_with fail
    refine HB.out.mono ?_
    rintro e w1 ⟨rfl, b1⟩
    go_wp2_with fail
    go_ret
    exact ⟨rfl, b1⟩
  | false =>
    rw [if_neg (by simp)]
    cases h1 : (b.toList == [110, 105, 108]) with
    | true =>
      rw [if_pos rfl]
      go_enter Try.func16, Try.ntmps16
      go_wp2_with fail
      refine HA.out.mono ?_
      rintro e w1 ⟨rfl, b1⟩
      go_wp2_with fail
      go_ret
      exact ⟨rfl, b1⟩
    | false =>
      rw [if_neg (by simp)]
      cases h2 : (a.toList == b.toList) with
      | false =>
        go_enter Try.func16, Try.ntmps16
        go_wp2_with fail
        go_ret
        exact ⟨rfl, Below.refl _ _⟩
      | true =>
        cases h3 : (a.toList == [105, 110, 116]) with
        | true =>
          go_enter Try.func16, Try.ntmps16
          go_wp2_with fail
          go_ret
          exact ⟨rfl, Below.refl _ _⟩
        | false =>
          cases h4 : (a.toList == [98, 111, 111, 108]) with
          | true =>
            go_enter Try.func16, Try.ntmps16
            go_wp2_with fail
            go_ret
            exact ⟨rfl, Below.refl _ _⟩
          | false =>
            cases h5 : (a.toList == [115, 116, 114, 105, 110, 103]) with
            | true | false =>
              go_enter Try.func16, Try.ntmps16
              go_wp2_with fail
              go_ret
              exact ⟨rfl, Below.refl _ _⟩
theorem nil_nil {a : ByteArray} (h : (a.toList == [110, 105, 108]) = true) : nilB a = false := by
  have e : a.toList = [110, 105, 108] := eq_of_beq h
  unfold nilB
  rw [← ByteArray.toList_eq, e]
  decide +kernel
theorem valid_nil (a : ByteArray) : (valid a.data.toList && !nilB a) = ((a.toList == [105, 110, 116]) || ((a.toList == [98, 111, 111, 108]) || (a.toList == [115, 116, 114, 105, 110, 103]))) := by
  unfold nilB
  rw [← ByteArray.toList_eq]
  cases h3 : (a.toList == [105, 110, 116]) with
  | true => rw [eq_of_beq h3]; decide +kernel
  | false =>
    cases h4 : (a.toList == [98, 111, 111, 108]) with
    | true => rw [eq_of_beq h4]; decide +kernel
    | false =>
      cases h5 : (a.toList == [115, 116, 114, 105, 110, 103]) with
      | true => rw [eq_of_beq h5]; decide +kernel
      | false => cases valid a.toList <;> rfl
end Go.Proofs.Ytmcechcigehjbab
