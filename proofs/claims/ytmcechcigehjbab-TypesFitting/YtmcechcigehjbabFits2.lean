/- What types.Fits and panicroadref.Fits answer. -/
import Derived.Test.YtmcechcigehjbabFits
namespace Go.Proofs.Ytmcechcigehjbab
open Go.ChangeShapes Go.WideShapes Go.ChangeAt Go.RowKit
set_option maxRecDepth 100000
set_option linter.unusedSimpArgs false

def fitsB (f t : ByteArray) : Bool :=
  if (f.toList == [110, 105, 108]) = true then nilB t else if (f.toList == t.toList) = true then valid t.data.toList
  else (t.toList == [97, 110, 121]) && ((f.toList == [105, 110, 116]) || (f.toList == [115, 116, 114, 105, 110, 103]))
set_option maxHeartbeats 1000000 in
theorem own_fits (f t : ByteArray) (w : World) (ht : t.size ≤ maxLen) :
    Calls Try.prog 15 #[.string f, .string t] w fun e w' => e = .returned (.bool (fitsB f t)) ∧ Below w.heap.size w w' := by
  have HN : Hid (Calls Try.prog 17 #[.string t] w fun e w' => e = .returned (.bool (nilB t)) ∧ Below w.heap.size w w') := own_nil t w ht
  have HV : Hid (Calls Try.prog 14 #[.string t] w fun e w' => e = .returned (.bool (valid t.data.toList)) ∧ Below w.heap.size w w') := own_valid t w ht
  unfold fitsB
  cases h0 : (f.toList == [110, 105, 108]) with
  | true =>
    rw [if_pos rfl]
    go_enter Try.func15, Try.ntmps15
    go_wp2_with fail
    refine HN.out.mono ?_
    rintro e w1 ⟨rfl, b1⟩
    go_wp2_with fail
    go_ret
    exact ⟨rfl, b1⟩
  | false =>
    rw [if_neg (by simp)]
    cases h1 : (f.toList == t.toList) with
    | true =>
      rw [if_pos rfl]
      go_enter Try.func15, Try.ntmps15
      go_wp2_with fail
      refine HV.out.mono ?_
      rintro e w1 ⟨rfl, b1⟩
      go_wp2_with fail
      go_ret
      exact ⟨rfl, b1⟩
    | false =>
      rw [if_neg (by simp)]
      cases h2 : (t.toList == [97, 110, 121]) with
      | false =>
        go_enter Try.func15, Try.ntmps15
        go_wp2_with fail
        go_ret
        exact ⟨rfl, Below.refl _ _⟩
      | true =>
        cases h3 : (f.toList == [105, 110, 116]) with
        | true =>
          go_enter Try.func15, Try.ntmps15
          go_wp2_with fail
          go_ret
          exact ⟨rfl, Below.refl _ _⟩
        | false =>
          cases h4 : (f.toList == [115, 116, 114, 105, 110, 103]) with
          | true =>
            go_enter Try.func15, Try.ntmps15
            go_wp2_with fail
            go_ret
            exact ⟨rfl, Below.refl _ _⟩
          | false =>
            go_enter Try.func15, Try.ntmps15
            go_wp2_with fail
            go_ret
            exact ⟨rfl, Below.refl _ _⟩
theorem fits_ref {f t : ByteArray} (h0 : (f.toList == [110, 105, 108]) = false) : fitsB f t = (((t.toList == [97, 110, 121]) && ((f.toList == [105, 110, 116]) || (f.toList == [115, 116, 114, 105, 110, 103]))) || (valid f.data.toList && (f.toList == t.toList))) := by
  unfold fitsB
  rw [if_neg (by simp [h0])]
  cases h1 : (f.toList == t.toList) with
  | true =>
    have e : f.toList = t.toList := eq_of_beq h1
    rw [if_pos rfl, e, ← ByteArray.toList_eq t, ← ByteArray.toList_eq f, e]
    cases h2 : (t.toList == [97, 110, 121]) with
    | false => simp
    | true =>
      have e2 : t.toList = [97, 110, 121] := eq_of_beq h2
      rw [e2]
      decide +kernel
  | false => rw [if_neg (by simp)]; simp
end Go.Proofs.Ytmcechcigehjbab
