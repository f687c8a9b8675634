/- What types.holdsNil, Fits and Compares and panicroadref's mayNil, Fits and Compares answer. -/
import Derived.Test.YtmcechcigehjbaaRefvalid
namespace Go.Proofs.Ytmcechcigehjbaa
open Go.ChangeShapes Go.WideShapes Go.ChangeAt Go.RowKit
set_option maxRecDepth 100000
set_option linter.unusedSimpArgs false

/-- May a variable of the type be nil? -/
def nilB (t : ByteArray) : Bool := valid t.data.toList && (!(t.toList == [105, 110, 116]) && (!(t.toList == [98, 111, 111, 108]) && !(t.toList == [115, 116, 114, 105, 110, 103])))
/-- The types that are words. -/
theorem valid_word {l : Tx} (h : wordLen l ≠ 0) : valid l = true ↔ l = wInt ∨ l = wBool ∨ l = wString ∨ l = wAny ∨ l = wInts ∨ l = wPtr := by
  constructor
  · intro hv
    unfold valid at hv
    obtain ⟨_, _, h3⟩ := of_decide_eq_true hv
    rw [tl_word h] at h3
    unfold wordLen at h3 h
    have key : ∀ {p : Tx}, p.isPrefixOf l = true → p.length = l.length → l = p := fun {p} hp he => by
      rw [List.isPrefixOf_iff_prefix] at hp
      exact (hp.eq_of_length he).symm
    split at h3
    · next hp => exact .inl (key hp h3)
    split at h3
    · next hp => exact .inr (.inl (key hp h3))
    split at h3
    · next hp => exact .inr (.inr (.inl (key hp h3)))
    split at h3
    · next hp => exact .inr (.inr (.inr (.inl (key hp h3))))
    split at h3
    · next hp => exact .inr (.inr (.inr (.inr (.inl (key hp h3)))))
    split at h3
    · next hp => exact .inr (.inr (.inr (.inr (.inr (key hp h3)))))
    · next a b c d e f => simp [a, b, c, d, e, f] at h
  · rintro (rfl | rfl | rfl | rfl | rfl | rfl) <;> decide +kernel
theorem valid_noword {l : Tx} (h : wordLen l = 0) : valid l = validF l := by
  unfold validF
  cases hf : wFunc.isPrefixOf l with
  | true => rfl
  | false =>
    unfold valid
    rw [tl_none h hf]
    simp
theorem nil_any {t : ByteArray} (h : (t.toList == [97, 110, 121]) = true) : nilB t = true := by
  have : t.data.toList = [97, 110, 121] := by rw [← ByteArray.toList_eq]; exact eq_of_beq h
  unfold nilB; rw [ByteArray.toList_eq, this]; decide +kernel
theorem nil_ints {t : ByteArray} (h : (t.toList == [91, 93, 105, 110, 116]) = true) : nilB t = true := by
  have : t.data.toList = [91, 93, 105, 110, 116] := by rw [← ByteArray.toList_eq]; exact eq_of_beq h
  unfold nilB; rw [ByteArray.toList_eq, this]; decide +kernel
theorem nil_ptr {t : ByteArray} (h : (t.toList == [42, 105, 110, 116]) = true) : nilB t = true := by
  have : t.data.toList = [42, 105, 110, 116] := by rw [← ByteArray.toList_eq]; exact eq_of_beq h
  unfold nilB; rw [ByteArray.toList_eq, this]; decide +kernel
theorem nil_else {t : ByteArray} (h1 : (t.toList == [97, 110, 121]) = false) (h2 : (t.toList == [91, 93, 105, 110, 116]) = false) (h3 : (t.toList == [42, 105, 110, 116]) = false) : nilB t = validF t.data.toList := by
  unfold nilB
  rw [ByteArray.toList_eq] at *
  by_cases hw : wordLen t.data.toList = 0
  · rw [valid_noword hw]
    have a1 : t.data.toList ≠ [105, 110, 116] := fun e => by rw [e] at hw; revert hw; decide +kernel
    have a2 : t.data.toList ≠ [98, 111, 111, 108] := fun e => by rw [e] at hw; revert hw; decide +kernel
    have a3 : t.data.toList ≠ [115, 116, 114, 105, 110, 103] := fun e => by rw [e] at hw; revert hw; decide +kernel
    rw [beq_eq_false_iff_ne.2 a1, beq_eq_false_iff_ne.2 a2, beq_eq_false_iff_ne.2 a3]
    simp
  · have hf : validF t.data.toList = false := by
      unfold validF
      cases hf : wFunc.isPrefixOf t.data.toList with
      | false => rfl
      | true => exact absurd (func_noword hf) hw
    rw [hf]
    cases hv : valid t.data.toList with
    | false => rfl
    | true =>
      rw [beq_eq_false_iff_ne] at h1 h2 h3
      rcases (valid_word hw).1 hv with e | e | e | e | e | e
      · rw [e]; rfl
      · rw [e]; rfl
      · rw [e]; rfl
      · exact absurd e h1
      · exact absurd e h2
      · exact absurd e h3
set_option maxHeartbeats 1000000 in
theorem own_nil (t : ByteArray) (w : World) (ht : t.size ≤ maxLen) :
    Calls Try.prog 30 #[.string t] w fun e w' => e = .returned (.bool (nilB t)) ∧ Below w.heap.size w w' := by
  have HF : Hid (Calls Try.prog 25 #[.string t, .func (.func 23) #[] #[]] w fun e w' => e = .returned (.bool (validF t.data.toList)) ∧ Below w.heap.size w w') := own_thruFPass t w ht
  by_cases h1 : (t.toList == [97, 110, 121]) = true
  · rw [nil_any h1]
    go_enter Try.func30, Try.ntmps30
    go_wp2_with fail
    go_ret
    exact ⟨rfl, Below.refl _ _⟩
  rw [Bool.not_eq_true] at h1
  by_cases h2 : (t.toList == [91, 93, 105, 110, 116]) = true
  · rw [nil_ints h2]
    go_enter Try.func30, Try.ntmps30
    go_wp2_with fail
    go_ret
    exact ⟨rfl, Below.refl _ _⟩
  rw [Bool.not_eq_true] at h2
  by_cases h3 : (t.toList == [42, 105, 110, 116]) = true
  · rw [nil_ptr h3]
    go_enter Try.func30, Try.ntmps30
    go_wp2_with fail
    go_ret
    exact ⟨rfl, Below.refl _ _⟩
  rw [Bool.not_eq_true] at h3
  rw [nil_else h1 h2 h3]
  go_enter Try.func30, Try.ntmps30
  go_wp2_with fail
  refine HF.out.mono ?_
  rintro e w1 ⟨rfl, b1⟩
  go_wp2_with fail
  go_ret
  exact ⟨rfl, b1⟩
set_option maxHeartbeats 1000000 in
theorem ref_nil (t : ByteArray) (w : World) (ht : t.size ≤ maxLen) :
    Calls Try.prog 31 #[.string t] w fun e w' => e = .returned (.bool (nilB t)) ∧ Below w.heap.size w w' := by
  have HV : Hid (Calls Try.prog 10 #[.string t] w fun e w' => e = .returned (.bool (valid t.data.toList)) ∧ Below w.heap.size w w') := ref_valid t w ht
  unfold nilB
  cases hv : valid t.data.toList with
  | false =>
    rw [hv] at HV
    clear hv
    go_enter Try.func31, Try.ntmps31
    go_wp2_with fail
    refine HV.out.mono ?_
    rintro e w1 ⟨rfl, b1⟩
    go_wp2_with fail
    go_ret
    exact ⟨rfl, b1⟩
  | true =>
    rw [hv] at HV
    clear hv
    cases h1 : (t.toList == [105, 110, 116]) with
    | true =>
      go_enter Try.func31, Try.ntmps31
      go_wp2_with fail
      refine HV.out.mono ?_
      rintro e w1 ⟨rfl, b1⟩
      go_wp2_with fail
      go_ret
      exact ⟨rfl, b1⟩
    | false =>
      cases h2 : (t.toList == [98, 111, 111, 108]) with
      | true =>
        go_enter Try.func31, Try.ntmps31
        go_wp2_with fail
        refine HV.out.mono ?_
        rintro e w1 ⟨rfl, b1⟩
        go_wp2_with fail
        go_ret
        exact ⟨rfl, b1⟩
      | false =>
        cases h3 : (t.toList == [115, 116, 114, 105, 110, 103]) with
        | true =>
          go_enter Try.func31, Try.ntmps31
          go_wp2_with fail
          refine HV.out.mono ?_
          rintro e w1 ⟨rfl, b1⟩
          go_wp2_with fail
          go_ret
          exact ⟨rfl, b1⟩
        | false =>
          go_enter Try.func31, Try.ntmps31
          go_wp2_with fail
          refine HV.out.mono ?_
          rintro e w1 ⟨rfl, b1⟩
          go_wp2_with fail
          go_ret
          exact ⟨rfl, b1⟩
end Go.Proofs.Ytmcechcigehjbaa
