/- What panicroadref.ValidType answers. -/
import Derived.Test.YtmcechcigehjbaaRefend
namespace Go.Proofs.Ytmcechcigehjbaa
open Go.ChangeShapes Go.WideShapes Go.ChangeAt Go.RowKit
set_option maxRecDepth 100000
set_option linter.unusedSimpArgs false

set_option maxHeartbeats 1000000 in
theorem ref_valid (t : ByteArray) (w : World) (ht : t.size ≤ maxLen) :
    Calls Try.prog 10 #[.string t] w fun e w' => e = .returned (.bool (valid t.data.toList)) ∧ Below w.heap.size w w' := by
  unfold maxLen at ht
  have hlen := bsize_list t
  by_cases h0 : t.size = 0
  · have hl : t.data.toList = [] := List.length_eq_zero_iff.1 (by omega)
    have hq : (t.toList == []) = true := by rw [ByteArray.toList_eq, hl]; rfl
    have HV : Hid (valid t.data.toList = false) := by rw [hl]; rfl
    clear hl hlen h0
    go_enter Try.func10, Try.ntmps10
    go_wp2_with fail
    go_ret
    exact ⟨by rw [HV.out]; rfl, Below.refl _ _⟩
  have hq : (t.toList == []) = false := by
    rw [ByteArray.toList_eq, beq_eq_false_iff_ne]
    intro h
    rw [h] at hlen
    simp at hlen
    omega
  by_cases h1 : t.size ≤ 100
  · have HE : Hid (Calls Try.prog 24 #[.string t] w fun e w' => e = .returned (.int .i64 (tl 101 t.data.toList)) ∧ Below w.heap.size w w') := ref_end 101 t w (by omega) h1
    have hle := tl_le 101 t.data.toList
    by_cases hm : tl 101 t.data.toList = t.size
    · have HV : Hid (valid t.data.toList = true) := show valid t.data.toList = true by unfold valid; exact decide_eq_true ⟨by omega, by omega, by omega⟩
      rw [hm] at HE
      clear hm hlen hle h0
      go_enter Try.func10, Try.ntmps10
      go_wp2_with fail
      refine HE.out.mono ?_
      rintro e w1 ⟨rfl, b1⟩
      go_wp2_with fail
      go_ret
      exact ⟨by rw [HV.out]; simp, b1⟩
    · have HV : Hid (valid t.data.toList = false) := show valid t.data.toList = false by unfold valid; simp [hm, hlen]
      have hz : (((tl 101 t.data.toList : Nat) : Int) == (t.size : Int)) = false := by rw [beq_eq_false_iff_ne]; omega
      generalize tl 101 t.data.toList = m at *
      clear hm h0 hlen
      go_enter Try.func10, Try.ntmps10
      go_wp2_with fail
      refine HE.out.mono ?_
      rintro e w1 ⟨rfl, b1⟩
      go_wp2_with fail
      go_ret
      exact ⟨by rw [HV.out]; simp [hz], b1⟩
  · have HV : Hid (valid t.data.toList = false) := show valid t.data.toList = false by unfold valid; simp [hlen, h1]
    clear hlen h0
    go_enter Try.func10, Try.ntmps10
    go_wp2_with fail
    go_ret
    exact ⟨by rw [HV.out]; rfl, Below.refl _ _⟩
end Go.Proofs.Ytmcechcigehjbaa
