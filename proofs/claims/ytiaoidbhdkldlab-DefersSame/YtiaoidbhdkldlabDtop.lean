/- The highest bit of a mask. -/
import Derived.Test.YtiaoidbhdkldlabDmask
namespace Go.Proofs.Ytiaoidbhdkldlab
open Go.ChangeShapes Go.WideShapes Go.ChangeAt Go.RowKit
set_option maxRecDepth 100000
set_option linter.unusedSimpArgs false
set_option linter.unusedVariables false
set_option maxHeartbeats 2000000
theorem len_top : ∀ n : Nat, n < 256 → n ≠ 0 → bitN n (topN n) = true ∧ topN n < 8 ∧ n < 2 ^ (topN n + 1) := by decide +kernel
theorem len_tab : ∀ (n : Nat) (h : n < 256), n ≠ 0 → wrap64 ((((⟨#[0, 1, 2, 2, 3, 3, 3, 3, 4, 4, 4, 4, 4, 4, 4, 4, 5, 5, 5, 5, 5, 5, 5, 5, 5, 5, 5, 5, 5, 5, 5, 5, 6, 6, 6, 6, 6, 6, 6, 6, 6, 6, 6, 6, 6, 6, 6, 6, 6, 6, 6, 6, 6, 6, 6, 6, 6, 6, 6, 6, 6, 6, 6, 6, 7, 7, 7, 7, 7, 7, 7, 7, 7, 7, 7, 7, 7, 7, 7, 7, 7, 7, 7, 7, 7, 7, 7, 7, 7, 7, 7, 7, 7, 7, 7, 7, 7, 7, 7, 7, 7, 7, 7, 7, 7, 7, 7, 7, 7, 7, 7, 7, 7, 7, 7, 7, 7, 7, 7, 7, 7, 7, 7, 7, 7, 7, 7, 7, 8, 8, 8, 8, 8, 8, 8, 8, 8, 8, 8, 8, 8, 8, 8, 8, 8, 8, 8, 8, 8, 8, 8, 8, 8, 8, 8, 8, 8, 8, 8, 8, 8, 8, 8, 8, 8, 8, 8, 8, 8, 8, 8, 8, 8, 8, 8, 8, 8, 8, 8, 8, 8, 8, 8, 8, 8, 8, 8, 8, 8, 8, 8, 8, 8, 8, 8, 8, 8, 8, 8, 8, 8, 8, 8, 8, 8, 8, 8, 8, 8, 8, 8, 8, 8, 8, 8, 8, 8, 8, 8, 8, 8, 8, 8, 8, 8, 8, 8, 8, 8, 8, 8, 8, 8, 8, 8, 8, 8, 8, 8, 8, 8, 8, 8, 8, 8, 8, 8, 8, 8, 8, 8, 8, 8, 8, 8, 8]⟩ : ByteArray)[n]'h).toNat : Nat) : Int) = ((topN n : Nat) : Int) + 1 := by decide +kernel
theorem own_len8 (n : Nat) (w : World) (h : n < 256) (h0 : n ≠ 0) : Calls Try.prog 30 #[.int .u8 n] w fun e w' => e = .returned (.int .i64 ((topN n : Nat) + 1 : Int)) ∧ Below w.heap.size w w' := by
  have HT : Hid _ := len_tab n h h0
  go_enter Try.func30, Try.ntmps30
  go_wp2_with fail
  go_ret
  exact ⟨congrArg (fun x => Ending.returned (Value.int .i64 x)) HT.out, Below.refl _ _⟩
theorem own_top (m : Int) (w : World) : Calls Try.prog 22 #[.int .i64 m] w fun e w' => e = .returned (tob (topR m)) ∧ Below w.heap.size w w' := by
  by_cases h0 : m = 0
  · subst h0
    rw [show topR 0 = (0, false) by rfl]
    go_enter Try.func22, Try.ntmps22
    go_wp2_with fail
    go_ret2
    exact ⟨rfl, Below.refl _ _⟩
  · have h1 : (m == 0) = false := by simpa using h0
    cases hm : isMaskB m
    · rw [show topR m = (0, false) by simp [topR, hm]]
      go_enter Try.func22, Try.ntmps22
      go_wp2_with fail
      refine (own_isMask m _).mono ?_
      rintro e u1 ⟨rfl, b1⟩
      rw [hm]
      go_wp2_with fail
      go_ret2
      exact ⟨rfl, b1⟩
    · have hR := hm
      obtain ⟨n, rfl, hn⟩ := mask_nat hR
      clear hR
      have hn0 : n ≠ 0 := by omega
      rw [show topR (n : Int) = (((topN n : Nat) : Int), true) by simp [topR, hm, hn0]]
      obtain ⟨-, t1, -⟩ := len_top n hn hn0
      go_enter Try.func22, Try.ntmps22
      go_wp2_with fail
      refine (own_isMask _ _).mono ?_
      rintro e u1 ⟨rfl, b1⟩
      rw [hm]
      go_wp2_with fail
      refine (own_len8 n _ hn hn0).mono ?_
      rintro e u2 ⟨rfl, b2⟩
      go_wp2_with fail
      go_ret2
      exact ⟨by simp [tob], b1.trans (b2.mono b1.size)⟩
end Go.Proofs.Ytiaoidbhdkldlab
