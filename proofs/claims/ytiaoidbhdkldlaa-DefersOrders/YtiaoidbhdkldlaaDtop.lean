/- The highest bit of a mask. -/
import Derived.Test.YtiaoidbhdkldlaaDmask
namespace Go.Proofs.Ytiaoidbhdkldlaa
open Go.ChangeShapes Go.WideShapes Go.ChangeAt Go.RowKit
set_option maxRecDepth 100000
set_option linter.unusedSimpArgs false
set_option linter.unusedVariables false
set_option maxHeartbeats 2000000
theorem len_top : ∀ n : Nat, n < 256 → n ≠ 0 → bitN n (topN n) = true ∧ topN n < 8 ∧ n < 2 ^ (topN n + 1) := by decide +kernel
theorem len_tab : ∀ (n : Nat) (h : n < 256), n ≠ 0 → wrap64 ((((⟨#[0, 1, 2, 2, 3, 3, 3, 3, 4, 4, 4, 4, 4, 4, 4, 4, 5, 5, 5, 5, 5, 5, 5, 5, 5, 5, 5, 5, 5, 5, 5, 5, 6, 6, 6, 6, 6, 6, 6, 6, 6, 6, 6, 6, 6, 6, 6, 6, 6, 6, 6, 6, 6, 6, 6, 6, 6, 6, 6, 6, 6, 6, 6, 6, 7, 7, 7, 7, 7, 7, 7, 7, 7, 7, 7, 7, 7, 7, 7, 7, 7, 7, 7, 7, 7, 7, 7, 7, 7, 7, 7, 7, 7, 7, 7, 7, 7, 7, 7, 7, 7, 7, 7, 7, 7, 7, 7, 7, 7, 7, 7, 7, 7, 7, 7, 7, 7, 7, 7, 7, 7, 7, 7, 7, 7, 7, 7, 7, 8, 8, 8, 8, 8, 8, 8, 8, 8, 8, 8, 8, 8, 8, 8, 8, 8, 8, 8, 8, 8, 8, 8, 8, 8, 8, 8, 8, 8, 8, 8, 8, 8, 8, 8, 8, 8, 8, 8, 8, 8, 8, 8, 8, 8, 8, 8, 8, 8, 8, 8, 8, 8, 8, 8, 8, 8, 8, 8, 8, 8, 8, 8, 8, 8, 8, 8, 8, 8, 8, 8, 8, 8, 8, 8, 8, 8, 8, 8, 8, 8, 8, 8, 8, 8, 8, 8, 8, 8, 8, 8, 8, 8, 8, 8, 8, 8, 8, 8, 8, 8, 8, 8, 8, 8, 8, 8, 8, 8, 8, 8, 8, 8, 8, 8, 8, 8, 8, 8, 8, 8, 8, 8, 8, 8, 8, 8, 8]⟩ : ByteArray)[n]'h).toNat : Nat) : Int) = ((topN n : Nat) : Int) + 1 := by decide +kernel
theorem own_len8 (n : Nat) (w : World) (h : n < 256) (h0 : n ≠ 0) : Calls Try.prog 27 #[.int .u8 n] w fun e w' => e = .returned (.int .i64 ((topN n : Nat) + 1 : Int)) ∧ Below w.heap.size w w' := by
  have HT : Hid _ := len_tab n h h0
  go_enter Try.func27, Try.ntmps27
  go_wp2_with fail
  go_ret
  exact ⟨congrArg (fun x => Ending.returned (Value.int .i64 x)) HT.out, Below.refl _ _⟩
theorem own_top (m : Int) (w : World) : Calls Try.prog 16 #[.int .i64 m] w fun e w' => e = .returned (tob (topR m)) ∧ Below w.heap.size w w' := by
  by_cases h0 : m = 0
  · subst h0
    rw [show topR 0 = (0, false) by rfl]
    go_enter Try.func16, Try.ntmps16
    go_wp2_with fail
    go_ret2
    exact ⟨rfl, Below.refl _ _⟩
  · have h1 : (m == 0) = false := by simpa using h0
    cases hm : isMaskB m
    · rw [show topR m = (0, false) by simp [topR, hm]]
      go_enter Try.func16, Try.ntmps16
      go_wp2_with fail
      refine (own_isMask m _).mono ?_
      rintro e u1 ⟨rfl, b1⟩
      rw [hm]
      go_wp2_with fail
      go_ret2
      exact ⟨rfl, b1⟩
    · have hR := hm
      obtain ⟨n, rfl, hn⟩ := mask_nat hR
      clear hR
      have hn0 : n ≠ 0 := by omega
      rw [show topR (n : Int) = (((topN n : Nat) : Int), true) by simp [topR, hm, hn0]]
      obtain ⟨-, t1, -⟩ := len_top n hn hn0
      go_enter Try.func16, Try.ntmps16
      go_wp2_with fail
      refine (own_isMask _ _).mono ?_
      rintro e u1 ⟨rfl, b1⟩
      rw [hm]
      go_wp2_with fail
      refine (own_len8 n _ hn hn0).mono ?_
      rintro e u2 ⟨rfl, b2⟩
      go_wp2_with fail
      go_ret2
      exact ⟨by simp [tob], b1.trans (b2.mono b1.size)⟩
theorem ref_top (m : Int) (w : World) : Calls Try.prog 17 #[.int .i64 m] w fun e w' => e = .returned (tob (topR m)) ∧ Below w.heap.size w w' := by
  cases hm : isMaskB m
  · rw [show topR m = (0, false) by simp [topR, hm]]
    go_enter Try.func17, Try.ntmps17
    go_wp2_with fail
    go_loopw [4] (fun i wr => i = .int .i64 7 ∧ wr = w) (fun i _ => (intOf i).toNat)
    case atStart => exact ⟨rfl, rfl⟩
    case round =>
      obtain ⟨rfl, rfl⟩ := hrel
      by_cases h1 : 0 ≤ m
      · have h2 : 255 < m := by simp [isMaskB] at hm; omega
        have h3 : decide (m ≤ 255) = false := decide_eq_false (by omega)
        go_wp2_with fail
        all_goals first | (go_ret2; exact ⟨rfl, Below.refl _ _⟩) | skip
      · have h3 : decide (0 ≤ m) = false := decide_eq_false (by omega)
        go_wp2_with fail
        all_goals first | (go_ret2; exact ⟨rfl, Below.refl _ _⟩) | skip
  · have hR := hm
    obtain ⟨n, rfl, hn⟩ := mask_nat hR
    clear hR
    have HM : Hid (isMaskB (n : Int) = true) := hm
    clear hm
    have hn2 : (n : Int) ≤ 255 := by omega
    obtain ⟨r, hr⟩ : ∃ r, topR (n : Int) = r := ⟨_, rfl⟩
    rw [hr]
    have HR : Hid (topR (n : Int) = r) := hr
    clear hr
    go_enter Try.func17, Try.ntmps17
    go_wp2_with fail
    go_loopw [4] (fun i wr => ∃ j : Nat, j ≤ 8 ∧ i = .int .i64 ((j : Int) - 1) ∧ Hid (n < 2 ^ j) ∧ wr = w) (fun i _ => (intOf i + 1).toNat)
    case atStart => exact ⟨8, by decide, rfl, hn, rfl⟩
    case round =>
      obtain ⟨j, hj, rfl, HT, rfl⟩ := hrel
      have hj2 : j = 0 ∨ j = 1 ∨ j = 2 ∨ j = 3 ∨ j = 4 ∨ j = 5 ∨ j = 6 ∨ j = 7 ∨ j = 8 := by omega
      clear hj
      rcases hj2 with rfl | rfl | rfl | rfl | rfl | rfl | rfl | rfl | rfl
      · have hz : n = 0 := by have := HT.out; omega
        subst hz
        have HE : Hid (r = (0, false)) := HR.out.symm.trans rfl
        go_wp2_with fail
        all_goals first | (go_ret2; exact ⟨by rw [HE.out]; rfl, Below.refl _ _⟩) | skip
      · have HA : ((n : Int) % 2 == 1) = bitN n 0 := by have := div_bit1 n hn 0 (by decide); simpa using this
        cases hb : bitN n 0
        · rw [hb] at HA
          have HN : Hid (n < 2 ^ 0) := top_miss n hn 0 (by decide) HT.out hb
          clear hb
          go_wp2_with fail
          go_roundw
          case measure => exact (by decide)
          exact ⟨0, by decide, rfl, HN, trivial⟩
        · rw [hb] at HA
          have he : r = ((0 : Int), true) := by
            obtain ⟨h1, h2⟩ := top_hit n hn 0 (by decide) HT.out hb
            rw [← HR.out]
            simp [topR, HM.out, h1, h2]
          have HE : Hid (r = ((0 : Int), true)) := he
          clear hb he
          go_wp2_with fail
          go_ret2
          exact ⟨by rw [HE.out]; rfl, Below.refl _ _⟩
      · have HA : ((n : Int) / 2 % 2 == 1) = bitN n 1 := div_bit1 n hn 1 (by decide)
        cases hb : bitN n 1
        · rw [hb] at HA
          have HN : Hid (n < 2 ^ 1) := top_miss n hn 1 (by decide) HT.out hb
          clear hb
          go_wp2_with fail
          go_roundw
          case measure => exact (by decide)
          exact ⟨1, by decide, rfl, HN, trivial⟩
        · rw [hb] at HA
          have he : r = ((1 : Int), true) := by
            obtain ⟨h1, h2⟩ := top_hit n hn 1 (by decide) HT.out hb
            rw [← HR.out]
            simp [topR, HM.out, h1, h2]
          have HE : Hid (r = ((1 : Int), true)) := he
          clear hb he
          go_wp2_with fail
          go_ret2
          exact ⟨by rw [HE.out]; rfl, Below.refl _ _⟩
      · have HA : ((n : Int) / 4 % 2 == 1) = bitN n 2 := div_bit1 n hn 2 (by decide)
        cases hb : bitN n 2
        · rw [hb] at HA
          have HN : Hid (n < 2 ^ 2) := top_miss n hn 2 (by decide) HT.out hb
          clear hb
          go_wp2_with fail
          go_roundw
          case measure => exact (by decide)
          exact ⟨2, by decide, rfl, HN, trivial⟩
        · rw [hb] at HA
          have he : r = ((2 : Int), true) := by
            obtain ⟨h1, h2⟩ := top_hit n hn 2 (by decide) HT.out hb
            rw [← HR.out]
            simp [topR, HM.out, h1, h2]
          have HE : Hid (r = ((2 : Int), true)) := he
          clear hb he
          go_wp2_with fail
          go_ret2
          exact ⟨by rw [HE.out]; rfl, Below.refl _ _⟩
      · have HA : ((n : Int) / 8 % 2 == 1) = bitN n 3 := div_bit1 n hn 3 (by decide)
        cases hb : bitN n 3
        · rw [hb] at HA
          have HN : Hid (n < 2 ^ 3) := top_miss n hn 3 (by decide) HT.out hb
          clear hb
          go_wp2_with fail
          go_roundw
          case measure => exact (by decide)
          exact ⟨3, by decide, rfl, HN, trivial⟩
        · rw [hb] at HA
          have he : r = ((3 : Int), true) := by
            obtain ⟨h1, h2⟩ := top_hit n hn 3 (by decide) HT.out hb
            rw [← HR.out]
            simp [topR, HM.out, h1, h2]
          have HE : Hid (r = ((3 : Int), true)) := he
          clear hb he
          go_wp2_with fail
          go_ret2
          exact ⟨by rw [HE.out]; rfl, Below.refl _ _⟩
      · have HA : ((n : Int) / 16 % 2 == 1) = bitN n 4 := div_bit1 n hn 4 (by decide)
        cases hb : bitN n 4
        · rw [hb] at HA
          have HN : Hid (n < 2 ^ 4) := top_miss n hn 4 (by decide) HT.out hb
          clear hb
          go_wp2_with fail
          go_roundw
          case measure => exact (by decide)
          exact ⟨4, by decide, rfl, HN, trivial⟩
        · rw [hb] at HA
          have he : r = ((4 : Int), true) := by
            obtain ⟨h1, h2⟩ := top_hit n hn 4 (by decide) HT.out hb
            rw [← HR.out]
            simp [topR, HM.out, h1, h2]
          have HE : Hid (r = ((4 : Int), true)) := he
          clear hb he
          go_wp2_with fail
          go_ret2
          exact ⟨by rw [HE.out]; rfl, Below.refl _ _⟩
      · have HA : ((n : Int) / 32 % 2 == 1) = bitN n 5 := div_bit1 n hn 5 (by decide)
        cases hb : bitN n 5
        · rw [hb] at HA
          have HN : Hid (n < 2 ^ 5) := top_miss n hn 5 (by decide) HT.out hb
          clear hb
          go_wp2_with fail
          go_roundw
          case measure => exact (by decide)
          exact ⟨5, by decide, rfl, HN, trivial⟩
        · rw [hb] at HA
          have he : r = ((5 : Int), true) := by
            obtain ⟨h1, h2⟩ := top_hit n hn 5 (by decide) HT.out hb
            rw [← HR.out]
            simp [topR, HM.out, h1, h2]
          have HE : Hid (r = ((5 : Int), true)) := he
          clear hb he
          go_wp2_with fail
          go_ret2
          exact ⟨by rw [HE.out]; rfl, Below.refl _ _⟩
      · have HA : ((n : Int) / 64 % 2 == 1) = bitN n 6 := div_bit1 n hn 6 (by decide)
        cases hb : bitN n 6
        · rw [hb] at HA
          have HN : Hid (n < 2 ^ 6) := top_miss n hn 6 (by decide) HT.out hb
          clear hb
          go_wp2_with fail
          go_roundw
          case measure => exact (by decide)
          exact ⟨6, by decide, rfl, HN, trivial⟩
        · rw [hb] at HA
          have he : r = ((6 : Int), true) := by
            obtain ⟨h1, h2⟩ := top_hit n hn 6 (by decide) HT.out hb
            rw [← HR.out]
            simp [topR, HM.out, h1, h2]
          have HE : Hid (r = ((6 : Int), true)) := he
          clear hb he
          go_wp2_with fail
          go_ret2
          exact ⟨by rw [HE.out]; rfl, Below.refl _ _⟩
      · have HA : ((n : Int) / 128 % 2 == 1) = bitN n 7 := div_bit1 n hn 7 (by decide)
        cases hb : bitN n 7
        · rw [hb] at HA
          have HN : Hid (n < 2 ^ 7) := top_miss n hn 7 (by decide) HT.out hb
          clear hb
          go_wp2_with fail
          go_roundw
          case measure => exact (by decide)
          exact ⟨7, by decide, rfl, HN, trivial⟩
        · rw [hb] at HA
          have he : r = ((7 : Int), true) := by
            obtain ⟨h1, h2⟩ := top_hit n hn 7 (by decide) HT.out hb
            rw [← HR.out]
            simp [topR, HM.out, h1, h2]
          have HE : Hid (r = ((7 : Int), true)) := he
          clear hb he
          go_wp2_with fail
          go_ret2
          exact ⟨by rw [HE.out]; rfl, Below.refl _ _⟩
end Go.Proofs.Ytiaoidbhdkldlaa
