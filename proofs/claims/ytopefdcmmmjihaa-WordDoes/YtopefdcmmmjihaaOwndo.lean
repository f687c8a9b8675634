/- What word.Do answers, and that it is what panicroadref.Do answers. -/
import Derived.Test.YtopefdcmmmjihaaRefdo
namespace Go.Proofs.Ytopefdcmmmjihaa
open Go.ChangeShapes Go.WideShapes Go.ChangeAt Go.RowKit

theorem wrap_same {x y : Int} (h : x % 18446744073709551616 = y % 18446744073709551616) : wrap64 x = wrap64 y := by rw [wrap_of, wrap_of, h]
theorem wrap_in {x : Int} (h0 : -9223372036854775808 ≤ x) (h1 : x ≤ 9223372036854775807) : wrap64 x = x := by unfold wrap64; omega
theorem shl_same (a : Int) (n : Nat) : wrap64 (a * 2 ^ min n 64) = wrap64 (a * 2 ^ min n 70) := by
  rcases Nat.lt_or_ge n 64 with h | h
  · rw [Nat.min_eq_left (by omega), Nat.min_eq_left (by omega)]
  · apply wrap_same
    obtain ⟨k, hk⟩ : ∃ k, min n 70 = 64 + k := ⟨min n 70 - 64, by omega⟩
    rw [Nat.min_eq_right h, hk, Int.pow_add, show (2 : Int) ^ 64 = 18446744073709551616 from rfl]
    have e1 : a * 18446744073709551616 = 18446744073709551616 * a := Int.mul_comm _ _
    have e2 : a * (18446744073709551616 * 2 ^ k) = 18446744073709551616 * (a * 2 ^ k) := by rw [Int.mul_left_comm]
    rw [e1, e2, Int.mul_emod_right, Int.mul_emod_right]
theorem shr_in (a : Int) (k : Nat) (h0 : -9223372036854775808 ≤ a) (h1 : a ≤ 9223372036854775807) : -9223372036854775808 ≤ a / 2 ^ k ∧ a / 2 ^ k ≤ 9223372036854775807 := by
  have q0 : (0 : Int) < 2 ^ k := Int.pow_pos (by decide)
  generalize (2 : Int) ^ k = d at *
  refine ⟨?_, ?_⟩
  · rw [Int.le_ediv_iff_mul_le q0]
    have : (-9223372036854775808) * d ≤ -9223372036854775808 := by omega
    omega
  · rcases Int.lt_or_le a 0 with h | h
    · have := Int.ediv_neg_of_neg_of_pos h q0; omega
    · have := Int.ediv_le_self d h; omega
theorem shr_far (a : Int) (k : Nat) (hk : 63 ≤ k) (h0 : -9223372036854775808 ≤ a) (h1 : a ≤ 9223372036854775807) : a / 2 ^ k = if a < 0 then -1 else 0 := by
  obtain ⟨j, rfl⟩ : ∃ j, k = 63 + j := ⟨k - 63, by omega⟩
  have q0 : (1 : Int) ≤ 2 ^ j := by have : (0 : Int) < 2 ^ j := Int.pow_pos (by decide)
                                    omega
  rw [Int.pow_add, show (2 : Int) ^ 63 = 9223372036854775808 from rfl, ← Int.ediv_ediv_of_nonneg (by decide)]
  split
  · have e : a / 9223372036854775808 = -1 := by omega
    rw [e]
    have a1 : -1 ≤ -1 / (2 : Int) ^ j := by rw [Int.le_ediv_iff_mul_le (by omega)]; omega
    have a2 : -1 / (2 : Int) ^ j < 0 := Int.ediv_neg_of_neg_of_pos (by decide) (by omega)
    omega
  · have e : a / 9223372036854775808 = 0 := by omega
    rw [e, Int.zero_ediv]
theorem shr_same (a : Int) (n : Nat) (h0 : -9223372036854775808 ≤ a) (h1 : a ≤ 9223372036854775807) : a / 2 ^ min n 64 = wrap64 (a / 2 ^ min n 70) := by
  have hi := shr_in a (min n 70) h0 h1
  rw [wrap_in hi.1 hi.2]
  rcases Nat.lt_or_ge n 64 with h | h
  · rw [Nat.min_eq_left (by omega), Nat.min_eq_left (by omega)]
  · rw [shr_far a _ (by omega) h0 h1, shr_far a _ (by omega) h0 h1]

theorem own_add (a b : Int) (w : World) :
    Calls Try.prog 6 #[.int .i64 1, .int .i64 a, .int .i64 b] w fun e w' => e = .returned (.tuple #[.int .i64 (wrap64 (a + b)), .int .i64 0]) ∧ w' = w := by
  go_enter Try.func6, Try.ntmps6
  go_wp2
  go_ret2
  exact ⟨rfl, rfl⟩

theorem own_sub (a b : Int) (w : World) :
    Calls Try.prog 6 #[.int .i64 2, .int .i64 a, .int .i64 b] w fun e w' => e = .returned (.tuple #[.int .i64 (wrap64 (a - b)), .int .i64 0]) ∧ w' = w := by
  go_enter Try.func6, Try.ntmps6
  go_wp2
  go_ret2
  exact ⟨rfl, rfl⟩

theorem own_mul (a b : Int) (w : World) :
    Calls Try.prog 6 #[.int .i64 3, .int .i64 a, .int .i64 b] w fun e w' => e = .returned (.tuple #[.int .i64 (wrap64 (a * b)), .int .i64 0]) ∧ w' = w := by
  go_enter Try.func6, Try.ntmps6
  go_wp2
  go_ret2
  exact ⟨rfl, rfl⟩

theorem own_quo (a b : Int) (h : ¬ b = 0) (w : World) :
    Calls Try.prog 6 #[.int .i64 4, .int .i64 a, .int .i64 b] w fun e w' => e = .returned (.tuple #[.int .i64 (wrap64 (a.tdiv b)), .int .i64 0]) ∧ w' = w := by
  have h' : (b == 0) = false := by simpa using h
  go_enter Try.func6, Try.ntmps6
  go_wp2
  go_ret2
  exact ⟨rfl, rfl⟩

theorem own_rem (a b : Int) (h : ¬ b = 0) (w : World) :
    Calls Try.prog 6 #[.int .i64 5, .int .i64 a, .int .i64 b] w fun e w' => e = .returned (.tuple #[.int .i64 (a.tmod b), .int .i64 0]) ∧ w' = w := by
  have h' : (b == 0) = false := by simpa using h
  go_enter Try.func6, Try.ntmps6
  go_wp2
  go_ret2
  exact ⟨rfl, rfl⟩

theorem own_quo_no (a b : Int) (h : b = 0) (w : World) :
    Calls Try.prog 6 #[.int .i64 4, .int .i64 a, .int .i64 b] w fun e w' => e = .returned (.tuple #[.int .i64 (0), .int .i64 20]) ∧ w' = w := by
  subst h
  go_enter Try.func6, Try.ntmps6
  go_wp2
  go_ret2
  exact ⟨rfl, rfl⟩

theorem own_rem_no (a b : Int) (h : b = 0) (w : World) :
    Calls Try.prog 6 #[.int .i64 5, .int .i64 a, .int .i64 b] w fun e w' => e = .returned (.tuple #[.int .i64 (0), .int .i64 20]) ∧ w' = w := by
  subst h
  go_enter Try.func6, Try.ntmps6
  go_wp2
  go_ret2
  exact ⟨rfl, rfl⟩

theorem own_shl_no (a b : Int) (h : b < 0) (w : World) :
    Calls Try.prog 6 #[.int .i64 6, .int .i64 a, .int .i64 b] w fun e w' => e = .returned (.tuple #[.int .i64 (0), .int .i64 21]) ∧ w' = w := by
  go_enter Try.func6, Try.ntmps6
  go_wp2
  go_ret2
  exact ⟨rfl, rfl⟩

theorem own_shr_no (a b : Int) (h : b < 0) (w : World) :
    Calls Try.prog 6 #[.int .i64 7, .int .i64 a, .int .i64 b] w fun e w' => e = .returned (.tuple #[.int .i64 (0), .int .i64 21]) ∧ w' = w := by
  go_enter Try.func6, Try.ntmps6
  go_wp2
  go_ret2
  exact ⟨rfl, rfl⟩

theorem own_shl (a b : Int) (h0 : 0 ≤ b) (h1 : b ≤ 9223372036854775807) (w : World) :
    Calls Try.prog 6 #[.int .i64 6, .int .i64 a, .int .i64 b] w fun e w' => e = .returned (.tuple #[.int .i64 (wrap64 (a * 2 ^ min b.toNat 64)), .int .i64 0]) ∧ w' = w := by
  go_enter Try.func6, Try.ntmps6
  go_wp2
  go_ret2
  exact ⟨rfl, rfl⟩

theorem own_shr (a b : Int) (h0 : 0 ≤ b) (h1 : b ≤ 9223372036854775807) (w : World) :
    Calls Try.prog 6 #[.int .i64 7, .int .i64 a, .int .i64 b] w fun e w' => e = .returned (.tuple #[.int .i64 (a / 2 ^ min b.toNat 64), .int .i64 0]) ∧ w' = w := by
  go_enter Try.func6, Try.ntmps6
  go_wp2
  go_ret2
  exact ⟨rfl, rfl⟩

theorem own_and (a b : Int) (w : World) :
    Calls Try.prog 6 #[.int .i64 8, .int .i64 a, .int .i64 b] w fun e w' => e = .returned (.tuple #[.int .i64 (bits .and .i64 a b), .int .i64 0]) ∧ w' = w := by
  go_enter Try.func6, Try.ntmps6
  go_wp2
  go_ret2
  exact ⟨rfl, rfl⟩

theorem own_or (a b : Int) (w : World) :
    Calls Try.prog 6 #[.int .i64 9, .int .i64 a, .int .i64 b] w fun e w' => e = .returned (.tuple #[.int .i64 (bits .or .i64 a b), .int .i64 0]) ∧ w' = w := by
  go_enter Try.func6, Try.ntmps6
  go_wp2
  go_ret2
  exact ⟨rfl, rfl⟩

theorem own_xor (a b : Int) (w : World) :
    Calls Try.prog 6 #[.int .i64 10, .int .i64 a, .int .i64 b] w fun e w' => e = .returned (.tuple #[.int .i64 (bits .xor .i64 a b), .int .i64 0]) ∧ w' = w := by
  go_enter Try.func6, Try.ntmps6
  go_wp2
  go_ret2
  exact ⟨rfl, rfl⟩

theorem own_other (op a b : Int) (h : op < 1 ∨ 10 < op) (w : World) :
    Calls Try.prog 6 #[.int .i64 op, .int .i64 a, .int .i64 b] w fun e w' => e = .returned (.tuple #[.int .i64 0, .int .i64 13]) ∧ w' = w := by
  have h1 : (op == 1) = false := by rw [beq_eq_false_iff_ne]; omega
  have h2 : (op == 2) = false := by rw [beq_eq_false_iff_ne]; omega
  have h3 : (op == 3) = false := by rw [beq_eq_false_iff_ne]; omega
  have h4 : (op == 4) = false := by rw [beq_eq_false_iff_ne]; omega
  have h5 : (op == 5) = false := by rw [beq_eq_false_iff_ne]; omega
  have h6 : (op == 6) = false := by rw [beq_eq_false_iff_ne]; omega
  have h7 : (op == 7) = false := by rw [beq_eq_false_iff_ne]; omega
  have h8 : (op == 8) = false := by rw [beq_eq_false_iff_ne]; omega
  have h9 : (op == 9) = false := by rw [beq_eq_false_iff_ne]; omega
  have h10 : (op == 10) = false := by rw [beq_eq_false_iff_ne]; omega
  go_enter Try.func6, Try.ntmps6
  go_wp2
  go_ret2
  exact ⟨rfl, rfl⟩
/-- Both answer the same. -/
theorem does_same (op a b : Int) (a0 : -9223372036854775808 ≤ a) (a1 : a ≤ 9223372036854775807) (b0 : -9223372036854775808 ≤ b) (b1 : b ≤ 9223372036854775807) :
    ∃ r f : Int, (∀ w, Calls Try.prog 6 #[.int .i64 op, .int .i64 a, .int .i64 b] w fun e w' => e = .returned (.tuple #[.int .i64 r, .int .i64 f]) ∧ w' = w) ∧
      ∀ w, Calls Try.prog 7 #[.int .i64 op, .int .i64 a, .int .i64 b] w fun e w' => e = .returned (.tuple #[.int .i64 r, .int .i64 f]) ∧ Below w.heap.size w w' := by
  by_cases ho : op < 1 ∨ 10 < op
  · exact ⟨0, 13, own_other op a b ho, ref_other op a b ho⟩
  rcases (show op = 1 ∨ op = 2 ∨ op = 3 ∨ op = 4 ∨ op = 5 ∨ op = 6 ∨ op = 7 ∨ op = 8 ∨ op = 9 ∨ op = 10 by omega) with rfl | rfl | rfl | rfl | rfl | rfl | rfl | rfl | rfl | rfl
  · exact ⟨_, 0, own_add a b, ref_add a b a0 a1 b0 b1⟩
  · exact ⟨_, 0, own_sub a b, ref_sub a b a0 a1 b0 b1⟩
  · exact ⟨_, 0, own_mul a b, ref_mul a b a0 a1 b0 b1⟩
  · by_cases h : b = 0
    · exact ⟨0, 20, own_quo_no a b h, ref_quo_no a b h⟩
    · exact ⟨_, 0, own_quo a b h, ref_quo a b a0 a1 b0 b1 h⟩
  · by_cases h : b = 0
    · exact ⟨0, 20, own_rem_no a b h, ref_rem_no a b h⟩
    · refine ⟨_, 0, own_rem a b h, ?_⟩
      have e : wrap64 (a.tmod b) = a.tmod b := by
        have h2 := Int.natAbs_tmod a b
        have h4 := Nat.mod_le a.natAbs b.natAbs
        by_cases hn : 0 ≤ a
        · have := Int.tmod_nonneg b hn; exact wrap_in (by omega) (by omega)
        · have h5 := Int.neg_tmod (a := -a) (b := b)
          rw [Int.neg_neg] at h5
          have h6 := Int.tmod_nonneg b (show 0 ≤ -a by omega)
          exact wrap_in (by omega) (by omega)
      rw [← e]
      exact ref_rem a b a0 a1 b0 b1 h
  · by_cases h : b < 0
    · exact ⟨0, 21, own_shl_no a b h, ref_shl_no a b h⟩
    · obtain ⟨n, rfl⟩ := Int.eq_ofNat_of_zero_le (show 0 ≤ b by omega)
      refine ⟨_, 0, own_shl a n (by omega) b1, ?_⟩
      rw [Int.toNat_natCast, shl_same]
      exact ref_shl a n a0 a1 (by omega)
  · by_cases h : b < 0
    · exact ⟨0, 21, own_shr_no a b h, ref_shr_no a b h⟩
    · obtain ⟨n, rfl⟩ := Int.eq_ofNat_of_zero_le (show 0 ≤ b by omega)
      refine ⟨_, 0, own_shr a n (by omega) b1, ?_⟩
      rw [Int.toNat_natCast, shr_same a n a0 a1]
      exact ref_shr a n a0 a1 (by omega)
  · exact ⟨_, 0, own_and a b, ref_and a b⟩
  · exact ⟨_, 0, own_or a b, ref_or a b⟩
  · exact ⟨_, 0, own_xor a b, ref_xor a b⟩
end Go.Proofs.Ytopefdcmmmjihaa
