/- Bits of numbers made of words: plain laws. -/
import Derived.Test.YtjmklmcnlieplaaDoorMulplain
import Derived.Laws.Bits64
namespace Go.Proofs.YtjmklmcnlieplaaDoor
set_option maxRecDepth 100000

theorem top_pow (q : Nat) : top q = 2 ^ (32 * q) := by
  induction q with
  | zero => rfl
  | succ q ih =>
    have e : top (q + 1) = 4294967296 * top q := rfl
    rw [e, ih, show 32 * (q + 1) = 32 * q + 32 from by omega, Int.pow_add, Int.mul_comm]
    rfl
theorem nv_div_top {l : List Int} (h : Wds l) (q : Nat) : nv l / top q = nv (l.drop q) := by
  by_cases hq : q ≤ l.length
  · have e := nv_append (l.take q) (l.drop q)
    rw [List.take_append_drop, List.length_take, Nat.min_eq_left hq] at e
    have hr := nv_range (h.take q)
    rw [List.length_take, Nat.min_eq_left hq] at hr
    have hp := top_pos q
    rw [e, Int.add_mul_ediv_left _ _ (by omega), Int.ediv_eq_zero_of_lt hr.1 hr.2, Int.zero_add]
  · have hr := nv_range h
    have := top_mono (m := l.length) (n := q) (by omega)
    rw [List.drop_of_length_le (by omega), Int.ediv_eq_zero_of_lt hr.1 (by omega)]
    rfl
theorem nv_bit {l : List Int} (h : Wds l) (q r : Nat) (hr : r < 32) : nv l / 2 ^ (32 * q + r) % 2 = l.getD q 0 / 2 ^ r % 2 := by
  rw [Int.pow_add, ← Int.ediv_ediv_of_nonneg (Int.pow_nonneg (by decide)), ← top_pow, nv_div_top h]
  by_cases hq : q < l.length
  · have e : nv (l.drop q) = l.getD q 0 + 4294967296 * nv (l.drop (q + 1)) := by
      rw [List.drop_eq_getElem_cons hq, List.getD_eq_getElem?_getD, List.getElem?_eq_getElem hq]; rfl
    rw [e]
    generalize l.getD q 0 = x
    generalize nv (l.drop (q + 1)) = y
    have e2 : (4294967296 : Int) = 2 ^ r * (2 * 2 ^ (31 - r)) := by
      have : (2 : Int) ^ r * (2 * 2 ^ (31 - r)) = 2 ^ (r + (1 + (31 - r))) := by rw [Int.pow_add, Int.pow_add]; rfl
      rw [this, show r + (1 + (31 - r)) = 32 from by omega]; rfl
    have hp : (0 : Int) < 2 ^ r := Int.pow_pos (by decide)
    rw [e2, Int.mul_assoc, Int.add_mul_ediv_left _ _ (by omega), Int.mul_assoc, Int.add_mul_emod_self_left]
  · rw [List.drop_of_length_le (by omega), List.getD_eq_getElem?_getD, List.getElem?_eq_none (by omega)]
    simp [nv]
theorem and_one {x : Int} (h0 : 0 ≤ x) (h1 : x < 18446744073709551616) : bits .and .u64 x 1 = x % 2 := by
  obtain ⟨a, rfl⟩ := Int.eq_ofNat_of_zero_le h0
  have := u64_and_nat a 1 (by omega) (by decide)
  rw [show (1 : Int) = ((1 : Nat) : Int) from rfl, this, Nat.and_one_is_mod]
  omega
/-- The length in bits: n with 2^(n - 1) ≤ x < 2^n. -/
theorem len_iff {x : Int} {n : Nat} (h1 : x < 2 ^ n) (h2 : n = 0 ∨ (2 : Int) ^ (n - 1) ≤ x) (k : Nat) : n ≤ k ↔ x < 2 ^ k := by
  have mono : ∀ a b : Nat, a ≤ b → (2 : Int) ^ a ≤ 2 ^ b := fun a b hab => by
    obtain ⟨c, rfl⟩ := Nat.exists_eq_add_of_le hab
    rw [Int.pow_add]
    have h3 : (0 : Int) < 2 ^ a := Int.pow_pos (by decide)
    have h4 : (0 : Int) < 2 ^ c := Int.pow_pos (by decide)
    have : (2 : Int) ^ a * 1 ≤ 2 ^ a * 2 ^ c := Int.mul_le_mul_of_nonneg_left (by omega) (by omega)
    omega
  constructor
  · intro h; have := mono n k h; omega
  · intro h
    by_cases hk : n ≤ k
    · exact hk
    · rcases h2 with h2 | h2
      · omega
      · have := mono k (n - 1) (by omega); omega
/-- The top word's bits and the words below. -/
theorem len_words {l : List Int} (h : Wds l) {m j : Nat} {t : Int} (hm : l.length = m + 1) (ht : l.getD m 0 = t) (h1 : t < 2 ^ j) (hj : 0 < j) (h2 : (2 : Int) ^ (j - 1) ≤ t) (k : Nat) : 32 * m + j ≤ k ↔ nv l < 2 ^ k := by
  have e : nv l = nv (l.take m) + top m * t := by
    have := nv_take_succ l m
    rw [List.take_of_length_le (by omega), ht] at this
    exact this
  have hr := nv_range (h.take m)
  rw [List.length_take, Nat.min_eq_left (by omega)] at hr
  have hp := top_pos m
  apply len_iff
  · rw [e, Int.pow_add, ← top_pow]
    have : top m * (t + 1) ≤ top m * 2 ^ j := Int.mul_le_mul_of_nonneg_left (by omega) (by omega)
    rw [Int.mul_add] at this
    omega
  · right
    rw [show 32 * m + j - 1 = 32 * m + (j - 1) from by omega, Int.pow_add, ← top_pow, e]
    have : top m * 2 ^ (j - 1) ≤ top m * t := Int.mul_le_mul_of_nonneg_left h2 (by omega)
    omega
theorem or_low {x y : Int} (h0 : 0 ≤ x) (h1 : x < 4294967296) (h2 : 0 ≤ y) (h3 : y < 4294967296) : bits .or .u64 x (y * 4294967296) = x + 4294967296 * y := by
  obtain ⟨a, rfl⟩ := Int.eq_ofNat_of_zero_le h0
  obtain ⟨b, rfl⟩ := Int.eq_ofNat_of_zero_le h2
  have e : ((b : Int) * 4294967296) = ((b * 4294967296 : Nat) : Int) := by omega
  rw [e, u64_or_nat _ _ (by omega) (by omega), Nat.or_comm, nat_join 32 _ _ (by omega) (by omega)]
  omega
end Go.Proofs.YtjmklmcnlieplaaDoor
