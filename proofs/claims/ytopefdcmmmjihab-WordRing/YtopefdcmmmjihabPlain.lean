/- The plain laws of numbers of 64 bits that the keeping statements of package word rest on: no program in sight. -/
import Derived.WalkKit
namespace Go.Proofs.Ytopefdcmmmjihab
open Go.RowKit

theorem wrap_toInt (n : Int) : wrap64 n = (BitVec.ofInt 64 n).toInt := by
  rw [BitVec.toInt_ofInt]; unfold wrap64; rw [Int.bmod_def]; simp; omega
theorem ofInt_wrap (n : Int) : BitVec.ofInt 64 (wrap64 n) = BitVec.ofInt 64 n := by
  rw [wrap_toInt, BitVec.ofInt_toInt]
theorem wrap_fit {n : Int} (h : (Lit.int .i64 n).wf = true) : -9223372036854775808 ≤ n ∧ n ≤ 9223372036854775807 := by
  simp [Lit.wf, IntKind.min, IntKind.max, IntKind.bits, IntKind.signed] at h; omega
theorem wrap_self {n : Int} (h : -9223372036854775808 ≤ n ∧ n ≤ 9223372036854775807) : wrap64 n = n := by unfold wrap64; omega

theorem add_assoc64 (a b c : Int) : wrap64 (wrap64 (a + b) + c) = wrap64 (a + wrap64 (b + c)) := by unfold wrap64; omega
theorem mul_assoc64 (a b c : Int) : wrap64 (wrap64 (a * b) * c) = wrap64 (a * wrap64 (b * c)) := by
  simp only [wrap_toInt (wrap64 _ * _), wrap_toInt (_ * wrap64 _), BitVec.ofInt_mul, ofInt_wrap, BitVec.mul_assoc]
theorem dist64 (a b c : Int) : wrap64 (a * wrap64 (b + c)) = wrap64 (wrap64 (a * b) + wrap64 (a * c)) := by
  simp only [wrap_toInt (_ * wrap64 _), wrap_toInt (wrap64 _ + wrap64 _), BitVec.ofInt_mul, BitVec.ofInt_add, ofInt_wrap, BitVec.mul_add]
theorem sub_back64 (a b : Int) (h : -9223372036854775808 ≤ a ∧ a ≤ 9223372036854775807) : wrap64 (wrap64 (a + b) - b) = a := by unfold wrap64; omega

theorem bits_and (a b : Int) : bits .and .i64 a b = (BitVec.ofInt 64 a &&& BitVec.ofInt 64 b).toInt := by
  show IntKind.i64.wrap ((BitVec.ofInt 64 a &&& BitVec.ofInt 64 b).toNat : Int) = _
  rw [IntWalk.i64_left, wrap_toInt, BitVec.ofInt_natCast, BitVec.ofNat_toNat, BitVec.setWidth_eq]
theorem bits_or (a b : Int) : bits .or .i64 a b = (BitVec.ofInt 64 a ||| BitVec.ofInt 64 b).toInt := by
  show IntKind.i64.wrap ((BitVec.ofInt 64 a ||| BitVec.ofInt 64 b).toNat : Int) = _
  rw [IntWalk.i64_left, wrap_toInt, BitVec.ofInt_natCast, BitVec.ofNat_toNat, BitVec.setWidth_eq]
theorem bits_xor (a b : Int) : bits .xor .i64 a b = (BitVec.ofInt 64 a ^^^ BitVec.ofInt 64 b).toInt := by
  show IntKind.i64.wrap ((BitVec.ofInt 64 a ^^^ BitVec.ofInt 64 b).toNat : Int) = _
  rw [IntWalk.i64_left, wrap_toInt, BitVec.ofInt_natCast, BitVec.ofNat_toNat, BitVec.setWidth_eq]

theorem and_add_or {n : Nat} (x y : BitVec n) : (x &&& y) + (x ||| y) = x + y := by
  have h1 : x ||| y = (x &&& ~~~y) + y := by
    rw [BitVec.add_eq_or_of_and_eq_zero]
    · apply BitVec.eq_of_getLsbD_eq; intro i hi; simp [hi]; cases x[i] <;> cases y[i] <;> rfl
    · apply BitVec.eq_of_getLsbD_eq; intro i hi; simp [hi]; try (cases x[i] <;> cases y[i] <;> simp)
  have h2 : x = (x &&& y) + (x &&& ~~~y) := by
    rw [BitVec.add_eq_or_of_and_eq_zero]
    · apply BitVec.eq_of_getLsbD_eq; intro i hi; simp [hi]; cases x[i] <;> cases y[i] <;> rfl
    · apply BitVec.eq_of_getLsbD_eq; intro i hi; simp [hi]; try (cases x[i] <;> cases y[i] <;> simp)
  rw [h1, ← BitVec.add_assoc, ← h2]
theorem ofInt_sub64 (a b : Int) : BitVec.ofInt 64 (a - b) = BitVec.ofInt 64 a - BitVec.ofInt 64 b := by
  rw [Int.sub_eq_add_neg, BitVec.ofInt_add, BitVec.ofInt_neg, BitVec.sub_eq_add_neg]
theorem and_or_sum (a b : Int) : wrap64 (bits .and .i64 a b + bits .or .i64 a b) = wrap64 (a + b) := by
  simp only [bits_and, bits_or, wrap_toInt, BitVec.ofInt_add, BitVec.ofInt_toInt]
  rw [and_add_or]
theorem or_xor_and {n : Nat} (x y : BitVec n) : (x ||| y) - (x &&& y) = x ^^^ y := by
  have h : x ||| y = (x ^^^ y) + (x &&& y) := by
    rw [BitVec.add_eq_or_of_and_eq_zero]
    · apply BitVec.eq_of_getLsbD_eq; intro i hi; simp; cases x.getLsbD i <;> cases y.getLsbD i <;> rfl
    · apply BitVec.eq_of_getLsbD_eq; intro i hi; simp; cases x.getLsbD i <;> cases y.getLsbD i <;> simp
  rw [h, BitVec.add_sub_cancel]
theorem or_sub_and (a b : Int) : wrap64 (bits .or .i64 a b - bits .and .i64 a b) = bits .xor .i64 a b := by
  simp only [bits_and, bits_or, bits_xor, wrap_toInt, ofInt_sub64, BitVec.ofInt_toInt]
  rw [or_xor_and]
theorem xor_back (a b : Int) (h : -9223372036854775808 ≤ a ∧ a ≤ 9223372036854775807) : bits .xor .i64 (bits .xor .i64 a b) b = a := by
  rw [bits_xor, bits_xor, BitVec.ofInt_toInt, BitVec.xor_assoc, BitVec.xor_self, BitVec.xor_zero, ← wrap_toInt, wrap_self h]
theorem and_self64 (a : Int) (h : -9223372036854775808 ≤ a ∧ a ≤ 9223372036854775807) : bits .and .i64 a a = a := by
  rw [bits_and, BitVec.and_self, ← wrap_toInt, wrap_self h]

/-- A number counted round below 40. -/
def rnd (v : Int) : Int := v % 40
theorem rnd_range (v : Int) : 0 ≤ rnd v ∧ rnd v < 40 := by unfold rnd; omega
theorem wrap_mul_wrap (a b : Int) : wrap64 (wrap64 a * b) = wrap64 (a * b) := by
  simp only [wrap_toInt (wrap64 _ * _), wrap_toInt (_ * _), BitVec.ofInt_mul, ofInt_wrap]
theorem wrap_pow64 (a : Int) (n : Nat) (h : 64 ≤ n) : wrap64 (a * 2 ^ n) = 0 := by
  obtain ⟨m, rfl⟩ := Nat.exists_eq_add_of_le h
  rw [Int.pow_add]
  have e : (2 : Int) ^ 64 = 18446744073709551616 := by decide
  rw [e]
  have : a * (18446744073709551616 * 2 ^ m) = 18446744073709551616 * (a * 2 ^ m) := by
    rw [Int.mul_left_comm]
  rw [this]; generalize a * 2 ^ m = x; unfold wrap64; omega
theorem shl_two (a j k : Int) (hj : 0 ≤ j ∧ j < 40) (hk : 0 ≤ k ∧ k < 40) :
    wrap64 (wrap64 (a * 2 ^ min j.toNat 64) * 2 ^ min k.toNat 64) = wrap64 (a * 2 ^ min (j + k).toNat 64) := by
  obtain ⟨m, rfl⟩ := Int.eq_ofNat_of_zero_le hj.1
  obtain ⟨n, rfl⟩ := Int.eq_ofNat_of_zero_le hk.1
  rw [wrap_mul_wrap, Int.mul_assoc, ← Int.pow_add]
  have e1 : min (m : Int).toNat 64 = m := by omega
  have e2 : min (n : Int).toNat 64 = n := by omega
  have e3 : min ((m : Int) + n).toNat 64 = min (m + n) 64 := by omega
  rw [e1, e2, e3]
  by_cases h : m + n ≤ 64
  · rw [Nat.min_eq_left h]
  · rw [Nat.min_eq_right (by omega), wrap_pow64 a (m + n) (by omega), wrap_pow64 a 64 (Nat.le_refl _)]
theorem div_pow_far (a : Int) (n : Nat) (h : 64 ≤ n) (ha : -9223372036854775808 ≤ a ∧ a ≤ 9223372036854775807) : a / 2 ^ n = if a < 0 then -1 else 0 := by
  have e : (2 : Int) ^ n ≥ 18446744073709551616 := by
    obtain ⟨m, rfl⟩ := Nat.exists_eq_add_of_le h
    rw [Int.pow_add]
    have e1 : (2 : Int) ^ 64 = 18446744073709551616 := by decide
    have e2 : (0 : Int) < 2 ^ m := Int.pow_pos (by decide)
    rw [e1]; omega
  generalize (2 : Int) ^ n = p at e
  by_cases hn : a < 0
  · rw [if_pos hn]
    apply Int.le_antisymm
    · have : a / p < 0 := Int.ediv_neg_of_neg_of_pos hn (by omega)
      omega
    · exact Int.le_ediv_of_mul_le (by omega) (by omega)
  · rw [if_neg hn]; exact Int.ediv_eq_zero_of_lt (by omega) (by omega)
theorem shr_two (a j k : Int) (ha : -9223372036854775808 ≤ a ∧ a ≤ 9223372036854775807) (hj : 0 ≤ j ∧ j < 40) (hk : 0 ≤ k ∧ k < 40) :
    a / 2 ^ min j.toNat 64 / 2 ^ min k.toNat 64 = a / 2 ^ min (j + k).toNat 64 := by
  obtain ⟨m, rfl⟩ := Int.eq_ofNat_of_zero_le hj.1
  obtain ⟨n, rfl⟩ := Int.eq_ofNat_of_zero_le hk.1
  have e1 : min (m : Int).toNat 64 = m := by omega
  have e2 : min (n : Int).toNat 64 = n := by omega
  have e3 : min ((m : Int) + n).toNat 64 = min (m + n) 64 := by omega
  rw [e1, e2, e3, Int.ediv_ediv_of_nonneg (Int.pow_nonneg (by decide)), ← Int.pow_add]
  by_cases h : m + n ≤ 64
  · rw [Nat.min_eq_left h]
  · rw [Nat.min_eq_right (by omega), div_pow_far a (m + n) (by omega) ha, div_pow_far a 64 (Nat.le_refl _) ha]
theorem shl_all (a j : Int) (hj : 0 ≤ j ∧ j < 40) : wrap64 (a * 2 ^ min (64 + j).toNat 64) = 0 :=
  wrap_pow64 a _ (by omega)

/-- The quotient, rounded toward 0, in 64 bits; what is left. -/
def qF (a b : Int) : Int := wrap64 (a.tdiv b)
def rF (a b : Int) : Int := a.tmod b
theorem quo_rem (a b : Int) (ha : -9223372036854775808 ≤ a ∧ a ≤ 9223372036854775807) : wrap64 (wrap64 (qF a b * b) + rF a b) = a := by
  unfold qF rF
  rw [wrap_mul_wrap]
  have h : wrap64 (wrap64 (a.tdiv b * b) + a.tmod b) = wrap64 (a.tdiv b * b + a.tmod b) := by
    generalize a.tdiv b * b = x; generalize a.tmod b = y; unfold wrap64; omega
  rw [h, Int.tdiv_mul_add_tmod, wrap_self ha]
theorem rem_near_pos (a b : Int) (hb : 0 < b) : - b < a.tmod b ∧ a.tmod b < b := by
  exact ⟨Int.lt_tmod_of_pos a hb, Int.tmod_lt_of_pos a hb⟩
theorem rem_near (a b : Int) (hb : ¬ b = 0) : (b < - a.tmod b ∨ a.tmod b < b) ∧ (b < a.tmod b ∨ - b < a.tmod b) := by
  by_cases h : 0 < b
  · have := rem_near_pos a b h; omega
  · have := rem_near_pos a (- b) (by omega); rw [Int.tmod_neg] at this; omega
theorem rem_sign (a b : Int) : (0 < a.tmod b → 0 < a) ∧ (a.tmod b < 0 → a < 0) := by
  by_cases h : 0 ≤ a
  · have h1 := Int.tmod_nonneg b h
    refine ⟨fun hp => ?_, fun hn => by omega⟩
    by_cases h0 : a = 0
    · subst h0; simp at hp
    · omega
  · have h1 := Int.tmod_nonneg b (show 0 ≤ - a by omega)
    rw [Int.neg_tmod] at h1
    exact ⟨fun hp => by omega, fun _ => by omega⟩
theorem rF_facts (a b : Int) (hb : ¬ b = 0) : (0 < rF a b → 0 < a ∧ (b < - rF a b ∨ rF a b < b)) ∧ (rF a b < 0 → a < 0 ∧ (b < rF a b ∨ - b < rF a b)) := by
  have h1 := rem_near a b hb
  have h2 := rem_sign a b
  unfold rF
  exact ⟨fun h => ⟨h2.1 h, h1.1⟩, fun h => ⟨h2.2 h, h1.2⟩⟩
theorem rF_range (a b : Int) (hb : ¬ b = 0) (h : -9223372036854775808 ≤ b ∧ b ≤ 9223372036854775807) : -9223372036854775807 ≤ rF a b ∧ rF a b ≤ 9223372036854775807 := by
  unfold rF
  by_cases hp : 0 < b
  · have := rem_near_pos a b hp; omega
  · have := rem_near_pos a (- b) (by omega); rw [Int.tmod_neg] at this; omega
end Go.Proofs.Ytopefdcmmmjihab
