/- Bit by bit: plain laws. -/
import Derived.WalkKit
import Derived.Laws.Bits64
namespace Go.Proofs.Ytopefdcmmmjihaa
open Go.RowKit

theorem i64_and_one (v : Int) : bits .and .i64 v 1 = v % 2 := by
  show IntKind.i64.wrap ((BitVec.ofInt 64 v &&& BitVec.ofInt 64 1).toNat : Int) = _
  rw [BitVec.toNat_and, show (BitVec.ofInt 64 1).toNat = 1 from rfl, Nat.and_one_is_mod, BitVec.toNat_ofInt, IntKind.wrap_i64]
  omega
theorem wrap_step (R : Int) (t : Nat) : wrap64 (wrap64 (wrap64 (R / 2 ^ (t + 1)) * 2) + R / 2 ^ t % 2) = wrap64 (R / 2 ^ t) := by
  have e : R / 2 ^ (t + 1) = R / 2 ^ t / 2 := by
    rw [Int.ediv_ediv_of_nonneg (Int.pow_nonneg (by decide)), Int.pow_succ]
  rw [e]
  generalize R / 2 ^ t = X
  unfold wrap64
  omega
theorem bit_low (a : Int) (k : Nat) (hk : k < 64) : a / 2 ^ k % 2 = (((BitVec.ofInt 64 a).toNat / 2 ^ k % 2 : Nat) : Int) := by
  rw [BitVec.toNat_ofInt]
  have h0 : 0 ≤ a % ((2 ^ 64 : Nat) : Int) := Int.emod_nonneg _ (by decide)
  have e : (((a % ((2 ^ 64 : Nat) : Int)).toNat / 2 ^ k % 2 : Nat) : Int) = a % 2 ^ 64 / 2 ^ k % 2 := by
    rw [Int.natCast_emod, Int.natCast_ediv, Int.toNat_of_nonneg h0, Int.natCast_pow, Int.natCast_pow]; rfl
  rw [e]
  have h1 := Int.emod_add_mul_ediv a (2 ^ 64)
  have hp : (0 : Int) < 2 ^ k := Int.pow_pos (by decide)
  have e2 : (2 : Int) ^ 64 = 2 ^ k * (2 * 2 ^ (63 - k)) := by
    rw [← Int.pow_succ', ← Int.pow_add, show k + (63 - k + 1) = 64 from by omega]
  generalize a % 2 ^ 64 = r at *
  generalize a / 2 ^ 64 = q at *
  rw [← h1, e2, Int.mul_assoc, Int.add_mul_ediv_left _ _ (by omega), Int.mul_assoc, Int.add_mul_emod_self_left]
theorem bit_of (x k : Nat) : x / 2 ^ k % 2 = (x.testBit k).toNat := by
  rw [Nat.testBit_eq_decide_div_mod_eq]
  have : x / 2 ^ k % 2 < 2 := Nat.mod_lt _ (by decide)
  by_cases h : x / 2 ^ k % 2 = 1
  · rw [h]; rfl
  · have h0 : x / 2 ^ k % 2 = 0 := by omega
    rw [h0]; rfl
/-- The word that an operation on bits leaves. -/
def Rof (f : BitVec 64 → BitVec 64 → BitVec 64) (a b : Int) : Int := ((f (BitVec.ofInt 64 a) (BitVec.ofInt 64 b)).toNat : Int)
theorem Rof_top (f : BitVec 64 → BitVec 64 → BitVec 64) (a b : Int) : Rof f a b / 2 ^ 64 = 0 := by
  unfold Rof
  have := (f (BitVec.ofInt 64 a) (BitVec.ofInt 64 b)).isLt
  exact Int.ediv_eq_zero_of_lt (by omega) (by omega)
theorem and_bit (a b : Int) (k : Nat) (hk : k < 64) : Rof (· &&& ·) a b / 2 ^ k % 2 = (a / 2 ^ k % 2) * (b / 2 ^ k % 2) := by
  have e : Rof (· &&& ·) a b / 2 ^ k % 2 = ((((BitVec.ofInt 64 a).toNat &&& (BitVec.ofInt 64 b).toNat) / 2 ^ k % 2 : Nat) : Int) := by
    unfold Rof; rw [BitVec.toNat_and, Int.natCast_emod, Int.natCast_ediv, Int.natCast_pow]; rfl
  rw [e, bit_low a k hk, bit_low b k hk, bit_of, bit_of, bit_of, Nat.testBit_and]
  cases (BitVec.ofInt 64 a).toNat.testBit k <;> cases (BitVec.ofInt 64 b).toNat.testBit k <;> rfl
theorem or_bit (a b : Int) (k : Nat) (hk : k < 64) : Rof (· ||| ·) a b / 2 ^ k % 2 = (a / 2 ^ k % 2) + (b / 2 ^ k % 2) - (a / 2 ^ k % 2) * (b / 2 ^ k % 2) := by
  have e : Rof (· ||| ·) a b / 2 ^ k % 2 = ((((BitVec.ofInt 64 a).toNat ||| (BitVec.ofInt 64 b).toNat) / 2 ^ k % 2 : Nat) : Int) := by
    unfold Rof; rw [BitVec.toNat_or, Int.natCast_emod, Int.natCast_ediv, Int.natCast_pow]; rfl
  rw [e, bit_low a k hk, bit_low b k hk, bit_of, bit_of, bit_of, Nat.testBit_or]
  cases (BitVec.ofInt 64 a).toNat.testBit k <;> cases (BitVec.ofInt 64 b).toNat.testBit k <;> rfl
theorem xor_bit (a b : Int) (k : Nat) (hk : k < 64) : Rof (· ^^^ ·) a b / 2 ^ k % 2 = ((a / 2 ^ k % 2) + (b / 2 ^ k % 2)) % 2 := by
  have e : Rof (· ^^^ ·) a b / 2 ^ k % 2 = ((((BitVec.ofInt 64 a).toNat ^^^ (BitVec.ofInt 64 b).toNat) / 2 ^ k % 2 : Nat) : Int) := by
    unfold Rof; rw [BitVec.toNat_xor, Int.natCast_emod, Int.natCast_ediv, Int.natCast_pow]; rfl
  rw [e, bit_low a k hk, bit_low b k hk, bit_of, bit_of, bit_of, Nat.testBit_xor]
  cases (BitVec.ofInt 64 a).toNat.testBit k <;> cases (BitVec.ofInt 64 b).toNat.testBit k <;> rfl
theorem wrapEq (x : Int) : IntKind.i64.wrap x = wrap64 x := by rw [IntKind.wrap_i64]; unfold wrap64; omega
theorem bits_and_of (a b : Int) : bits .and .i64 a b = wrap64 (Rof (· &&& ·) a b / 2 ^ 0) := by
  rw [show ((2 : Int) ^ 0) = 1 from rfl, Int.ediv_one]
  show IntKind.i64.wrap ((BitVec.ofInt 64 a &&& BitVec.ofInt 64 b).toNat : Int) = wrap64 ((BitVec.ofInt 64 a &&& BitVec.ofInt 64 b).toNat : Int)
  exact wrapEq _
theorem bits_or_of (a b : Int) : bits .or .i64 a b = wrap64 (Rof (· ||| ·) a b / 2 ^ 0) := by
  rw [show ((2 : Int) ^ 0) = 1 from rfl, Int.ediv_one]
  show IntKind.i64.wrap ((BitVec.ofInt 64 a ||| BitVec.ofInt 64 b).toNat : Int) = wrap64 ((BitVec.ofInt 64 a ||| BitVec.ofInt 64 b).toNat : Int)
  exact wrapEq _
theorem bits_xor_of (a b : Int) : bits .xor .i64 a b = wrap64 (Rof (· ^^^ ·) a b / 2 ^ 0) := by
  rw [show ((2 : Int) ^ 0) = 1 from rfl, Int.ediv_one]
  show IntKind.i64.wrap ((BitVec.ofInt 64 a ^^^ BitVec.ofInt 64 b).toNat : Int) = wrap64 ((BitVec.ofInt 64 a ^^^ BitVec.ofInt 64 b).toNat : Int)
  exact wrapEq _
end Go.Proofs.Ytopefdcmmmjihaa
