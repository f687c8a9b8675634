/- Shifts of numbers made of words: plain laws. -/
import Derived.Test.YtopefdcmmmjihaaBitplain
namespace Go.Proofs.Ytopefdcmmmjihaa

theorem two_split {s : Nat} (hs : s < 32) : (4294967296 : Int) = 2 ^ s * 2 ^ (32 - s) := by
  rw [← Int.pow_add, show s + (32 - s) = 32 from by omega]; rfl
theorem shl_or {p x : Int} {s : Nat} (hs : s < 32) (p0 : 0 ≤ p) (p1 : p < 2 ^ s) (x0 : 0 ≤ x) :
    bits .or .u32 p (x * 2 ^ s % 4294967296) = p + x * 2 ^ s % 4294967296 ∧ p + x * 2 ^ s % 4294967296 < 4294967296 := by
  obtain ⟨a, rfl⟩ := Int.eq_ofNat_of_zero_le p0
  obtain ⟨b, rfl⟩ := Int.eq_ofNat_of_zero_le x0
  have e : ((b : Int) * 2 ^ s % 4294967296) = ((b * 2 ^ s % 4294967296 : Nat) : Int) := by
    rw [Int.natCast_emod, Int.natCast_mul, Int.natCast_pow]; rfl
  have hp : a < 2 ^ s := by
    have h2 : ((2 : Int) ^ s) = ((2 ^ s : Nat) : Int) := by rw [Int.natCast_pow]; rfl
    rw [h2] at p1; omega
  have hle : 2 ^ s ≤ 2 ^ 31 := Nat.pow_le_pow_right (by decide) (by omega)
  have hd : b * 2 ^ s % 4294967296 % 2 ^ s = 0 := by
    rw [Nat.mod_mod_of_dvd _ ⟨2 ^ (32 - s), by rw [← Nat.pow_add, show s + (32 - s) = 32 from by omega]⟩]
    exact Nat.mul_mod_left _ _
  have hlt : b * 2 ^ s % 4294967296 < 4294967296 := Nat.mod_lt _ (by decide)
  have hj : (b * 2 ^ s % 4294967296) ||| a = b * 2 ^ s % 4294967296 + a := nat_join s _ _ hd hp
  have hb : (b * 2 ^ s % 4294967296) ||| a < 2 ^ 32 := Nat.or_lt_two_pow hlt (by omega)
  rw [e, u32_or_nat _ _ (by omega) hlt, Nat.or_comm, hj]
  omega
theorem or_zero {y : Int} (y0 : 0 ≤ y) (y1 : y < 4294967296) : bits .or .u32 0 y = y := by
  obtain ⟨b, rfl⟩ := Int.eq_ofNat_of_zero_le y0
  have := u32_or_nat 0 b (by decide) (by omega)
  rw [Nat.zero_or] at this
  exact this
theorem left_step {a rs : List Int} {k W s : Nat} (hl : k + W + 1 < rs.length) (h : nv rs = top W * 2 ^ s * nv (a.take k)) (z : rs.getD (k + W + 1) 0 = 0) :
    nv ((rs.set (k + W) (rs.getD (k + W) 0 + a.getD k 0 * 2 ^ s % 4294967296)).set (k + W + 1) (a.getD k 0 * 2 ^ s / 4294967296)) = top W * 2 ^ s * nv (a.take (k + 1)) := by
  rw [nv_set _ _ _ (by rw [List.length_set]; exact hl), nv_set _ _ _ (by omega), getD_set_ne _ (by omega), z, nv_take_succ a]
  have e : top (k + W + 1) = 4294967296 * top (k + W) := rfl
  rw [e, h]
  generalize a.getD k 0 = x
  generalize rs.getD (k + W) 0 = p
  have hs := Int.emod_add_mul_ediv (x * 2 ^ s) 4294967296
  have h1 : top W * 2 ^ s * (top k * x) = top (k + W) * (x * 2 ^ s) := by rw [top_add]; ac_rfl
  rw [Int.mul_add, h1]
  generalize x * 2 ^ s = V at *
  have h3 : top (k + W) * V = top (k + W) * (V % 4294967296) + 4294967296 * top (k + W) * (V / 4294967296) := by
    have h4 := congrArg (fun t => top (k + W) * t) hs
    simp only [Int.mul_add] at h4
    rw [← h4]
    congr 1
    ac_rfl
  rw [h3, show p + V % 4294967296 - p = V % 4294967296 from by omega, Int.sub_zero]
  omega
theorem shl_small {x : Int} {s : Nat} (hs : s < 32) (x0 : 0 ≤ x) (x1 : x < 4294967296) : 0 ≤ x * 2 ^ s ∧ x * 2 ^ s < 9223372036854775808 ∧ 0 ≤ x * 2 ^ s / 4294967296 ∧ x * 2 ^ s / 4294967296 < 2 ^ s ∧ (2 : Int) ^ s ≤ 2147483648 := by
  have hp : (0 : Int) < 2 ^ s := Int.pow_pos (by decide)
  have hle : (2 : Int) ^ s ≤ 2 ^ 31 := by
    have : 2 ^ s ≤ 2 ^ 31 := Nat.pow_le_pow_right (by decide) (by omega)
    exact_mod_cast this
  have h1 : x * 2 ^ s ≤ 4294967295 * 2 ^ s := Int.mul_le_mul_of_nonneg_right (by omega) (by omega)
  have h0 : 0 ≤ x * 2 ^ s := Int.mul_nonneg x0 (by omega)
  generalize (2 : Int) ^ s = P at *
  refine ⟨h0, by omega, by omega, by omega, by omega⟩
theorem top_shift (n : Nat) : top (n / 32) * 2 ^ (n % 32) = 2 ^ n := by
  rw [top_pow, ← Int.pow_add, show 32 * (n / 32) + n % 32 = n from by omega]
theorem emod_split (X a b : Int) (ha : 0 < a) (hb : 0 < b) : X % (b * a) = X % a + a * (X / a % b) := by
  have h1 := Int.emod_add_mul_ediv X a
  have h2 := Int.emod_add_mul_ediv (X / a) b
  have r1 := Int.emod_nonneg X (show a ≠ 0 by omega)
  have r2 := Int.emod_lt_of_pos X ha
  have r3 := Int.emod_nonneg (X / a) (show b ≠ 0 by omega)
  have r4 := Int.emod_lt_of_pos (X / a) hb
  generalize X % a = p at *
  generalize X / a % b = q at *
  generalize X / a / b = y at *
  have e : X = (p + a * q) + b * a * y := by
    rw [← h1, ← h2, Int.mul_add, show a * (b * y) = b * a * y by ac_rfl]; omega
  have hq : a * q ≤ a * (b - 1) := Int.mul_le_mul_of_nonneg_left (by omega) (by omega)
  have hq0 : 0 ≤ a * q := Int.mul_nonneg (by omega) r3
  have hab : a * (b - 1) = b * a - a := by rw [Int.mul_sub, Int.mul_one, Int.mul_comm]
  have e2 : X % (b * a) = ((p + a * q) + b * a * y) % (b * a) := congrArg (· % (b * a)) e
  rw [e2, Int.add_mul_emod_self_left, Int.emod_eq_of_lt (by omega) (by omega)]
theorem nv_drop_two {b : List Int} (k : Nat) : nv (b.drop k) = b.getD k 0 + 4294967296 * b.getD (k + 1) 0 + 18446744073709551616 * nv (b.drop (k + 2)) := by
  have one : ∀ (l : List Int) (j : Nat), nv (l.drop j) = l.getD j 0 + 4294967296 * nv (l.drop (j + 1)) := fun l j => by
    by_cases hj : j < l.length
    · rw [List.drop_eq_getElem_cons hj, List.getD_eq_getElem?_getD, List.getElem?_eq_getElem hj]; rfl
    · rw [List.drop_of_length_le (by omega), List.drop_of_length_le (by omega), List.getD_eq_getElem?_getD, List.getElem?_eq_none (by omega)]
      simp [nv]
  rw [one b k, one b (k + 1), show k + 1 + 1 = k + 2 from rfl]
  omega
theorem right_step {b rs : List Int} {k s : Nat} (hb : Wds b) (hs : s < 32) (hk : k < rs.length) (h : nv (rs.take k) = nv b / 2 ^ s % top k) :
    nv ((rs.set k ((b.getD k 0 + 4294967296 * b.getD (k + 1) 0) / 2 ^ s % 4294967296)).take (k + 1)) = nv b / 2 ^ s % top (k + 1) := by
  have hp : (0 : Int) < 2 ^ s := Int.pow_pos (by decide)
  have e : top (k + 1) = 4294967296 * top k := rfl
  have e1 : nv b / 2 ^ s / top k = nv (b.drop k) / 2 ^ s := by
    rw [Int.ediv_ediv_of_nonneg (by omega), Int.mul_comm, ← Int.ediv_ediv_of_nonneg (by have := top_pos k; omega), nv_div_top hb]
  rw [nv_set_succ hk, e, emod_split _ _ _ (top_pos k) (by decide), e1, h, nv_drop_two]
  congr 2
  generalize b.getD k 0 + 4294967296 * b.getD (k + 1) 0 = x
  generalize nv (b.drop (k + 2)) = y
  have e2 : (18446744073709551616 : Int) = 2 ^ s * (4294967296 * 2 ^ (32 - s)) := by
    rw [show (2 : Int) ^ s * (4294967296 * 2 ^ (32 - s)) = 4294967296 * (2 ^ s * 2 ^ (32 - s)) by ac_rfl, ← two_split hs]; rfl
  rw [e2, Int.mul_assoc, Int.add_mul_ediv_left _ _ (by omega), Int.mul_assoc, Int.add_mul_emod_self_left]
theorem right_end {b rs : List Int} {s : Nat} (hb : Wds b) (hl : rs.length = b.length) (h : nv (rs.take b.length) = nv b / 2 ^ s % top b.length) : nv rs = nv b / 2 ^ s := by
  rw [List.take_of_length_le (by omega)] at h
  have hr := nv_range hb
  have hp : (0 : Int) < 2 ^ s := Int.pow_pos (by decide)
  have h1 := Int.ediv_le_self (2 ^ s) hr.1
  rw [h, Int.emod_eq_of_lt (Int.ediv_nonneg hr.1 (by omega)) (by omega)]
theorem nv_shift {a : List Int} (h : Wds a) (n : Nat) : nv a / 2 ^ n = nv (a.drop (n / 32)) / 2 ^ (n % 32) := by
  rw [← top_shift n, ← Int.ediv_ediv_of_nonneg (by have := top_pos (n / 32); omega), nv_div_top h]
theorem getD_drop {a : List Int} (q k : Nat) : (a.drop q).getD k 0 = a.getD (k + q) 0 := by
  rw [List.getD_eq_getElem?_getD, List.getElem?_drop, List.getD_eq_getElem?_getD, Nat.add_comm]
theorem shr_small {v : Int} {s : Nat} (v0 : 0 ≤ v) (v1 : v < 18446744073709551616) : 0 ≤ v / 2 ^ s ∧ v / 2 ^ s < 18446744073709551616 := by
  have hp : (0 : Int) < 2 ^ s := Int.pow_pos (by decide)
  have := Int.ediv_le_self (2 ^ s) v0
  exact ⟨Int.ediv_nonneg v0 (by omega), by omega⟩
end Go.Proofs.Ytopefdcmmmjihaa
