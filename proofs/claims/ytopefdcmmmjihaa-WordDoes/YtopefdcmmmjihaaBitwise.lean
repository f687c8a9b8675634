/- The contract of the document's own bits. -/
import Derived.Test.YtopefdcmmmjihaaBitwplain
import Derived.Test.YtopefdcmmmjihaaRows
import Derived.ProofKit
import Derived.OpenShut
import Derived.Handy
namespace Go.Proofs.Ytopefdcmmmjihaa
open Go.ChangeShapes Go.WideShapes Go.ChangeAt Go.RowKit

set_option maxHeartbeats 1600000 in
theorem bitwise_and (a b : Int) (w : World) :
    Calls Try.prog 21 #[.int .i64 8, .int .i64 a, .int .i64 b] w fun e w' => e = .returned (.int .i64 (bits .and .i64 a b)) ∧ w' = w := by
  rw [bits_and_of]
  have HT : Hid (Rof (· &&& ·) a b / 2 ^ 64 = 0) := Rof_top _ a b
  have HB : Hid (∀ k, k < 64 → Rof (· &&& ·) a b / 2 ^ k % 2 = (a / 2 ^ k % 2) * (b / 2 ^ k % 2)) := fun k hk => and_bit a b k hk
  generalize Rof (· &&& ·) a b = R at *
  go_enter Try.func21, Try.ntmps21
  go_wp2
  go_loop [7, 8] (fun nn kk => ∃ t : Nat, t ≤ 64 ∧ nn = .int .i64 (wrap64 (R / 2 ^ t)) ∧ kk = .int .i64 ((t : Int) - 1)) (fun _ kk => (intOf kk + 1).toNat)
  case atStart => exact ⟨64, by omega, by rw [HT.out]; simp [wrap64], rfl⟩
  case round =>
    obtain ⟨t, ht, rfl, rfl⟩ := hrel
    rcases Nat.eq_zero_or_pos t with rfl | hpos
    · go_wp2
      go_ret
      exact ⟨rfl, rfl⟩
    · obtain ⟨k, rfl⟩ : ∃ k, t = k + 1 := ⟨t - 1, by omega⟩
      have hbit := HB.out k (by omega)
      have HS : Hid (wrap64 (wrap64 (wrap64 (R / 2 ^ (k + 1)) * 2) + R / 2 ^ k % 2) = wrap64 (R / 2 ^ k)) := wrap_step R k
      have x1 := i64_and_one (a / 2 ^ k)
      have y1 := i64_and_one (b / 2 ^ k)
      rw [hbit] at HS
      generalize hx : a / 2 ^ k % 2 = x at *
      generalize hy : b / 2 ^ k % 2 = y at *
      have hx2 : x = 0 ∨ x = 1 := by omega
      have hy2 : y = 0 ∨ y = 1 := by omega
      clear hbit
      rcases hx2 with rfl | rfl <;> rcases hy2 with rfl | rfl
      all_goals
        go_wp2
        exact ⟨⟨k, by omega, by rw [← HS.out]; simp, rfl⟩, by simp [intOf]⟩

set_option maxHeartbeats 1600000 in
theorem bitwise_or (a b : Int) (w : World) :
    Calls Try.prog 21 #[.int .i64 9, .int .i64 a, .int .i64 b] w fun e w' => e = .returned (.int .i64 (bits .or .i64 a b)) ∧ w' = w := by
  rw [bits_or_of]
  have HT : Hid (Rof (· ||| ·) a b / 2 ^ 64 = 0) := Rof_top _ a b
  have HB : Hid (∀ k, k < 64 → Rof (· ||| ·) a b / 2 ^ k % 2 = (a / 2 ^ k % 2) + (b / 2 ^ k % 2) - (a / 2 ^ k % 2) * (b / 2 ^ k % 2)) := fun k hk => or_bit a b k hk
  generalize Rof (· ||| ·) a b = R at *
  go_enter Try.func21, Try.ntmps21
  go_wp2
  go_loop [7, 8] (fun nn kk => ∃ t : Nat, t ≤ 64 ∧ nn = .int .i64 (wrap64 (R / 2 ^ t)) ∧ kk = .int .i64 ((t : Int) - 1)) (fun _ kk => (intOf kk + 1).toNat)
  case atStart => exact ⟨64, by omega, by rw [HT.out]; simp [wrap64], rfl⟩
  case round =>
    obtain ⟨t, ht, rfl, rfl⟩ := hrel
    rcases Nat.eq_zero_or_pos t with rfl | hpos
    · go_wp2
      go_ret
      exact ⟨rfl, rfl⟩
    · obtain ⟨k, rfl⟩ : ∃ k, t = k + 1 := ⟨t - 1, by omega⟩
      have hbit := HB.out k (by omega)
      have HS : Hid (wrap64 (wrap64 (wrap64 (R / 2 ^ (k + 1)) * 2) + R / 2 ^ k % 2) = wrap64 (R / 2 ^ k)) := wrap_step R k
      have x1 := i64_and_one (a / 2 ^ k)
      have y1 := i64_and_one (b / 2 ^ k)
      rw [hbit] at HS
      generalize hx : a / 2 ^ k % 2 = x at *
      generalize hy : b / 2 ^ k % 2 = y at *
      have hx2 : x = 0 ∨ x = 1 := by omega
      have hy2 : y = 0 ∨ y = 1 := by omega
      clear hbit
      rcases hx2 with rfl | rfl <;> rcases hy2 with rfl | rfl
      all_goals
        go_wp2
        exact ⟨⟨k, by omega, by rw [← HS.out]; simp, rfl⟩, by simp [intOf]⟩

set_option maxHeartbeats 1600000 in
theorem bitwise_xor (a b : Int) (w : World) :
    Calls Try.prog 21 #[.int .i64 10, .int .i64 a, .int .i64 b] w fun e w' => e = .returned (.int .i64 (bits .xor .i64 a b)) ∧ w' = w := by
  rw [bits_xor_of]
  have HT : Hid (Rof (· ^^^ ·) a b / 2 ^ 64 = 0) := Rof_top _ a b
  have HB : Hid (∀ k, k < 64 → Rof (· ^^^ ·) a b / 2 ^ k % 2 = ((a / 2 ^ k % 2) + (b / 2 ^ k % 2)) % 2) := fun k hk => xor_bit a b k hk
  generalize Rof (· ^^^ ·) a b = R at *
  go_enter Try.func21, Try.ntmps21
  go_wp2
  go_loop [7, 8] (fun nn kk => ∃ t : Nat, t ≤ 64 ∧ nn = .int .i64 (wrap64 (R / 2 ^ t)) ∧ kk = .int .i64 ((t : Int) - 1)) (fun _ kk => (intOf kk + 1).toNat)
  case atStart => exact ⟨64, by omega, by rw [HT.out]; simp [wrap64], rfl⟩
  case round =>
    obtain ⟨t, ht, rfl, rfl⟩ := hrel
    rcases Nat.eq_zero_or_pos t with rfl | hpos
    · go_wp2
      go_ret
      exact ⟨rfl, rfl⟩
    · obtain ⟨k, rfl⟩ : ∃ k, t = k + 1 := ⟨t - 1, by omega⟩
      have hbit := HB.out k (by omega)
      have HS : Hid (wrap64 (wrap64 (wrap64 (R / 2 ^ (k + 1)) * 2) + R / 2 ^ k % 2) = wrap64 (R / 2 ^ k)) := wrap_step R k
      have x1 := i64_and_one (a / 2 ^ k)
      have y1 := i64_and_one (b / 2 ^ k)
      rw [hbit] at HS
      generalize hx : a / 2 ^ k % 2 = x at *
      generalize hy : b / 2 ^ k % 2 = y at *
      have hx2 : x = 0 ∨ x = 1 := by omega
      have hy2 : y = 0 ∨ y = 1 := by omega
      clear hbit
      rcases hx2 with rfl | rfl <;> rcases hy2 with rfl | rfl
      all_goals
        go_wp2
        exact ⟨⟨k, by omega, by rw [← HS.out]; simp, rfl⟩, by simp [intOf]⟩
end Go.Proofs.Ytopefdcmmmjihaa
