/- Masks: the small functions of defers and of the reference. -/
import Derived.Test.YtiaoidbhdkldlabRows
import Derived.WalkKit
import Derived.ProofKit
import Derived.OpenShut
import Derived.Handy
namespace Go.Proofs.Ytiaoidbhdkldlab
open Go.ChangeShapes Go.WideShapes Go.ChangeAt Go.RowKit
set_option maxRecDepth 100000
set_option linter.unusedSimpArgs false
set_option linter.unusedVariables false
set_option maxHeartbeats 2000000
def isMaskB (m : Int) : Bool := decide (0 ≤ m ∧ m ≤ 255)
def isBitB (k : Int) : Bool := decide (0 ≤ k ∧ k < 8)
/-- Is the bit k set? -/
def bitN (m k : Nat) : Bool := m / 2 ^ k % 2 == 1
def setN (m k : Nat) : Nat := if bitN m k then m else m + 2 ^ k
def dropN (m k : Nat) : Nat := m - 2 ^ k
def topN (m : Nat) : Nat := if 128 ≤ m then 7 else if 64 ≤ m then 6 else if 32 ≤ m then 5 else if 16 ≤ m then 4 else if 8 ≤ m then 3 else if 4 ≤ m then 2 else if 2 ≤ m then 1 else 0
def setR (m k : Int) : Int × Int := if isMaskB m && isBitB k then (setN m.toNat k.toNat, 0) else (0, 14)
def dropR (m k : Int) : Int × Int := if isMaskB m && isBitB k then (if bitN m.toNat k.toNat then (dropN m.toNat k.toNat, 0) else (0, 16)) else (0, 14)
def topR (m : Int) : Int × Bool := if isMaskB m && decide (m ≠ 0) then (topN m.toNat, true) else (0, false)
def two (r : Int × Int) : Value := .tuple #[.int .i64 r.1, .int .i64 r.2]
def tob (r : Int × Bool) : Value := .tuple #[.int .i64 r.1, .bool r.2]
theorem mask_nat {m : Int} (h : isMaskB m = true) : ∃ n : Nat, m = n ∧ n < 256 := by
  simp [isMaskB] at h
  exact ⟨m.toNat, by omega, by omega⟩
theorem bit_nat {k : Int} (h : isBitB k = true) : k = 0 ∨ k = 1 ∨ k = 2 ∨ k = 3 ∨ k = 4 ∨ k = 5 ∨ k = 6 ∨ k = 7 := by
  simp [isBitB] at h
  omega
theorem or_set : ∀ n : Nat, n < 256 → ∀ k : Nat, k < 8 → bits .or .i64 (n : Int) ((2 ^ k : Nat) : Int) = ((setN n k : Nat) : Int) := by decide +kernel
theorem and_bit : ∀ n : Nat, n < 256 → ∀ k : Nat, k < 8 → (bits .and .i64 (n : Int) ((2 ^ k : Nat) : Int) == 0) = !bitN n k := by decide +kernel
theorem not_drop : ∀ n : Nat, n < 256 → ∀ k : Nat, k < 8 → bitN n k = true → bits .andNot .i64 (n : Int) ((2 ^ k : Nat) : Int) = ((dropN n k : Nat) : Int) := by decide +kernel
theorem sub_drop : ∀ n : Nat, n < 256 → ∀ k : Nat, k < 8 → bitN n k = true → (n : Int) - ((2 ^ k : Nat) : Int) = ((dropN n k : Nat) : Int) := by decide +kernel
theorem div_bit : ∀ n : Nat, n < 256 → ∀ k : Nat, k < 8 → ((n : Int) / ((2 ^ k : Nat) : Int) % 2 == 0) = !bitN n k := by decide +kernel
theorem div_bit1 : ∀ n : Nat, n < 256 → ∀ k : Nat, k < 8 → ((n : Int) / ((2 ^ k : Nat) : Int) % 2 == 1) = bitN n k := by decide +kernel
theorem top_hit : ∀ n : Nat, n < 256 → ∀ k : Nat, k < 8 → n < 2 ^ (k + 1) → bitN n k = true → topN n = k ∧ n ≠ 0 := by decide +kernel
theorem top_miss : ∀ n : Nat, n < 256 → ∀ k : Nat, k < 8 → n < 2 ^ (k + 1) → bitN n k = false → n < 2 ^ k := by decide +kernel
theorem own_isMask (m : Int) (w : World) : Calls Try.prog 28 #[.int .i64 m] w fun e w' => e = .returned (.bool (isMaskB m)) ∧ Below w.heap.size w w' := by
  by_cases h1 : 0 ≤ m
  · by_cases h2 : m ≤ 255
    · rw [show isMaskB m = true by simp [isMaskB, h1, h2]]
      go_enter Try.func28, Try.ntmps28
      go_wp2_with fail
      go_ret
      exact ⟨by simp [h2], (Below.refl _ _)⟩
    · rw [show isMaskB m = false by simp [isMaskB, h1, h2]]
      go_enter Try.func28, Try.ntmps28
      go_wp2_with fail
      go_ret
      exact ⟨by simp [h2], (Below.refl _ _)⟩
  · rw [show isMaskB m = false by simp [isMaskB, h1]]
    go_enter Try.func28, Try.ntmps28
    go_wp2_with fail
    go_ret
    exact ⟨rfl, (Below.refl _ _)⟩
theorem own_isBit (m : Int) (w : World) : Calls Try.prog 29 #[.int .i64 m] w fun e w' => e = .returned (.bool (isBitB m)) ∧ Below w.heap.size w w' := by
  by_cases h1 : 0 ≤ m
  · by_cases h2 : m < 8
    · rw [show isBitB m = true by simp [isBitB, h1, h2]]
      go_enter Try.func29, Try.ntmps29
      go_wp2_with fail
      go_ret
      exact ⟨by simp [h2], (Below.refl _ _)⟩
    · rw [show isBitB m = false by simp [isBitB, h1, h2]]
      go_enter Try.func29, Try.ntmps29
      go_wp2_with fail
      go_ret
      exact ⟨by simp [h2], (Below.refl _ _)⟩
  · rw [show isBitB m = false by simp [isBitB, h1]]
    go_enter Try.func29, Try.ntmps29
    go_wp2_with fail
    go_ret
    exact ⟨rfl, (Below.refl _ _)⟩
theorem own_set (m k : Int) (w : World) : Calls Try.prog 21 #[.int .i64 m, .int .i64 k] w fun e w' => e = .returned (two (setR m k)) ∧ Below w.heap.size w w' := by
  cases hm : isMaskB m
  · rw [show setR m k = (0, 14) by simp [setR, hm]]
    go_enter Try.func21, Try.ntmps21
    go_wp2_with fail
    refine (own_isMask m _).mono ?_
    rintro e u1 ⟨rfl, b1⟩
    rw [hm]
    go_wp2_with fail
    go_ret2
    exact ⟨rfl, b1⟩
  · cases hk : isBitB k
    · rw [show setR m k = (0, 14) by simp [setR, hk]]
      go_enter Try.func21, Try.ntmps21
      go_wp2_with fail
      refine (own_isMask m _).mono ?_
      rintro e u1 ⟨rfl, b1⟩
      rw [hm]
      go_wp2_with fail
      refine (own_isBit k _).mono ?_
      rintro e u2 ⟨rfl, b2⟩
      rw [hk]
      go_wp2_with fail
      go_ret2
      exact ⟨rfl, b1.trans (b2.mono b1.size)⟩
    · have hR := hm
      obtain ⟨n, rfl, hn⟩ := mask_nat hR
      clear hR
      rcases bit_nat hk with rfl | rfl | rfl | rfl | rfl | rfl | rfl | rfl
      · rw [show setR (n : Int) 0 = (((setN n 0 : Nat) : Int), (0 : Int)) by simp [setR, hm, hk]]
        have HO : Hid (bits .or .i64 (n : Int) 1 = ((setN n 0 : Nat) : Int)) := or_set n hn 0 (by decide)
        go_enter Try.func21, Try.ntmps21
        go_wp2_with fail
        refine (own_isMask _ _).mono ?_
        rintro e u1 ⟨rfl, b1⟩
        rw [hm]
        go_wp2_with fail
        refine (own_isBit _ _).mono ?_
        rintro e u2 ⟨rfl, b2⟩
        rw [hk]
        go_wp2_with fail
        go_ret2
        exact ⟨by simp only [HO.out, two]; rfl, b1.trans (b2.mono b1.size)⟩
      · rw [show setR (n : Int) 1 = (((setN n 1 : Nat) : Int), (0 : Int)) by simp [setR, hm, hk]]
        have HO : Hid (bits .or .i64 (n : Int) 2 = ((setN n 1 : Nat) : Int)) := or_set n hn 1 (by decide)
        go_enter Try.func21, Try.ntmps21
        go_wp2_with fail
        refine (own_isMask _ _).mono ?_
        rintro e u1 ⟨rfl, b1⟩
        rw [hm]
        go_wp2_with fail
        refine (own_isBit _ _).mono ?_
        rintro e u2 ⟨rfl, b2⟩
        rw [hk]
        go_wp2_with fail
        go_ret2
        exact ⟨by simp only [HO.out, two]; rfl, b1.trans (b2.mono b1.size)⟩
      · rw [show setR (n : Int) 2 = (((setN n 2 : Nat) : Int), (0 : Int)) by simp [setR, hm, hk]]
        have HO : Hid (bits .or .i64 (n : Int) 4 = ((setN n 2 : Nat) : Int)) := or_set n hn 2 (by decide)
        go_enter Try.func21, Try.ntmps21
        go_wp2_with fail
        refine (own_isMask _ _).mono ?_
        rintro e u1 ⟨rfl, b1⟩
        rw [hm]
        go_wp2_with fail
        refine (own_isBit _ _).mono ?_
        rintro e u2 ⟨rfl, b2⟩
        rw [hk]
        go_wp2_with fail
        go_ret2
        exact ⟨by simp only [HO.out, two]; rfl, b1.trans (b2.mono b1.size)⟩
      · rw [show setR (n : Int) 3 = (((setN n 3 : Nat) : Int), (0 : Int)) by simp [setR, hm, hk]]
        have HO : Hid (bits .or .i64 (n : Int) 8 = ((setN n 3 : Nat) : Int)) := or_set n hn 3 (by decide)
        go_enter Try.func21, Try.ntmps21
        go_wp2_with fail
        refine (own_isMask _ _).mono ?_
        rintro e u1 ⟨rfl, b1⟩
        rw [hm]
        go_wp2_with fail
        refine (own_isBit _ _).mono ?_
        rintro e u2 ⟨rfl, b2⟩
        rw [hk]
        go_wp2_with fail
        go_ret2
        exact ⟨by simp only [HO.out, two]; rfl, b1.trans (b2.mono b1.size)⟩
      · rw [show setR (n : Int) 4 = (((setN n 4 : Nat) : Int), (0 : Int)) by simp [setR, hm, hk]]
        have HO : Hid (bits .or .i64 (n : Int) 16 = ((setN n 4 : Nat) : Int)) := or_set n hn 4 (by decide)
        go_enter Try.func21, Try.ntmps21
        go_wp2_with fail
        refine (own_isMask _ _).mono ?_
        rintro e u1 ⟨rfl, b1⟩
        rw [hm]
        go_wp2_with fail
        refine (own_isBit _ _).mono ?_
        rintro e u2 ⟨rfl, b2⟩
        rw [hk]
        go_wp2_with fail
        go_ret2
        exact ⟨by simp only [HO.out, two]; rfl, b1.trans (b2.mono b1.size)⟩
      · rw [show setR (n : Int) 5 = (((setN n 5 : Nat) : Int), (0 : Int)) by simp [setR, hm, hk]]
        have HO : Hid (bits .or .i64 (n : Int) 32 = ((setN n 5 : Nat) : Int)) := or_set n hn 5 (by decide)
        go_enter Try.func21, Try.ntmps21
        go_wp2_with fail
        refine (own_isMask _ _).mono ?_
        rintro e u1 ⟨rfl, b1⟩
        rw [hm]
        go_wp2_with fail
        refine (own_isBit _ _).mono ?_
        rintro e u2 ⟨rfl, b2⟩
        rw [hk]
        go_wp2_with fail
        go_ret2
        exact ⟨by simp only [HO.out, two]; rfl, b1.trans (b2.mono b1.size)⟩
      · rw [show setR (n : Int) 6 = (((setN n 6 : Nat) : Int), (0 : Int)) by simp [setR, hm, hk]]
        have HO : Hid (bits .or .i64 (n : Int) 64 = ((setN n 6 : Nat) : Int)) := or_set n hn 6 (by decide)
        go_enter Try.func21, Try.ntmps21
        go_wp2_with fail
        refine (own_isMask _ _).mono ?_
        rintro e u1 ⟨rfl, b1⟩
        rw [hm]
        go_wp2_with fail
        refine (own_isBit _ _).mono ?_
        rintro e u2 ⟨rfl, b2⟩
        rw [hk]
        go_wp2_with fail
        go_ret2
        exact ⟨by simp only [HO.out, two]; rfl, b1.trans (b2.mono b1.size)⟩
      · rw [show setR (n : Int) 7 = (((setN n 7 : Nat) : Int), (0 : Int)) by simp [setR, hm, hk]]
        have HO : Hid (bits .or .i64 (n : Int) 128 = ((setN n 7 : Nat) : Int)) := or_set n hn 7 (by decide)
        go_enter Try.func21, Try.ntmps21
        go_wp2_with fail
        refine (own_isMask _ _).mono ?_
        rintro e u1 ⟨rfl, b1⟩
        rw [hm]
        go_wp2_with fail
        refine (own_isBit _ _).mono ?_
        rintro e u2 ⟨rfl, b2⟩
        rw [hk]
        go_wp2_with fail
        go_ret2
        exact ⟨by simp only [HO.out, two]; rfl, b1.trans (b2.mono b1.size)⟩
theorem own_drop (m k : Int) (w : World) : Calls Try.prog 23 #[.int .i64 m, .int .i64 k] w fun e w' => e = .returned (two (dropR m k)) ∧ Below w.heap.size w w' := by
  cases hm : isMaskB m
  · rw [show dropR m k = (0, 14) by simp [dropR, hm]]
    go_enter Try.func23, Try.ntmps23
    go_wp2_with fail
    refine (own_isMask m _).mono ?_
    rintro e u1 ⟨rfl, b1⟩
    rw [hm]
    go_wp2_with fail
    go_ret2
    exact ⟨rfl, b1⟩
  · cases hk : isBitB k
    · rw [show dropR m k = (0, 14) by simp [dropR, hk]]
      go_enter Try.func23, Try.ntmps23
      go_wp2_with fail
      refine (own_isMask m _).mono ?_
      rintro e u1 ⟨rfl, b1⟩
      rw [hm]
      go_wp2_with fail
      refine (own_isBit k _).mono ?_
      rintro e u2 ⟨rfl, b2⟩
      rw [hk]
      go_wp2_with fail
      go_ret2
      exact ⟨rfl, b1.trans (b2.mono b1.size)⟩
    · have hR := hm
      obtain ⟨n, rfl, hn⟩ := mask_nat hR
      clear hR
      rcases bit_nat hk with rfl | rfl | rfl | rfl | rfl | rfl | rfl | rfl
      · have HA : (bits .and .i64 (n : Int) 1 == 0) = !bitN n 0 := and_bit n hn 0 (by decide)
        cases hb : bitN n 0
        · rw [show dropR (n : Int) 0 = (0, 16) by simp [dropR, hm, hk, hb]]
          rw [hb] at HA
          simp only [Bool.not_false] at HA
          go_enter Try.func23, Try.ntmps23
          go_wp2_with fail
          refine (own_isMask _ _).mono ?_
          rintro e u1 ⟨rfl, b1⟩
          rw [hm]
          go_wp2_with fail
          refine (own_isBit _ _).mono ?_
          rintro e u2 ⟨rfl, b2⟩
          rw [hk]
          go_wp2_with fail
          go_ret2
          exact ⟨rfl, b1.trans (b2.mono b1.size)⟩
        · rw [show dropR (n : Int) 0 = (((dropN n 0 : Nat) : Int), (0 : Int)) by simp [dropR, hm, hk, hb]]
          rw [hb] at HA
          simp only [Bool.not_true] at HA
          have HO : Hid (bits .andNot .i64 (n : Int) 1 = ((dropN n 0 : Nat) : Int)) := not_drop n hn 0 (by decide) hb
          go_enter Try.func23, Try.ntmps23
          go_wp2_with fail
          refine (own_isMask _ _).mono ?_
          rintro e u1 ⟨rfl, b1⟩
          rw [hm]
          go_wp2_with fail
          refine (own_isBit _ _).mono ?_
          rintro e u2 ⟨rfl, b2⟩
          rw [hk]
          go_wp2_with fail
          go_ret2
          exact ⟨by simp only [HO.out, two]; rfl, b1.trans (b2.mono b1.size)⟩
      · have HA : (bits .and .i64 (n : Int) 2 == 0) = !bitN n 1 := and_bit n hn 1 (by decide)
        cases hb : bitN n 1
        · rw [show dropR (n : Int) 1 = (0, 16) by simp [dropR, hm, hk, hb]]
          rw [hb] at HA
          simp only [Bool.not_false] at HA
          go_enter Try.func23, Try.ntmps23
          go_wp2_with fail
          refine (own_isMask _ _).mono ?_
          rintro e u1 ⟨rfl, b1⟩
          rw [hm]
          go_wp2_with fail
          refine (own_isBit _ _).mono ?_
          rintro e u2 ⟨rfl, b2⟩
          rw [hk]
          go_wp2_with fail
          go_ret2
          exact ⟨rfl, b1.trans (b2.mono b1.size)⟩
        · rw [show dropR (n : Int) 1 = (((dropN n 1 : Nat) : Int), (0 : Int)) by simp [dropR, hm, hk, hb]]
          rw [hb] at HA
          simp only [Bool.not_true] at HA
          have HO : Hid (bits .andNot .i64 (n : Int) 2 = ((dropN n 1 : Nat) : Int)) := not_drop n hn 1 (by decide) hb
          go_enter Try.func23, Try.ntmps23
          go_wp2_with fail
          refine (own_isMask _ _).mono ?_
          rintro e u1 ⟨rfl, b1⟩
          rw [hm]
          go_wp2_with fail
          refine (own_isBit _ _).mono ?_
          rintro e u2 ⟨rfl, b2⟩
          rw [hk]
          go_wp2_with fail
          go_ret2
          exact ⟨by simp only [HO.out, two]; rfl, b1.trans (b2.mono b1.size)⟩
      · have HA : (bits .and .i64 (n : Int) 4 == 0) = !bitN n 2 := and_bit n hn 2 (by decide)
        cases hb : bitN n 2
        · rw [show dropR (n : Int) 2 = (0, 16) by simp [dropR, hm, hk, hb]]
          rw [hb] at HA
          simp only [Bool.not_false] at HA
          go_enter Try.func23, Try.ntmps23
          go_wp2_with fail
          refine (own_isMask _ _).mono ?_
          rintro e u1 ⟨rfl, b1⟩
          rw [hm]
          go_wp2_with fail
          refine (own_isBit _ _).mono ?_
          rintro e u2 ⟨rfl, b2⟩
          rw [hk]
          go_wp2_with fail
          go_ret2
          exact ⟨rfl, b1.trans (b2.mono b1.size)⟩
        · rw [show dropR (n : Int) 2 = (((dropN n 2 : Nat) : Int), (0 : Int)) by simp [dropR, hm, hk, hb]]
          rw [hb] at HA
          simp only [Bool.not_true] at HA
          have HO : Hid (bits .andNot .i64 (n : Int) 4 = ((dropN n 2 : Nat) : Int)) := not_drop n hn 2 (by decide) hb
          go_enter Try.func23, Try.ntmps23
          go_wp2_with fail
          refine (own_isMask _ _).mono ?_
          rintro e u1 ⟨rfl, b1⟩
          rw [hm]
          go_wp2_with fail
          refine (own_isBit _ _).mono ?_
          rintro e u2 ⟨rfl, b2⟩
          rw [hk]
          go_wp2_with fail
          go_ret2
          exact ⟨by simp only [HO.out, two]; rfl, b1.trans (b2.mono b1.size)⟩
      · have HA : (bits .and .i64 (n : Int) 8 == 0) = !bitN n 3 := and_bit n hn 3 (by decide)
        cases hb : bitN n 3
        · rw [show dropR (n : Int) 3 = (0, 16) by simp [dropR, hm, hk, hb]]
          rw [hb] at HA
          simp only [Bool.not_false] at HA
          go_enter Try.func23, Try.ntmps23
          go_wp2_with fail
          refine (own_isMask _ _).mono ?_
          rintro e u1 ⟨rfl, b1⟩
          rw [hm]
          go_wp2_with fail
          refine (own_isBit _ _).mono ?_
          rintro e u2 ⟨rfl, b2⟩
          rw [hk]
          go_wp2_with fail
          go_ret2
          exact ⟨rfl, b1.trans (b2.mono b1.size)⟩
        · rw [show dropR (n : Int) 3 = (((dropN n 3 : Nat) : Int), (0 : Int)) by simp [dropR, hm, hk, hb]]
          rw [hb] at HA
          simp only [Bool.not_true] at HA
          have HO : Hid (bits .andNot .i64 (n : Int) 8 = ((dropN n 3 : Nat) : Int)) := not_drop n hn 3 (by decide) hb
          go_enter Try.func23, Try.ntmps23
          go_wp2_with fail
          refine (own_isMask _ _).mono ?_
          rintro e u1 ⟨rfl, b1⟩
          rw [hm]
          go_wp2_with fail
          refine (own_isBit _ _).mono ?_
          rintro e u2 ⟨rfl, b2⟩
          rw [hk]
          go_wp2_with fail
          go_ret2
          exact ⟨by simp only [HO.out, two]; rfl, b1.trans (b2.mono b1.size)⟩
      · have HA : (bits .and .i64 (n : Int) 16 == 0) = !bitN n 4 := and_bit n hn 4 (by decide)
        cases hb : bitN n 4
        · rw [show dropR (n : Int) 4 = (0, 16) by simp [dropR, hm, hk, hb]]
          rw [hb] at HA
          simp only [Bool.not_false] at HA
          go_enter Try.func23, Try.ntmps23
          go_wp2_with fail
          refine (own_isMask _ _).mono ?_
          rintro e u1 ⟨rfl, b1⟩
          rw [hm]
          go_wp2_with fail
          refine (own_isBit _ _).mono ?_
          rintro e u2 ⟨rfl, b2⟩
          rw [hk]
          go_wp2_with fail
          go_ret2
          exact ⟨rfl, b1.trans (b2.mono b1.size)⟩
        · rw [show dropR (n : Int) 4 = (((dropN n 4 : Nat) : Int), (0 : Int)) by simp [dropR, hm, hk, hb]]
          rw [hb] at HA
          simp only [Bool.not_true] at HA
          have HO : Hid (bits .andNot .i64 (n : Int) 16 = ((dropN n 4 : Nat) : Int)) := not_drop n hn 4 (by decide) hb
          go_enter Try.func23, Try.ntmps23
          go_wp2_with fail
          refine (own_isMask _ _).mono ?_
          rintro e u1 ⟨rfl, b1⟩
          rw [hm]
          go_wp2_with fail
          refine (own_isBit _ _).mono ?_
          rintro e u2 ⟨rfl, b2⟩
          rw [hk]
          go_wp2_with fail
          go_ret2
          exact ⟨by simp only [HO.out, two]; rfl, b1.trans (b2.mono b1.size)⟩
      · have HA : (bits .and .i64 (n : Int) 32 == 0) = !bitN n 5 := and_bit n hn 5 (by decide)
        cases hb : bitN n 5
        · rw [show dropR (n : Int) 5 = (0, 16) by simp [dropR, hm, hk, hb]]
          rw [hb] at HA
          simp only [Bool.not_false] at HA
          go_enter Try.func23, Try.ntmps23
          go_wp2_with fail
          refine (own_isMask _ _).mono ?_
          rintro e u1 ⟨rfl, b1⟩
          rw [hm]
          go_wp2_with fail
          refine (own_isBit _ _).mono ?_
          rintro e u2 ⟨rfl, b2⟩
          rw [hk]
          go_wp2_with fail
          go_ret2
          exact ⟨rfl, b1.trans (b2.mono b1.size)⟩
        · rw [show dropR (n : Int) 5 = (((dropN n 5 : Nat) : Int), (0 : Int)) by simp [dropR, hm, hk, hb]]
          rw [hb] at HA
          simp only [Bool.not_true] at HA
          have HO : Hid (bits .andNot .i64 (n : Int) 32 = ((dropN n 5 : Nat) : Int)) := not_drop n hn 5 (by decide) hb
          go_enter Try.func23, Try.ntmps23
          go_wp2_with fail
          refine (own_isMask _ _).mono ?_
          rintro e u1 ⟨rfl, b1⟩
          rw [hm]
          go_wp2_with fail
          refine (own_isBit _ _).mono ?_
          rintro e u2 ⟨rfl, b2⟩
          rw [hk]
          go_wp2_with fail
          go_ret2
          exact ⟨by simp only [HO.out, two]; rfl, b1.trans (b2.mono b1.size)⟩
      · have HA : (bits .and .i64 (n : Int) 64 == 0) = !bitN n 6 := and_bit n hn 6 (by decide)
        cases hb : bitN n 6
        · rw [show dropR (n : Int) 6 = (0, 16) by simp [dropR, hm, hk, hb]]
          rw [hb] at HA
          simp only [Bool.not_false] at HA
          go_enter Try.func23, Try.ntmps23
          go_wp2_with fail
          refine (own_isMask _ _).mono ?_
          rintro e u1 ⟨rfl, b1⟩
          rw [hm]
          go_wp2_with fail
          refine (own_isBit _ _).mono ?_
          rintro e u2 ⟨rfl, b2⟩
          rw [hk]
          go_wp2_with fail
          go_ret2
          exact ⟨rfl, b1.trans (b2.mono b1.size)⟩
        · rw [show dropR (n : Int) 6 = (((dropN n 6 : Nat) : Int), (0 : Int)) by simp [dropR, hm, hk, hb]]
          rw [hb] at HA
          simp only [Bool.not_true] at HA
          have HO : Hid (bits .andNot .i64 (n : Int) 64 = ((dropN n 6 : Nat) : Int)) := not_drop n hn 6 (by decide) hb
          go_enter Try.func23, Try.ntmps23
          go_wp2_with fail
          refine (own_isMask _ _).mono ?_
          rintro e u1 ⟨rfl, b1⟩
          rw [hm]
          go_wp2_with fail
          refine (own_isBit _ _).mono ?_
          rintro e u2 ⟨rfl, b2⟩
          rw [hk]
          go_wp2_with fail
          go_ret2
          exact ⟨by simp only [HO.out, two]; rfl, b1.trans (b2.mono b1.size)⟩
      · have HA : (bits .and .i64 (n : Int) 128 == 0) = !bitN n 7 := and_bit n hn 7 (by decide)
        cases hb : bitN n 7
        · rw [show dropR (n : Int) 7 = (0, 16) by simp [dropR, hm, hk, hb]]
          rw [hb] at HA
          simp only [Bool.not_false] at HA
          go_enter Try.func23, Try.ntmps23
          go_wp2_with fail
          refine (own_isMask _ _).mono ?_
          rintro e u1 ⟨rfl, b1⟩
          rw [hm]
          go_wp2_with fail
          refine (own_isBit _ _).mono ?_
          rintro e u2 ⟨rfl, b2⟩
          rw [hk]
          go_wp2_with fail
          go_ret2
          exact ⟨rfl, b1.trans (b2.mono b1.size)⟩
        · rw [show dropR (n : Int) 7 = (((dropN n 7 : Nat) : Int), (0 : Int)) by simp [dropR, hm, hk, hb]]
          rw [hb] at HA
          simp only [Bool.not_true] at HA
          have HO : Hid (bits .andNot .i64 (n : Int) 128 = ((dropN n 7 : Nat) : Int)) := not_drop n hn 7 (by decide) hb
          go_enter Try.func23, Try.ntmps23
          go_wp2_with fail
          refine (own_isMask _ _).mono ?_
          rintro e u1 ⟨rfl, b1⟩
          rw [hm]
          go_wp2_with fail
          refine (own_isBit _ _).mono ?_
          rintro e u2 ⟨rfl, b2⟩
          rw [hk]
          go_wp2_with fail
          go_ret2
          exact ⟨by simp only [HO.out, two]; rfl, b1.trans (b2.mono b1.size)⟩
end Go.Proofs.Ytiaoidbhdkldlab
