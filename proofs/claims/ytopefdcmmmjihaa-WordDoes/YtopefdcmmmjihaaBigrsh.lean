/- Contracts of the big numbers: Rsh. -/
import Derived.Test.YtopefdcmmmjihaaBigmulz
import Derived.Test.YtopefdcmmmjihaaBigright
namespace Go.Proofs.Ytopefdcmmmjihaa
open Go.ChangeShapes Go.WideShapes Go.ChangeAt Go.RowKit

theorem floor_neg {X P : Int} (hP : 0 < P) : - ((X - 1) / P + 1) = (- X) / P := by
  have h1 := Int.emod_add_mul_ediv (X - 1) P
  have h2 := Int.emod_lt_of_pos (X - 1) hP
  have h3 := Int.emod_nonneg (X - 1) (show P ≠ 0 by omega)
  generalize (X - 1) / P = q at *
  generalize (X - 1) % P = r at *
  have e : - X = (P - r - 1) + P * (- q - 1) := by
    rw [Int.mul_sub, Int.mul_neg, Int.mul_one]; omega
  rw [e, Int.add_mul_ediv_left _ _ (by omega), Int.ediv_eq_zero_of_lt (by omega) (by omega)]
  omega
theorem one_row (w : World) : Row (w.alloc (.cells #[.int .u32 1] 54)) (.slice (some ⟨w.heap.size, 0, none⟩) 1 1) [1] := row_new w [1] (fun x hx => by simp at hx; omega) (by unfold maxLen; simp)

set_option linter.unusedSimpArgs false in
set_option maxHeartbeats 4000000 in
theorem Rsh_any (z b : Nat) (n0 : Bool) (v0 : Value) (x : Int) (n : Nat) (w : World) (hz : IntBlock w z n0 v0) (hx : Big w b x) (hn : n ≤ 1000) (hx0 : - top 100 < x) (hx1 : x < top 100) :
    Calls Try.prog 20 #[.pointer (some ⟨z, 0, none⟩), .pointer (some ⟨b, 0, none⟩), .int .u64 n] w fun e w' => e = .returned (.pointer (some ⟨z, 0, none⟩)) ∧ Big w' z (x / 2 ^ n) ∧ w.grownBy w' (some z) := by
  obtain ⟨n1, ao1, k1, c1, a, i1, r1, m1, z1, e1, l1, -⟩ := hx.open
  obtain ⟨p1, p2, -, -⟩ := i1.cells
  have hla := len_of_abs r1.wds m1 e1 hx0 hx1
  have HZ : Hid (∀ W, Below w.heap.size w W → IntBlock W z n0 v0) := fun W hW => (hW.block z hz.lt).trans hz
  have HA : Hid (∀ W, Below w.heap.size w W → Row W (.slice ao1 k1 c1) a) := fun W hW => r1.below hW
  cases n1
  · have ex : x = nv a := e1
    subst ex
    clear hx i1 r1 m1 z1 e1 hx0 hx1 hz l1
    go_enter Try.func20, Try.ntmps20
    go_wp2_with fail
    refine (right_any _ a n w (HA.out _ (Below.refl _ _)) (by omega) (by omega)).mono ?_
    rintro e w2 ⟨v', ws, rfl, r2, m2, e2, b2⟩
    obtain ⟨ao, j, cap, rfl, hm2, -⟩ := r2.slice
    have HR : Hid (Row w2 (.slice ao j cap) ws ∧ Norm ws ∧ nv ws = nv a / 2 ^ n) := ⟨r2, m2, e2⟩
    clear r2 m2 e2
    go_wp2_with fail
    refine (give_any z n0 v0 false ao j cap w2 hm2 (HZ.out _ b2)).mono ?_
    rintro e w3 ⟨rfl, i3, g3⟩
    have HB : Hid (Big w3 z (nv a / 2 ^ n) ∧ w.grownBy w3 (some z)) := by
      refine ⟨?_, grown_trans (grown_of_below b2) g3⟩
      have := big_given (HZ.out _ b2) HR.out.1 HR.out.2.1 i3 g3
      rw [HR.out.2.2] at this
      exact this
    clear i3 g3
    go_wp2
    go_ret
    exact ⟨rfl, HB.out.1, HB.out.2⟩
  · have ex : x = - nv a := e1
    have hpos := nv_pos r1.wds m1 (z1 rfl)
    subst ex
    clear hx i1 z1 e1 hx0 hx1 hz l1
    go_enter Try.func20, Try.ntmps20
    go_wp2_with fail
    have B1 : Below w.heap.size w (w.alloc (.cells #[.int .u32 1] 54)) := (Below.refl _ _).alloc (Nat.le_refl _) _
    have e1 : nv [1] = 1 := rfl
    have hlp : 1 ≤ a.length := by
      rcases Nat.eq_zero_or_pos a.length with h | h
      · have : a = [] := List.length_eq_zero_iff.1 h
        subst this
        simp [nv] at hpos
      · exact h
    refine (sub_any _ _ a [1] _ (HA.out _ B1) (one_row w) (by omega) hlp (by omega)).mono ?_
    rintro e w2 ⟨v', ws, rfl, r2, m2, e2, b2⟩
    obtain ⟨ao, j, cap, rfl, hm2, -⟩ := r2.slice
    have l2 : ws.length ≤ 100 := nv_lenS r2.wds m2 (by have := (nv_range (HA.out _ (Below.refl _ _)).wds).2; have := top_mono hla; omega)
    have B2 : Below w.heap.size w w2 := below_trans B1 b2
    have HR : Hid (Row w2 (.slice ao j cap) ws ∧ nv ws = nv a - 1) := ⟨r2, by rw [e2, e1]⟩
    clear r2 m2 e2 b2 hm2
    go_wp2_with fail
    refine (right_any _ ws n w2 HR.out.1 (by omega) (by omega)).mono ?_
    rintro e w3 ⟨v', us, rfl, r3, m3, e3, b3⟩
    obtain ⟨bo, j3, cap3, rfl, hm3, -⟩ := r3.slice
    have l3 : us.length ≤ 100 := nv_lenS r3.wds m3 (by
      have h1 := (nv_range HR.out.1.wds)
      have h2 := Int.ediv_le_self (2 ^ n) h1.1
      have h3 := top_mono l2
      rw [e3]; omega)
    have B3 : Below w.heap.size w w3 := below_trans B2 b3
    have B4 : Below w3.heap.size w3 (w3.alloc (.cells #[.int .u32 1] 54)) := (Below.refl _ _).alloc (Nat.le_refl _) _
    have HR3 : Hid (Row (w3.alloc (.cells #[.int .u32 1] 54)) (.slice bo j3 cap3) us ∧ nv us = (nv a - 1) / 2 ^ n) := ⟨r3.below B4, by rw [e3, HR.out.2]⟩
    clear r3 m3 e3 b3 hm3
    go_wp2_with fail
    refine (add_any _ _ us [1] _ HR3.out.1 (one_row w3) (by omega) (by decide)).mono ?_
    rintro e w5 ⟨v', ts, rfl, r5, m5, e5, b5⟩
    obtain ⟨to, j5, cap5, rfl, hm5, -⟩ := r5.slice
    have B5 : Below w.heap.size w w5 := below_trans (below_trans B3 B4) b5
    have HR5 : Hid (Row w5 (.slice to j5 cap5) ts ∧ Norm ts ∧ nv ts = (nv a - 1) / 2 ^ n + 1) := ⟨r5, m5, by rw [e5, e1, HR3.out.2]⟩
    clear r5 m5 e5 b5
    go_wp2_with fail
    refine (give_any z n0 v0 true to j5 cap5 w5 hm5 (HZ.out _ B5)).mono ?_
    rintro e w6 ⟨rfl, i6, g6⟩
    have HB : Hid (Big w6 z ((- nv a) / 2 ^ n) ∧ w.grownBy w6 (some z)) := by
      refine ⟨?_, grown_trans (grown_of_below B5) g6⟩
      have := big_given (HZ.out _ B5) HR5.out.1 HR5.out.2.1 i6 g6
      rw [HR5.out.2.2] at this
      rw [← floor_neg (Int.pow_pos (by decide))]
      exact this
    clear i6 g6
    go_wp2
    go_ret
    exact ⟨rfl, HB.out.1, HB.out.2⟩
end Go.Proofs.Ytopefdcmmmjihaa
