/- What panicroadref.Do answers. -/
import Derived.Test.YtopefdcmmmjihaaBigknu
import Derived.Test.YtopefdcmmmjihaaBigqs
import Derived.Test.YtopefdcmmmjihaaBigrsh
import Derived.Test.YtopefdcmmmjihaaBigwrap
import Derived.Test.YtopefdcmmmjihaaBitwise
import Derived.Test.YtopefdcmmmjihaaBigmulz
namespace Go.Proofs.Ytopefdcmmmjihaa
open Go.ChangeShapes Go.WideShapes Go.ChangeAt Go.RowKit

theorem big90 : (2 : Int) ^ 140 < top 90 ∧ (2 : Int) ^ 140 < top 100 := by
  have h1 := top_mono (m := 5) (n := 90) (by decide)
  have h2 := top_mono (m := 5) (n := 100) (by decide)
  have h5 : (2 : Int) ^ 140 < top 5 := by decide
  omega
/-- The division by 2^64. -/
theorem div64 {x : Int} (h0 : - 2 ^ 140 < x) (h1 : x < 2 ^ 140) : DivOK (if x < 0 then - x else x) 18446744073709551616 := by
  have hX : 0 ≤ (if x < 0 then - x else x) ∧ (if x < 0 then - x else x) < 2 ^ 140 := by split <;> omega
  generalize (if x < 0 then - x else x) = X at *
  rcases Int.lt_or_le X 18446744073709551616 with h | h
  · exact divOK_small h (by decide)
  · intro va vb a d W ha hd na nd ea ed
    have hl : a.length ≤ 90 := nv_lenS ha.wds na (by have := big90.1; omega)
    have := div_knuth va vb a d W ha hd na nd hl (by omega) ed
    rw [ea] at this
    exact this
theorem i64_abs {a : Int} (h0 : -9223372036854775808 ≤ a) (h1 : a ≤ 9223372036854775807) : - 2 ^ 63 ≤ a ∧ a < 2 ^ 63 := ⟨h0, by omega⟩
theorem mul_abs {a b : Int} {m n : Nat} (ha : - 2 ^ m ≤ a ∧ a ≤ 2 ^ m) (hb : - 2 ^ n ≤ b ∧ b ≤ 2 ^ n) : - 2 ^ (m + n) ≤ a * b ∧ a * b ≤ 2 ^ (m + n) := by
  have h1 : (a * b).natAbs = a.natAbs * b.natAbs := Int.natAbs_mul a b
  have h2 : a.natAbs ≤ 2 ^ m := by have : ((2 ^ m : Nat) : Int) = (2 : Int) ^ m := by simp
                                   omega
  have h3 : b.natAbs ≤ 2 ^ n := by have : ((2 ^ n : Nat) : Int) = (2 : Int) ^ n := by simp
                                   omega
  have h4 : a.natAbs * b.natAbs ≤ 2 ^ m * 2 ^ n := Nat.mul_le_mul h2 h3
  rw [← h1, ← Nat.pow_add] at h4
  have h5 : ((2 ^ (m + n) : Nat) : Int) = (2 : Int) ^ (m + n) := by simp
  omega

set_option maxHeartbeats 1600000 in
theorem ref_add (a b : Int) (a0 : -9223372036854775808 ≤ a) (a1 : a ≤ 9223372036854775807) (b0 : -9223372036854775808 ≤ b) (b1 : b ≤ 9223372036854775807) (w : World) :
    Calls Try.prog 7 #[.int .i64 1, .int .i64 a, .int .i64 b] w fun e w' => e = .returned (.tuple #[.int .i64 (wrap64 (a + b)), .int .i64 0]) ∧ Below w.heap.size w w' := by
  have t := big90
  have HA : Hid (Below w.heap.size w (w.alloc (.cells #[.bool false, .slice none 0 0] 33)) ∧ IntBlock (w.alloc (.cells #[.bool false, .slice none 0 0] 33)) w.heap.size false (.slice none 0 0)) := ⟨(Below.refl _ _).alloc (Nat.le_refl _) _, int_new w⟩
  have HX : Hid (- 2 ^ 140 < a + b ∧ a + b < 2 ^ 140) := by
    have p : (2 : Int) ^ 140 = 1393796574908163946345982392040522594123776 := by decide
    have p2 : (2 : Int) ^ (63 + 63) = 85070591730234615865843651857942052864 := by decide
    show _ ∧ _; omega
  have T : Hid ((2 : Int) ^ 140 < top 100 ∧ (9223372036854775807 : Int) < 2 ^ 140) := ⟨t.2, by decide⟩
  clear t
  go_enter Try.func7, Try.ntmps7
  go_wp2_with fail
  refine (whole_any a a0 a1 _).mono ?_
  rintro e w1 ⟨x1, rfl, -, g1, f1⟩
  have HB1 : Hid (Big w1 x1 a ∧ IntBlock w1 w.heap.size false (.slice none 0 0) ∧ Below w.heap.size w w1) := ⟨g1, (f1.block _ HA.out.2.lt).trans HA.out.2, below_trans HA.out.1 f1⟩
  clear g1 f1
  go_wp2_with fail
  refine (whole_any b b0 b1 _).mono ?_
  rintro e w2 ⟨x2, rfl, -, g2, f2⟩
  have HB2 : Hid (Big w2 x1 a ∧ Big w2 x2 b ∧ IntBlock w2 w.heap.size false (.slice none 0 0) ∧ Below w.heap.size w w2) := ⟨HB1.out.1.below f2, g2, (f2.block _ HB1.out.2.1.lt).trans HB1.out.2.1, below_trans HB1.out.2.2 f2⟩
  clear g2 f2
  go_wp2_with fail
  refine (Add_any w.heap.size x1 x2 false (.slice none 0 0) a b w2 HB2.out.2.2.1 HB2.out.1 HB2.out.2.1 (by have := T.out; omega) (by have := T.out; omega) (by have := T.out; omega) (by have := T.out; omega)).mono ?_
  rintro e w3 ⟨rfl, g3, f3⟩
  have HB3 : Hid (Big w3 w.heap.size (a + b) ∧ Below w.heap.size w w3) := ⟨g3, below_grown HB2.out.2.2.2 f3 (Nat.le_refl _)⟩
  clear g3 f3
  go_wp2_with fail
  refine (wrapped_any w.heap.size (a + b) w3 HB3.out.1 (div64 HX.out.1 HX.out.2)).mono ?_
  rintro e w4 ⟨rfl, f4⟩
  go_wp2
  go_ret2
  exact ⟨rfl, below_trans HB3.out.2 f4⟩

set_option maxHeartbeats 1600000 in
theorem ref_sub (a b : Int) (a0 : -9223372036854775808 ≤ a) (a1 : a ≤ 9223372036854775807) (b0 : -9223372036854775808 ≤ b) (b1 : b ≤ 9223372036854775807) (w : World) :
    Calls Try.prog 7 #[.int .i64 2, .int .i64 a, .int .i64 b] w fun e w' => e = .returned (.tuple #[.int .i64 (wrap64 (a - b)), .int .i64 0]) ∧ Below w.heap.size w w' := by
  have t := big90
  have HA : Hid (Below w.heap.size w (w.alloc (.cells #[.bool false, .slice none 0 0] 33)) ∧ IntBlock (w.alloc (.cells #[.bool false, .slice none 0 0] 33)) w.heap.size false (.slice none 0 0)) := ⟨(Below.refl _ _).alloc (Nat.le_refl _) _, int_new w⟩
  have HX : Hid (- 2 ^ 140 < a - b ∧ a - b < 2 ^ 140) := by
    have p : (2 : Int) ^ 140 = 1393796574908163946345982392040522594123776 := by decide
    have p2 : (2 : Int) ^ (63 + 63) = 85070591730234615865843651857942052864 := by decide
    show _ ∧ _; omega
  have T : Hid ((2 : Int) ^ 140 < top 100 ∧ (9223372036854775807 : Int) < 2 ^ 140) := ⟨t.2, by decide⟩
  clear t
  go_enter Try.func7, Try.ntmps7
  go_wp2_with fail
  refine (whole_any a a0 a1 _).mono ?_
  rintro e w1 ⟨x1, rfl, -, g1, f1⟩
  have HB1 : Hid (Big w1 x1 a ∧ IntBlock w1 w.heap.size false (.slice none 0 0) ∧ Below w.heap.size w w1) := ⟨g1, (f1.block _ HA.out.2.lt).trans HA.out.2, below_trans HA.out.1 f1⟩
  clear g1 f1
  go_wp2_with fail
  refine (whole_any b b0 b1 _).mono ?_
  rintro e w2 ⟨x2, rfl, -, g2, f2⟩
  have HB2 : Hid (Big w2 x1 a ∧ Big w2 x2 b ∧ IntBlock w2 w.heap.size false (.slice none 0 0) ∧ Below w.heap.size w w2) := ⟨HB1.out.1.below f2, g2, (f2.block _ HB1.out.2.1.lt).trans HB1.out.2.1, below_trans HB1.out.2.2 f2⟩
  clear g2 f2
  go_wp2_with fail
  refine (Sub_any w.heap.size x1 x2 false (.slice none 0 0) a b w2 HB2.out.2.2.1 HB2.out.1 HB2.out.2.1 (by have := T.out; omega) (by have := T.out; omega) (by have := T.out; omega) (by have := T.out; omega)).mono ?_
  rintro e w3 ⟨rfl, g3, f3⟩
  have HB3 : Hid (Big w3 w.heap.size (a - b) ∧ Below w.heap.size w w3) := ⟨g3, below_grown HB2.out.2.2.2 f3 (Nat.le_refl _)⟩
  clear g3 f3
  go_wp2_with fail
  refine (wrapped_any w.heap.size (a - b) w3 HB3.out.1 (div64 HX.out.1 HX.out.2)).mono ?_
  rintro e w4 ⟨rfl, f4⟩
  go_wp2
  go_ret2
  exact ⟨rfl, below_trans HB3.out.2 f4⟩

set_option maxHeartbeats 1600000 in
theorem ref_mul (a b : Int) (a0 : -9223372036854775808 ≤ a) (a1 : a ≤ 9223372036854775807) (b0 : -9223372036854775808 ≤ b) (b1 : b ≤ 9223372036854775807) (w : World) :
    Calls Try.prog 7 #[.int .i64 3, .int .i64 a, .int .i64 b] w fun e w' => e = .returned (.tuple #[.int .i64 (wrap64 (a * b)), .int .i64 0]) ∧ Below w.heap.size w w' := by
  have t := big90
  have HA : Hid (Below w.heap.size w (w.alloc (.cells #[.bool false, .slice none 0 0] 33)) ∧ IntBlock (w.alloc (.cells #[.bool false, .slice none 0 0] 33)) w.heap.size false (.slice none 0 0)) := ⟨(Below.refl _ _).alloc (Nat.le_refl _) _, int_new w⟩
  have HX : Hid (- 2 ^ 140 < a * b ∧ a * b < 2 ^ 140) := by
    have p : (2 : Int) ^ 140 = 1393796574908163946345982392040522594123776 := by decide
    have p2 : (2 : Int) ^ (63 + 63) = 85070591730234615865843651857942052864 := by decide
    have h := mul_abs (a := a) (b := b) (m := 63) (n := 63) (by omega) (by omega)
    show _ ∧ _
    rw [p2] at h
    omega
  have T : Hid ((2 : Int) ^ 140 < top 100 ∧ (9223372036854775807 : Int) < 2 ^ 140) := ⟨t.2, by decide⟩
  clear t
  go_enter Try.func7, Try.ntmps7
  go_wp2_with fail
  refine (whole_any a a0 a1 _).mono ?_
  rintro e w1 ⟨x1, rfl, -, g1, f1⟩
  have HB1 : Hid (Big w1 x1 a ∧ IntBlock w1 w.heap.size false (.slice none 0 0) ∧ Below w.heap.size w w1) := ⟨g1, (f1.block _ HA.out.2.lt).trans HA.out.2, below_trans HA.out.1 f1⟩
  clear g1 f1
  go_wp2_with fail
  refine (whole_any b b0 b1 _).mono ?_
  rintro e w2 ⟨x2, rfl, -, g2, f2⟩
  have HB2 : Hid (Big w2 x1 a ∧ Big w2 x2 b ∧ IntBlock w2 w.heap.size false (.slice none 0 0) ∧ Below w.heap.size w w2) := ⟨HB1.out.1.below f2, g2, (f2.block _ HB1.out.2.1.lt).trans HB1.out.2.1, below_trans HB1.out.2.2 f2⟩
  clear g2 f2
  go_wp2_with fail
  refine (Mul_any w.heap.size x1 x2 false (.slice none 0 0) a b w2 HB2.out.2.2.1 HB2.out.1 HB2.out.2.1 (by have := T.out; omega) (by have := T.out; omega) (by have := T.out; omega) (by have := T.out; omega)).mono ?_
  rintro e w3 ⟨rfl, g3, f3⟩
  have HB3 : Hid (Big w3 w.heap.size (a * b) ∧ Below w.heap.size w w3) := ⟨g3, below_grown HB2.out.2.2.2 f3 (Nat.le_refl _)⟩
  clear g3 f3
  go_wp2_with fail
  refine (wrapped_any w.heap.size (a * b) w3 HB3.out.1 (div64 HX.out.1 HX.out.2)).mono ?_
  rintro e w4 ⟨rfl, f4⟩
  go_wp2
  go_ret2
  exact ⟨rfl, below_trans HB3.out.2 f4⟩

set_option maxHeartbeats 1600000 in
theorem ref_quo (a b : Int) (a0 : -9223372036854775808 ≤ a) (a1 : a ≤ 9223372036854775807) (b0 : -9223372036854775808 ≤ b) (b1 : b ≤ 9223372036854775807) (h0 : b ≠ 0) (w : World) :
    Calls Try.prog 7 #[.int .i64 4, .int .i64 a, .int .i64 b] w fun e w' => e = .returned (.tuple #[.int .i64 (wrap64 (a.tdiv b)), .int .i64 0]) ∧ Below w.heap.size w w' := by
  have hb : (b == 0) = false := by simpa using h0
  have HX : Hid (- 2 ^ 140 < a.tdiv b ∧ a.tdiv b < 2 ^ 140) := by
    have p : (2 : Int) ^ 140 = 1393796574908163946345982392040522594123776 := by decide
    have h1 : (a.tdiv b).natAbs ≤ a.natAbs := by rw [Int.natAbs_tdiv]; exact Nat.div_le_self _ _
    have h2 : (a.tmod b).natAbs ≤ a.natAbs := by rw [Int.natAbs_tmod]; exact Nat.mod_le _ _
    show _ ∧ _
    generalize a.tdiv b = q at *
    generalize a.tmod b = r at *
    omega
  have HA : Hid (Below w.heap.size w (w.alloc (.cells #[.bool false, .slice none 0 0] 33)) ∧ IntBlock ((w.alloc (.cells #[.bool false, .slice none 0 0] 33)).alloc (.cells #[.bool false, .slice none 0 0] 33)) (w.heap.size + 1) false (.slice none 0 0) ∧ Below w.heap.size w ((w.alloc (.cells #[.bool false, .slice none 0 0] 33)).alloc (.cells #[.bool false, .slice none 0 0] 33))) :=
    ⟨(Below.refl _ _).alloc (Nat.le_refl _) _, by have := int_new (w.alloc (.cells #[.bool false, .slice none 0 0] 33)); simpa using this, ((Below.refl _ _).alloc (Nat.le_refl _) _).alloc (by simp) _⟩
  go_enter Try.func7, Try.ntmps7
  go_wp2_with fail
  refine (whole_any a a0 a1 _).mono ?_
  rintro e w1 ⟨x1, rfl, -, g1, f1⟩
  have HB1 : Hid (Big w1 x1 a ∧ IntBlock w1 (w.heap.size + 1) false (.slice none 0 0) ∧ Below w.heap.size w w1) := ⟨g1, (f1.block _ HA.out.2.1.lt).trans HA.out.2.1, below_trans HA.out.2.2 f1⟩
  clear g1 f1
  go_wp2_with fail
  refine (whole_any b b0 b1 _).mono ?_
  rintro e w2 ⟨x2, rfl, -, g2, f2⟩
  have HB2 : Hid (Big w2 x1 a ∧ Big w2 x2 b ∧ IntBlock w2 (w.heap.size + 1) false (.slice none 0 0) ∧ Below w.heap.size w w2) := ⟨HB1.out.1.below f2, g2, (f2.block _ HB1.out.2.1.lt).trans HB1.out.2.1, below_trans HB1.out.2.2 f2⟩
  clear g2 f2
  have lt2 := HB2.out.2.2.1.lt
  have f3 : Below w2.heap.size w2 (w2.alloc (.cells #[.bool false, .slice none 0 0] 33)) := (Below.refl _ _).alloc (Nat.le_refl _) _
  have HB3 : Hid (Big (w2.alloc (.cells #[.bool false, .slice none 0 0] 33)) x1 a ∧ Big (w2.alloc (.cells #[.bool false, .slice none 0 0] 33)) x2 b ∧ IntBlock (w2.alloc (.cells #[.bool false, .slice none 0 0] 33)) (w.heap.size + 1) false (.slice none 0 0) ∧ IntBlock (w2.alloc (.cells #[.bool false, .slice none 0 0] 33)) w2.heap.size false (.slice none 0 0) ∧ Below w.heap.size w (w2.alloc (.cells #[.bool false, .slice none 0 0] 33))) :=
    ⟨HB2.out.1.below f3, HB2.out.2.1.below f3, (f3.block _ lt2).trans HB2.out.2.2.1, int_new w2, below_trans HB2.out.2.2.2 f3⟩
  clear f3
  go_wp2_with fail
  refine (QuoRem_small (w.heap.size + 1) x1 x2 w2.heap.size false false _ _ a b _ (by omega) HB3.out.2.2.1 HB3.out.2.2.2.1 HB3.out.1 HB3.out.2.1 (by omega) (by omega) h0).mono ?_
  rintro e w4 ⟨rfl, gq, gr, w3, k1, k2⟩
  have HB4 : Hid (Big w4 (w.heap.size + 1) (a.tdiv b) ∧ Big w4 w2.heap.size (a.tmod b) ∧ Below w.heap.size w w4) := ⟨gq, gr, below_grown (below_grown HB3.out.2.2.2.2 k1 (by omega)) k2 (by omega)⟩
  clear gq gr k1 k2
  go_wp2_with fail
  refine (wrapped_any _ (a.tdiv b) w4 HB4.out.1 (div64 HX.out.1 HX.out.2)).mono ?_
  rintro e w5 ⟨rfl, f5⟩
  go_wp2
  go_ret2
  exact ⟨rfl, below_trans HB4.out.2.2 f5⟩

set_option maxHeartbeats 1600000 in
theorem ref_rem (a b : Int) (a0 : -9223372036854775808 ≤ a) (a1 : a ≤ 9223372036854775807) (b0 : -9223372036854775808 ≤ b) (b1 : b ≤ 9223372036854775807) (h0 : b ≠ 0) (w : World) :
    Calls Try.prog 7 #[.int .i64 5, .int .i64 a, .int .i64 b] w fun e w' => e = .returned (.tuple #[.int .i64 (wrap64 (a.tmod b)), .int .i64 0]) ∧ Below w.heap.size w w' := by
  have hb : (b == 0) = false := by simpa using h0
  have HX : Hid (- 2 ^ 140 < a.tmod b ∧ a.tmod b < 2 ^ 140) := by
    have p : (2 : Int) ^ 140 = 1393796574908163946345982392040522594123776 := by decide
    have h1 : (a.tdiv b).natAbs ≤ a.natAbs := by rw [Int.natAbs_tdiv]; exact Nat.div_le_self _ _
    have h2 : (a.tmod b).natAbs ≤ a.natAbs := by rw [Int.natAbs_tmod]; exact Nat.mod_le _ _
    show _ ∧ _
    generalize a.tdiv b = q at *
    generalize a.tmod b = r at *
    omega
  have HA : Hid (Below w.heap.size w (w.alloc (.cells #[.bool false, .slice none 0 0] 33)) ∧ IntBlock ((w.alloc (.cells #[.bool false, .slice none 0 0] 33)).alloc (.cells #[.bool false, .slice none 0 0] 33)) (w.heap.size + 1) false (.slice none 0 0) ∧ Below w.heap.size w ((w.alloc (.cells #[.bool false, .slice none 0 0] 33)).alloc (.cells #[.bool false, .slice none 0 0] 33))) :=
    ⟨(Below.refl _ _).alloc (Nat.le_refl _) _, by have := int_new (w.alloc (.cells #[.bool false, .slice none 0 0] 33)); simpa using this, ((Below.refl _ _).alloc (Nat.le_refl _) _).alloc (by simp) _⟩
  go_enter Try.func7, Try.ntmps7
  go_wp2_with fail
  refine (whole_any a a0 a1 _).mono ?_
  rintro e w1 ⟨x1, rfl, -, g1, f1⟩
  have HB1 : Hid (Big w1 x1 a ∧ IntBlock w1 (w.heap.size + 1) false (.slice none 0 0) ∧ Below w.heap.size w w1) := ⟨g1, (f1.block _ HA.out.2.1.lt).trans HA.out.2.1, below_trans HA.out.2.2 f1⟩
  clear g1 f1
  go_wp2_with fail
  refine (whole_any b b0 b1 _).mono ?_
  rintro e w2 ⟨x2, rfl, -, g2, f2⟩
  have HB2 : Hid (Big w2 x1 a ∧ Big w2 x2 b ∧ IntBlock w2 (w.heap.size + 1) false (.slice none 0 0) ∧ Below w.heap.size w w2) := ⟨HB1.out.1.below f2, g2, (f2.block _ HB1.out.2.1.lt).trans HB1.out.2.1, below_trans HB1.out.2.2 f2⟩
  clear g2 f2
  have lt2 := HB2.out.2.2.1.lt
  have f3 : Below w2.heap.size w2 (w2.alloc (.cells #[.bool false, .slice none 0 0] 33)) := (Below.refl _ _).alloc (Nat.le_refl _) _
  have HB3 : Hid (Big (w2.alloc (.cells #[.bool false, .slice none 0 0] 33)) x1 a ∧ Big (w2.alloc (.cells #[.bool false, .slice none 0 0] 33)) x2 b ∧ IntBlock (w2.alloc (.cells #[.bool false, .slice none 0 0] 33)) (w.heap.size + 1) false (.slice none 0 0) ∧ IntBlock (w2.alloc (.cells #[.bool false, .slice none 0 0] 33)) w2.heap.size false (.slice none 0 0) ∧ Below w.heap.size w (w2.alloc (.cells #[.bool false, .slice none 0 0] 33))) :=
    ⟨HB2.out.1.below f3, HB2.out.2.1.below f3, (f3.block _ lt2).trans HB2.out.2.2.1, int_new w2, below_trans HB2.out.2.2.2 f3⟩
  clear f3
  go_wp2_with fail
  refine (QuoRem_small (w.heap.size + 1) x1 x2 w2.heap.size false false _ _ a b _ (by omega) HB3.out.2.2.1 HB3.out.2.2.2.1 HB3.out.1 HB3.out.2.1 (by omega) (by omega) h0).mono ?_
  rintro e w4 ⟨rfl, gq, gr, w3, k1, k2⟩
  have HB4 : Hid (Big w4 (w.heap.size + 1) (a.tdiv b) ∧ Big w4 w2.heap.size (a.tmod b) ∧ Below w.heap.size w w4) := ⟨gq, gr, below_grown (below_grown HB3.out.2.2.2.2 k1 (by omega)) k2 (by omega)⟩
  clear gq gr k1 k2
  go_wp2_with fail
  refine (wrapped_any _ (a.tmod b) w4 HB4.out.2.1 (div64 HX.out.1 HX.out.2)).mono ?_
  rintro e w5 ⟨rfl, f5⟩
  go_wp2
  go_ret2
  exact ⟨rfl, below_trans HB4.out.2.2 f5⟩

theorem ref_quo_no (a b : Int) (h : b = 0) (w : World) :
    Calls Try.prog 7 #[.int .i64 4, .int .i64 a, .int .i64 b] w fun e w' => e = .returned (.tuple #[.int .i64 0, .int .i64 20]) ∧ Below w.heap.size w w' := by
  subst h
  go_enter Try.func7, Try.ntmps7
  go_wp2
  go_ret2
  exact ⟨rfl, (Below.refl _ _).alloc (Nat.le_refl _) _⟩

theorem ref_rem_no (a b : Int) (h : b = 0) (w : World) :
    Calls Try.prog 7 #[.int .i64 5, .int .i64 a, .int .i64 b] w fun e w' => e = .returned (.tuple #[.int .i64 0, .int .i64 20]) ∧ Below w.heap.size w w' := by
  subst h
  go_enter Try.func7, Try.ntmps7
  go_wp2
  go_ret2
  exact ⟨rfl, (Below.refl _ _).alloc (Nat.le_refl _) _⟩

theorem ref_shl_no (a b : Int) (h : b < 0) (w : World) :
    Calls Try.prog 7 #[.int .i64 6, .int .i64 a, .int .i64 b] w fun e w' => e = .returned (.tuple #[.int .i64 0, .int .i64 21]) ∧ Below w.heap.size w w' := by
  have hk := h
  go_enter Try.func7, Try.ntmps7
  go_wp2
  go_ret2
  exact ⟨rfl, (Below.refl _ _).alloc (Nat.le_refl _) _⟩

theorem ref_shr_no (a b : Int) (h : b < 0) (w : World) :
    Calls Try.prog 7 #[.int .i64 7, .int .i64 a, .int .i64 b] w fun e w' => e = .returned (.tuple #[.int .i64 0, .int .i64 21]) ∧ Below w.heap.size w w' := by
  have hk := h
  go_enter Try.func7, Try.ntmps7
  go_wp2
  go_ret2
  exact ⟨rfl, (Below.refl _ _).alloc (Nat.le_refl _) _⟩

set_option maxHeartbeats 1600000 in
theorem ref_shl (a : Int) (n : Nat) (a0 : -9223372036854775808 ≤ a) (a1 : a ≤ 9223372036854775807) (b1 : n ≤ 9223372036854775807) (w : World) :
    Calls Try.prog 7 #[.int .i64 6, .int .i64 a, .int .i64 n] w fun e w' => e = .returned (.tuple #[.int .i64 (wrap64 (a * 2 ^ min n 70)), .int .i64 0]) ∧ Below w.heap.size w w' := by
  have t := big90
  have hmin : min (n : Int) 70 = ((min n 70 : Nat) : Int) := by omega
  have hm : min n 70 ≤ 70 := Nat.min_le_right _ _
  have HX : Hid (- 2 ^ 140 < a * 2 ^ min n 70 ∧ a * 2 ^ min n 70 < 2 ^ 140) := by
    have p : (2 : Int) ^ 140 = 1393796574908163946345982392040522594123776 := by decide
    show _ ∧ _
    have q : (2 : Int) ^ (min n 70) ≤ 2 ^ 70 := by
      have := Nat.pow_le_pow_right (n := 2) (by decide) hm
      have e1 : ((2 ^ (min n 70) : Nat) : Int) = (2 : Int) ^ (min n 70) := by simp
      have e2 : ((2 ^ 70 : Nat) : Int) = (2 : Int) ^ 70 := by simp
      omega
    have q0 : (0 : Int) < 2 ^ (min n 70) := Int.pow_pos (by decide)
    have h := mul_abs (a := a) (b := 2 ^ (min n 70)) (m := 63) (n := 70) (by omega) (by omega)
    have p2 : (2 : Int) ^ (63 + 70) = 10889035741470030830827987437816582766592 := by decide
    rw [p2] at h
    omega
  have HA : Hid (Below w.heap.size w (w.alloc (.cells #[.bool false, .slice none 0 0] 33)) ∧ IntBlock (w.alloc (.cells #[.bool false, .slice none 0 0] 33)) w.heap.size false (.slice none 0 0)) := ⟨(Below.refl _ _).alloc (Nat.le_refl _) _, int_new w⟩
  have T : Hid ((2 : Int) ^ 140 < top 100 ∧ (9223372036854775807 : Int) < 2 ^ 140) := ⟨t.2, by decide⟩
  have n0 : decide ((n : Int) < 0) = false := by simp
  clear t hmin hm
  rcases (show n < 70 ∨ n = 70 ∨ 70 < n by omega) with h | h | h
  · have e : min n 70 = n := by omega
    rw [e] at HX ⊢
    clear e
    have hlt : (n : Int) < 70 := by omega
    go_enter Try.func7, Try.ntmps7
    go_wp2_with fail
    refine (whole_any a a0 a1 _).mono ?_
    rintro e w1 ⟨x1, rfl, -, g1, f1⟩
    have HB1 : Hid (Big w1 x1 a ∧ IntBlock w1 w.heap.size false (.slice none 0 0) ∧ Below w.heap.size w w1) := ⟨g1, (f1.block _ HA.out.2.lt).trans HA.out.2, below_trans HA.out.1 f1⟩
    clear g1 f1
    go_wp2_with fail
    refine (Lsh_any w.heap.size x1 false (.slice none 0 0) a n w1 HB1.out.2.1 HB1.out.1 (by omega) (by have := T.out; omega) (by have := T.out; omega)).mono ?_
    rintro e w3 ⟨rfl, g3, f3⟩
    have HB3 : Hid (Big w3 w.heap.size (a * 2 ^ n) ∧ Below w.heap.size w w3) := ⟨g3, below_grown HB1.out.2.2 f3 (Nat.le_refl _)⟩
    clear g3 f3
    go_wp2_with fail
    refine (wrapped_any w.heap.size (a * 2 ^ n) w3 HB3.out.1 (div64 HX.out.1 HX.out.2)).mono ?_
    rintro e w4 ⟨rfl, f4⟩
    go_wp2
    go_ret2
    exact ⟨rfl, below_trans HB3.out.2 f4⟩
  · have e : min n 70 = 70 := by omega
    rw [e] at HX ⊢
    clear e
    subst h
    go_enter Try.func7, Try.ntmps7
    go_wp2_with fail
    refine (whole_any a a0 a1 _).mono ?_
    rintro e w1 ⟨x1, rfl, -, g1, f1⟩
    have HB1 : Hid (Big w1 x1 a ∧ IntBlock w1 w.heap.size false (.slice none 0 0) ∧ Below w.heap.size w w1) := ⟨g1, (f1.block _ HA.out.2.lt).trans HA.out.2, below_trans HA.out.1 f1⟩
    clear g1 f1
    go_wp2_with fail
    refine (Lsh_any w.heap.size x1 false (.slice none 0 0) a 70 w1 HB1.out.2.1 HB1.out.1 (by omega) (by have := T.out; omega) (by have := T.out; omega)).mono ?_
    rintro e w3 ⟨rfl, g3, f3⟩
    have HB3 : Hid (Big w3 w.heap.size (a * 2 ^ 70) ∧ Below w.heap.size w w3) := ⟨g3, below_grown HB1.out.2.2 f3 (Nat.le_refl _)⟩
    clear g3 f3
    go_wp2_with fail
    refine (wrapped_any w.heap.size (a * 2 ^ 70) w3 HB3.out.1 (div64 HX.out.1 HX.out.2)).mono ?_
    rintro e w4 ⟨rfl, f4⟩
    go_wp2
    go_ret2
    exact ⟨rfl, below_trans HB3.out.2 f4⟩
  · have e : min n 70 = 70 := by omega
    rw [e] at HX ⊢
    clear e
    have hlt : (70 : Int) < (n : Int) := by omega
    go_enter Try.func7, Try.ntmps7
    go_wp2_with fail
    refine (whole_any a a0 a1 _).mono ?_
    rintro e w1 ⟨x1, rfl, -, g1, f1⟩
    have HB1 : Hid (Big w1 x1 a ∧ IntBlock w1 w.heap.size false (.slice none 0 0) ∧ Below w.heap.size w w1) := ⟨g1, (f1.block _ HA.out.2.lt).trans HA.out.2, below_trans HA.out.1 f1⟩
    clear g1 f1
    go_wp2_with fail
    refine (Lsh_any w.heap.size x1 false (.slice none 0 0) a 70 w1 HB1.out.2.1 HB1.out.1 (by omega) (by have := T.out; omega) (by have := T.out; omega)).mono ?_
    rintro e w3 ⟨rfl, g3, f3⟩
    have HB3 : Hid (Big w3 w.heap.size (a * 2 ^ 70) ∧ Below w.heap.size w w3) := ⟨g3, below_grown HB1.out.2.2 f3 (Nat.le_refl _)⟩
    clear g3 f3
    go_wp2_with fail
    refine (wrapped_any w.heap.size (a * 2 ^ 70) w3 HB3.out.1 (div64 HX.out.1 HX.out.2)).mono ?_
    rintro e w4 ⟨rfl, f4⟩
    go_wp2
    go_ret2
    exact ⟨rfl, below_trans HB3.out.2 f4⟩

set_option maxHeartbeats 1600000 in
theorem ref_shr (a : Int) (n : Nat) (a0 : -9223372036854775808 ≤ a) (a1 : a ≤ 9223372036854775807) (b1 : n ≤ 9223372036854775807) (w : World) :
    Calls Try.prog 7 #[.int .i64 7, .int .i64 a, .int .i64 n] w fun e w' => e = .returned (.tuple #[.int .i64 (wrap64 (a / 2 ^ min n 70)), .int .i64 0]) ∧ Below w.heap.size w w' := by
  have t := big90
  have hmin : min (n : Int) 70 = ((min n 70 : Nat) : Int) := by omega
  have hm : min n 70 ≤ 70 := Nat.min_le_right _ _
  have HX : Hid (- 2 ^ 140 < a / 2 ^ min n 70 ∧ a / 2 ^ min n 70 < 2 ^ 140) := by
    have p : (2 : Int) ^ 140 = 1393796574908163946345982392040522594123776 := by decide
    show _ ∧ _
    have q0 : (0 : Int) < 2 ^ (min n 70) := Int.pow_pos (by decide)
    generalize (2 : Int) ^ (min n 70) = d at *
    have h1 : a / d ≤ 9223372036854775807 := by
      rcases Int.lt_or_le a 0 with h | h
      · have := Int.ediv_neg_of_neg_of_pos h q0; omega
      · have := Int.ediv_le_self d h; omega
    have h2 : -9223372036854775808 ≤ a / d := by
      rw [Int.le_ediv_iff_mul_le q0]
      have : (-9223372036854775808) * d ≤ -9223372036854775808 := by omega
      omega
    omega
  have HA : Hid (Below w.heap.size w (w.alloc (.cells #[.bool false, .slice none 0 0] 33)) ∧ IntBlock (w.alloc (.cells #[.bool false, .slice none 0 0] 33)) w.heap.size false (.slice none 0 0)) := ⟨(Below.refl _ _).alloc (Nat.le_refl _) _, int_new w⟩
  have T : Hid ((2 : Int) ^ 140 < top 100 ∧ (9223372036854775807 : Int) < 2 ^ 140) := ⟨t.2, by decide⟩
  have n0 : decide ((n : Int) < 0) = false := by simp
  clear t hmin hm
  rcases (show n < 70 ∨ n = 70 ∨ 70 < n by omega) with h | h | h
  · have e : min n 70 = n := by omega
    rw [e] at HX ⊢
    clear e
    have hlt : (n : Int) < 70 := by omega
    go_enter Try.func7, Try.ntmps7
    go_wp2_with fail
    refine (whole_any a a0 a1 _).mono ?_
    rintro e w1 ⟨x1, rfl, -, g1, f1⟩
    have HB1 : Hid (Big w1 x1 a ∧ IntBlock w1 w.heap.size false (.slice none 0 0) ∧ Below w.heap.size w w1) := ⟨g1, (f1.block _ HA.out.2.lt).trans HA.out.2, below_trans HA.out.1 f1⟩
    clear g1 f1
    go_wp2_with fail
    refine (Rsh_any w.heap.size x1 false (.slice none 0 0) a n w1 HB1.out.2.1 HB1.out.1 (by omega) (by have := T.out; omega) (by have := T.out; omega)).mono ?_
    rintro e w3 ⟨rfl, g3, f3⟩
    have HB3 : Hid (Big w3 w.heap.size (a / 2 ^ n) ∧ Below w.heap.size w w3) := ⟨g3, below_grown HB1.out.2.2 f3 (Nat.le_refl _)⟩
    clear g3 f3
    go_wp2_with fail
    refine (wrapped_any w.heap.size (a / 2 ^ n) w3 HB3.out.1 (div64 HX.out.1 HX.out.2)).mono ?_
    rintro e w4 ⟨rfl, f4⟩
    go_wp2
    go_ret2
    exact ⟨rfl, below_trans HB3.out.2 f4⟩
  · have e : min n 70 = 70 := by omega
    rw [e] at HX ⊢
    clear e
    subst h
    go_enter Try.func7, Try.ntmps7
    go_wp2_with fail
    refine (whole_any a a0 a1 _).mono ?_
    rintro e w1 ⟨x1, rfl, -, g1, f1⟩
    have HB1 : Hid (Big w1 x1 a ∧ IntBlock w1 w.heap.size false (.slice none 0 0) ∧ Below w.heap.size w w1) := ⟨g1, (f1.block _ HA.out.2.lt).trans HA.out.2, below_trans HA.out.1 f1⟩
    clear g1 f1
    go_wp2_with fail
    refine (Rsh_any w.heap.size x1 false (.slice none 0 0) a 70 w1 HB1.out.2.1 HB1.out.1 (by omega) (by have := T.out; omega) (by have := T.out; omega)).mono ?_
    rintro e w3 ⟨rfl, g3, f3⟩
    have HB3 : Hid (Big w3 w.heap.size (a / 2 ^ 70) ∧ Below w.heap.size w w3) := ⟨g3, below_grown HB1.out.2.2 f3 (Nat.le_refl _)⟩
    clear g3 f3
    go_wp2_with fail
    refine (wrapped_any w.heap.size (a / 2 ^ 70) w3 HB3.out.1 (div64 HX.out.1 HX.out.2)).mono ?_
    rintro e w4 ⟨rfl, f4⟩
    go_wp2
    go_ret2
    exact ⟨rfl, below_trans HB3.out.2 f4⟩
  · have e : min n 70 = 70 := by omega
    rw [e] at HX ⊢
    clear e
    have hlt : (70 : Int) < (n : Int) := by omega
    go_enter Try.func7, Try.ntmps7
    go_wp2_with fail
    refine (whole_any a a0 a1 _).mono ?_
    rintro e w1 ⟨x1, rfl, -, g1, f1⟩
    have HB1 : Hid (Big w1 x1 a ∧ IntBlock w1 w.heap.size false (.slice none 0 0) ∧ Below w.heap.size w w1) := ⟨g1, (f1.block _ HA.out.2.lt).trans HA.out.2, below_trans HA.out.1 f1⟩
    clear g1 f1
    go_wp2_with fail
    refine (Rsh_any w.heap.size x1 false (.slice none 0 0) a 70 w1 HB1.out.2.1 HB1.out.1 (by omega) (by have := T.out; omega) (by have := T.out; omega)).mono ?_
    rintro e w3 ⟨rfl, g3, f3⟩
    have HB3 : Hid (Big w3 w.heap.size (a / 2 ^ 70) ∧ Below w.heap.size w w3) := ⟨g3, below_grown HB1.out.2.2 f3 (Nat.le_refl _)⟩
    clear g3 f3
    go_wp2_with fail
    refine (wrapped_any w.heap.size (a / 2 ^ 70) w3 HB3.out.1 (div64 HX.out.1 HX.out.2)).mono ?_
    rintro e w4 ⟨rfl, f4⟩
    go_wp2
    go_ret2
    exact ⟨rfl, below_trans HB3.out.2 f4⟩

theorem ref_and (a b : Int) (w : World) :
    Calls Try.prog 7 #[.int .i64 8, .int .i64 a, .int .i64 b] w fun e w' => e = .returned (.tuple #[.int .i64 (bits .and .i64 a b), .int .i64 0]) ∧ Below w.heap.size w w' := by
  go_enter Try.func7, Try.ntmps7
  go_wp2_with fail
  refine (bitwise_and a b _).mono ?_
  rintro e w1 ⟨rfl, rfl⟩
  go_wp2
  go_ret2
  exact ⟨rfl, (Below.refl _ _).alloc (Nat.le_refl _) _⟩

theorem ref_or (a b : Int) (w : World) :
    Calls Try.prog 7 #[.int .i64 9, .int .i64 a, .int .i64 b] w fun e w' => e = .returned (.tuple #[.int .i64 (bits .or .i64 a b), .int .i64 0]) ∧ Below w.heap.size w w' := by
  go_enter Try.func7, Try.ntmps7
  go_wp2_with fail
  refine (bitwise_or a b _).mono ?_
  rintro e w1 ⟨rfl, rfl⟩
  go_wp2
  go_ret2
  exact ⟨rfl, (Below.refl _ _).alloc (Nat.le_refl _) _⟩

theorem ref_xor (a b : Int) (w : World) :
    Calls Try.prog 7 #[.int .i64 10, .int .i64 a, .int .i64 b] w fun e w' => e = .returned (.tuple #[.int .i64 (bits .xor .i64 a b), .int .i64 0]) ∧ Below w.heap.size w w' := by
  go_enter Try.func7, Try.ntmps7
  go_wp2_with fail
  refine (bitwise_xor a b _).mono ?_
  rintro e w1 ⟨rfl, rfl⟩
  go_wp2
  go_ret2
  exact ⟨rfl, (Below.refl _ _).alloc (Nat.le_refl _) _⟩

theorem ref_other (op a b : Int) (h : op < 1 ∨ 10 < op) (w : World) :
    Calls Try.prog 7 #[.int .i64 op, .int .i64 a, .int .i64 b] w fun e w' => e = .returned (.tuple #[.int .i64 0, .int .i64 13]) ∧ Below w.heap.size w w' := by
  have h1 : (op == 1) = false := by rw [beq_eq_false_iff_ne]; omega
  have h2 : (op == 2) = false := by rw [beq_eq_false_iff_ne]; omega
  have h3 : (op == 3) = false := by rw [beq_eq_false_iff_ne]; omega
  have h4 : (op == 4) = false := by rw [beq_eq_false_iff_ne]; omega
  have h5 : (op == 5) = false := by rw [beq_eq_false_iff_ne]; omega
  have h6 : (op == 6) = false := by rw [beq_eq_false_iff_ne]; omega
  have h7 : (op == 7) = false := by rw [beq_eq_false_iff_ne]; omega
  have h8 : (op == 8) = false := by rw [beq_eq_false_iff_ne]; omega
  have h9 : (op == 9) = false := by rw [beq_eq_false_iff_ne]; omega
  have h10 : (op == 10) = false := by rw [beq_eq_false_iff_ne]; omega
  go_enter Try.func7, Try.ntmps7
  go_wp2
  go_ret2
  exact ⟨rfl, (Below.refl _ _).alloc (Nat.le_refl _) _⟩
end Go.Proofs.Ytopefdcmmmjihaa
