/- The contract of the document's own 'wrapped'. -/
import Derived.Test.YtopefdcmmmjihaaBigmod
import Derived.Test.YtopefdcmmmjihaaBiglsh
namespace Go.Proofs.Ytopefdcmmmjihaa
open Go.ChangeShapes Go.WideShapes Go.ChangeAt Go.RowKit

theorem top99 : (79228162514264337593543950336 : Int) < top 99 := by
  have h := top_mono (m := 4) (n := 99) (by decide)
  have h4 : top 4 = 340282366920938463463374607431768211456 := by decide
  omega
theorem wrap_of (x : Int) : wrap64 x = if x % 18446744073709551616 / 9223372036854775808 % 2 = 1 then x % 18446744073709551616 - 18446744073709551616 else x % 18446744073709551616 := by
  unfold wrap64
  split <;> omega

set_option maxHeartbeats 1600000 in
theorem wrapped_any (b : Nat) (x : Int) (w : World) (hx : Big w b x) (hD : DivOK (if x < 0 then - x else x) 18446744073709551616) :
    Calls Try.prog 22 #[.pointer (some ⟨b, 0, none⟩)] w fun e w' => e = .returned (.int .i64 (wrap64 x)) ∧ Below w.heap.size w w' := by
  have t99 := top99
  have t100 : top 100 = 4294967296 * top 99 := rfl
  have HX : Hid (Big w b x) := hx
  have HD : Hid (DivOK (if x < 0 then - x else x) 18446744073709551616) := hD
  clear hx hD
  have ha : Below w.heap.size w (w.alloc (.cells #[.bool false, .slice none 0 0] 33)) := (Below.refl _ _).alloc (Nat.le_refl _) _
  have HA : Hid (Below w.heap.size w (w.alloc (.cells #[.bool false, .slice none 0 0] 33)) ∧ IntBlock (w.alloc (.cells #[.bool false, .slice none 0 0] 33)) w.heap.size false (.slice none 0 0)) := ⟨ha, int_new w⟩
  clear ha
  go_enter Try.func22, Try.ntmps22
  go_wp2_with fail
  refine (newInt_any 1 (by decide) (by decide) _).mono ?_
  rintro e w1 ⟨o, rfl, -, bo, b1⟩
  have im : IntBlock w1 w.heap.size false (.slice none 0 0) := (b1.block _ HA.out.2.lt).trans HA.out.2
  have HB1 : Hid (Big w1 o 1 ∧ IntBlock w1 w.heap.size false (.slice none 0 0) ∧ Below w.heap.size w w1) := ⟨bo, im, below_trans HA.out.1 b1⟩
  clear bo b1 im
  go_wp2_with fail
  refine (Lsh_any w.heap.size o false (.slice none 0 0) 1 64 w1 HB1.out.2.1 HB1.out.1 (by decide) (by omega) (by omega)).mono ?_
  rintro e w2 ⟨rfl, bm, g2⟩
  rw [show (1 : Int) * 2 ^ 64 = 18446744073709551616 from rfl] at bm
  have b2 : Below w.heap.size w w2 := below_grown HB1.out.2.2 g2 (Nat.le_refl _)
  have mlt : w.heap.size < w2.heap.size := by obtain ⟨_, _, h⟩ := bm.block; exact h.lt
  have ha2 : Below w2.heap.size w2 (w2.alloc (.cells #[.bool false, .slice none 0 0] 33)) := (Below.refl _ _).alloc (Nat.le_refl _) _
  have HB2 : Hid (Big (w2.alloc (.cells #[.bool false, .slice none 0 0] 33)) w.heap.size 18446744073709551616 ∧ IntBlock (w2.alloc (.cells #[.bool false, .slice none 0 0] 33)) w2.heap.size false (.slice none 0 0) ∧ Big (w2.alloc (.cells #[.bool false, .slice none 0 0] 33)) b x ∧ Below w.heap.size w (w2.alloc (.cells #[.bool false, .slice none 0 0] 33))) :=
    ⟨bm.below ha2, int_new w2, HX.out.below (below_trans b2 ha2), below_trans b2 ha2⟩
  have s2 : w.heap.size ≤ w2.heap.size := b2.size
  clear bm g2 b2 ha2
  go_wp2_with fail
  refine (Mod_any w2.heap.size b w.heap.size false (.slice none 0 0) x 18446744073709551616 _ HB2.out.2.1 HB2.out.2.2.1 HB2.out.1 (by decide) (by omega) HD.out).mono ?_
  rintro e w3 ⟨rfl, by3, g3⟩
  have bm3 : Big w3 w.heap.size 18446744073709551616 := HB2.out.1.grown HB2.out.2.1 g3 (by omega)
  have b3 : Below w.heap.size w w3 := below_grown HB2.out.2.2.2 g3 s2
  obtain ⟨ny, vy, iy⟩ := by3.block
  have HB3 : Hid (Big w3 w2.heap.size (x % 18446744073709551616) ∧ Big w3 w.heap.size 18446744073709551616 ∧ IntBlock w3 w2.heap.size ny vy ∧ Below w.heap.size w w3) := ⟨by3, bm3, iy, b3⟩
  clear by3 g3 bm3 b3 iy HB1 HB2
  have HW := wrap_of x
  have x0 : 0 ≤ x % 18446744073709551616 := by omega
  have x1 : x % 18446744073709551616 < 18446744073709551616 := by omega
  generalize x % 18446744073709551616 = r at *
  go_wp2_with fail
  refine (Bit_any w2.heap.size r 63 (by decide) w3 HB3.out.1 x0 (by omega)).mono ?_
  rintro e w3' ⟨rfl, rfl⟩
  have hr1 : r / 2 ^ 63 % 2 = r / 9223372036854775808 % 2 := rfl
  rw [hr1]
  by_cases hbit : r / 9223372036854775808 % 2 = 1
  · rw [if_pos hbit] at HW
    rw [hbit]
    have HW2 : Hid (wrap64 x = r - 18446744073709551616) := HW
    clear HW hr1
    go_wp2_with fail
    refine (Sub_any w2.heap.size w2.heap.size w.heap.size ny vy r 18446744073709551616 w3' HB3.out.2.2.1 HB3.out.1 HB3.out.2.1 (by omega) (by omega) (by omega) (by omega)).mono ?_
    rintro e w4 ⟨rfl, b4, g4⟩
    have HB4 : Hid (Big w4 w2.heap.size (r - 18446744073709551616) ∧ Below w.heap.size w w4) := ⟨b4, below_grown HB3.out.2.2.2 g4 s2⟩
    clear b4 g4
    go_wp2_with fail
    refine (int64_any w2.heap.size _ w4 HB4.out.1 (by omega) (by omega)).mono ?_
    rintro e w5 ⟨rfl, rfl⟩
    go_wp2
    go_ret
    exact ⟨by rw [HW2.out]; rfl, HB4.out.2⟩
  · have h0 : r / 9223372036854775808 % 2 = 0 := by omega
    rw [if_neg hbit] at HW
    rw [h0]
    have HW2 : Hid (wrap64 x = r) := HW
    clear HW hr1
    go_wp2_with fail
    refine (int64_any w2.heap.size _ w3' HB3.out.1 (by omega) (by omega)).mono ?_
    rintro e w5 ⟨rfl, rfl⟩
    go_wp2
    go_ret
    exact ⟨by rw [HW2.out]; rfl, HB3.out.2.2.2⟩
end Go.Proofs.Ytopefdcmmmjihaa
