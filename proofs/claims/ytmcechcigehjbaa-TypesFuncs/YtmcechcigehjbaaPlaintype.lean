/- What types.reader's plainType does. -/
import Derived.Test.YtmcechcigehjbaaRdr
namespace Go.Proofs.Ytmcechcigehjbaa
open Go.ChangeShapes Go.WideShapes Go.ChangeAt Go.RowKit
set_option maxRecDepth 100000
set_option linter.unusedSimpArgs false

theorem take_no {b p : Nat} {t x : ByteArray} (hx : past t p x = false) (hp : p ≤ t.size) (ht : t.size ≤ 100) (w : World) (h : Rdr b t p w) :
    Calls Try.prog 39 #[.pointer (some ⟨b, 0, none⟩), .string x] w fun e w' => e = .returned (.bool false) ∧ Rdr b t p w' ∧ w.grownBy w' (some b) := by
  have := own_take b p t x w h hp ht
  rw [hx] at this
  exact this
theorem take_yes {b p : Nat} {t x : ByteArray} (hx : past t p x = true) (hp : p ≤ t.size) (ht : t.size ≤ 100) (w : World) (h : Rdr b t p w) :
    Calls Try.prog 39 #[.pointer (some ⟨b, 0, none⟩), .string x] w fun e w' => e = .returned (.bool true) ∧ Rdr b t (p + x.size) w' ∧ w.grownBy w' (some b) := by
  have := own_take b p t x w h hp ht
  rw [hx] at this
  exact this

theorem wordLen_of (t : ByteArray) (p : Nat) : wordLen (t.data.toList.drop p) = if past t p ⟨#[105, 110, 116]⟩ then 3 else if past t p ⟨#[98, 111, 111, 108]⟩ then 4 else if past t p ⟨#[115, 116, 114, 105, 110, 103]⟩ then 6 else if past t p ⟨#[97, 110, 121]⟩ then 3 else if past t p ⟨#[91, 93, 105, 110, 116]⟩ then 5 else if past t p ⟨#[42, 105, 110, 116]⟩ then 4 else 0 := rfl

set_option maxHeartbeats 2000000 in
theorem own_plain (b p : Nat) (t : ByteArray) (w : World) (h : Rdr b t p w) (hp : p ≤ t.size) (ht : t.size ≤ 100) :
    Calls Try.prog 38 #[.pointer (some ⟨b, 0, none⟩)] w fun e w' => e = .returned (.bool (decide (wordLen (t.data.toList.drop p) ≠ 0))) ∧ Rdr b t (p + wordLen (t.data.toList.drop p)) w' ∧ w.grownBy w' (some b) := by
  rw [wordLen_of]
  have HR : Hid (Rdr b t p w) := h
  clear h
  by_cases g0 : past t p ⟨#[105, 110, 116]⟩ = true
  · rw [if_pos g0]
    have H0 : Hid (past t p ⟨#[105, 110, 116]⟩ = true) := g0
    clear g0
    go_enter Try.func38, Try.ntmps38
    go_wp2_with fail
    refine (take_yes H0.out hp ht _ HR.out).mono ?_
    rintro e w1 ⟨rfl, r1, q1⟩
    have HR1 : Hid (Rdr b t (p + 3) w1) := r1
    have HQ1 : Hid (w.grownBy w1 (some b)) := q1
    clear r1 q1
    go_wp2_with fail
    go_ret
    exact ⟨rfl, HR1.out, HQ1.out⟩
  rw [if_neg g0]
  have H0 : Hid (past t p ⟨#[105, 110, 116]⟩ = false) := by rw [Bool.not_eq_true] at g0; exact g0
  clear g0
  by_cases g1 : past t p ⟨#[98, 111, 111, 108]⟩ = true
  · rw [if_pos g1]
    have H1 : Hid (past t p ⟨#[98, 111, 111, 108]⟩ = true) := g1
    clear g1
    go_enter Try.func38, Try.ntmps38
    go_wp2_with fail
    refine (take_no H0.out hp ht _ HR.out).mono ?_
    rintro e w1 ⟨rfl, r1, q1⟩
    have HR1 : Hid (Rdr b t p w1) := r1
    have HQ1 : Hid (w.grownBy w1 (some b)) := q1
    clear r1 q1
    go_wp2_with fail
    refine (take_yes H1.out hp ht _ HR1.out).mono ?_
    rintro e w2 ⟨rfl, r2, q2⟩
    have HR2 : Hid (Rdr b t (p + 4) w2) := r2
    have HQ2 : Hid (w.grownBy w2 (some b)) := gb_trans HQ1.out q2
    clear r2 q2
    go_wp2_with fail
    go_ret
    exact ⟨rfl, HR2.out, HQ2.out⟩
  rw [if_neg g1]
  have H1 : Hid (past t p ⟨#[98, 111, 111, 108]⟩ = false) := by rw [Bool.not_eq_true] at g1; exact g1
  clear g1
  by_cases g2 : past t p ⟨#[115, 116, 114, 105, 110, 103]⟩ = true
  · rw [if_pos g2]
    have H2 : Hid (past t p ⟨#[115, 116, 114, 105, 110, 103]⟩ = true) := g2
    clear g2
    go_enter Try.func38, Try.ntmps38
    go_wp2_with fail
    refine (take_no H0.out hp ht _ HR.out).mono ?_
    rintro e w1 ⟨rfl, r1, q1⟩
    have HR1 : Hid (Rdr b t p w1) := r1
    have HQ1 : Hid (w.grownBy w1 (some b)) := q1
    clear r1 q1
    go_wp2_with fail
    refine (take_no H1.out hp ht _ HR1.out).mono ?_
    rintro e w2 ⟨rfl, r2, q2⟩
    have HR2 : Hid (Rdr b t p w2) := r2
    have HQ2 : Hid (w.grownBy w2 (some b)) := gb_trans HQ1.out q2
    clear r2 q2
    go_wp2_with fail
    refine (take_yes H2.out hp ht _ HR2.out).mono ?_
    rintro e w3 ⟨rfl, r3, q3⟩
    have HR3 : Hid (Rdr b t (p + 6) w3) := r3
    have HQ3 : Hid (w.grownBy w3 (some b)) := gb_trans HQ2.out q3
    clear r3 q3
    go_wp2_with fail
    go_ret
    exact ⟨rfl, HR3.out, HQ3.out⟩
  rw [if_neg g2]
  have H2 : Hid (past t p ⟨#[115, 116, 114, 105, 110, 103]⟩ = false) := by rw [Bool.not_eq_true] at g2; exact g2
  clear g2
  by_cases g3 : past t p ⟨#[97, 110, 121]⟩ = true
  · rw [if_pos g3]
    have H3 : Hid (past t p ⟨#[97, 110, 121]⟩ = true) := g3
    clear g3
    go_enter Try.func38, Try.ntmps38
    go_wp2_with fail
    refine (take_no H0.out hp ht _ HR.out).mono ?_
    rintro e w1 ⟨rfl, r1, q1⟩
    have HR1 : Hid (Rdr b t p w1) := r1
    have HQ1 : Hid (w.grownBy w1 (some b)) := q1
    clear r1 q1
    go_wp2_with fail
    refine (take_no H1.out hp ht _ HR1.out).mono ?_
    rintro e w2 ⟨rfl, r2, q2⟩
    have HR2 : Hid (Rdr b t p w2) := r2
    have HQ2 : Hid (w.grownBy w2 (some b)) := gb_trans HQ1.out q2
    clear r2 q2
    go_wp2_with fail
    refine (take_no H2.out hp ht _ HR2.out).mono ?_
    rintro e w3 ⟨rfl, r3, q3⟩
    have HR3 : Hid (Rdr b t p w3) := r3
    have HQ3 : Hid (w.grownBy w3 (some b)) := gb_trans HQ2.out q3
    clear r3 q3
    go_wp2_with fail
    refine (take_yes H3.out hp ht _ HR3.out).mono ?_
    rintro e w4 ⟨rfl, r4, q4⟩
    have HR4 : Hid (Rdr b t (p + 3) w4) := r4
    have HQ4 : Hid (w.grownBy w4 (some b)) := gb_trans HQ3.out q4
    clear r4 q4
    go_wp2_with fail
    go_ret
    exact ⟨rfl, HR4.out, HQ4.out⟩
  rw [if_neg g3]
  have H3 : Hid (past t p ⟨#[97, 110, 121]⟩ = false) := by rw [Bool.not_eq_true] at g3; exact g3
  clear g3
  by_cases g4 : past t p ⟨#[91, 93, 105, 110, 116]⟩ = true
  · rw [if_pos g4]
    have H4 : Hid (past t p ⟨#[91, 93, 105, 110, 116]⟩ = true) := g4
    clear g4
    go_enter Try.func38, Try.ntmps38
    go_wp2_with fail
    refine (take_no H0.out hp ht _ HR.out).mono ?_
    rintro e w1 ⟨rfl, r1, q1⟩
    have HR1 : Hid (Rdr b t p w1) := r1
    have HQ1 : Hid (w.grownBy w1 (some b)) := q1
    clear r1 q1
    go_wp2_with fail
    refine (take_no H1.out hp ht _ HR1.out).mono ?_
    rintro e w2 ⟨rfl, r2, q2⟩
    have HR2 : Hid (Rdr b t p w2) := r2
    have HQ2 : Hid (w.grownBy w2 (some b)) := gb_trans HQ1.out q2
    clear r2 q2
    go_wp2_with fail
    refine (take_no H2.out hp ht _ HR2.out).mono ?_
    rintro e w3 ⟨rfl, r3, q3⟩
    have HR3 : Hid (Rdr b t p w3) := r3
    have HQ3 : Hid (w.grownBy w3 (some b)) := gb_trans HQ2.out q3
    clear r3 q3
    go_wp2_with fail
    refine (take_no H3.out hp ht _ HR3.out).mono ?_
    rintro e w4 ⟨rfl, r4, q4⟩
    have HR4 : Hid (Rdr b t p w4) := r4
    have HQ4 : Hid (w.grownBy w4 (some b)) := gb_trans HQ3.out q4
    clear r4 q4
    go_wp2_with fail
    refine (take_yes H4.out hp ht _ HR4.out).mono ?_
    rintro e w5 ⟨rfl, r5, q5⟩
    have HR5 : Hid (Rdr b t (p + 5) w5) := r5
    have HQ5 : Hid (w.grownBy w5 (some b)) := gb_trans HQ4.out q5
    clear r5 q5
    go_wp2_with fail
    go_ret
    exact ⟨rfl, HR5.out, HQ5.out⟩
  rw [if_neg g4]
  have H4 : Hid (past t p ⟨#[91, 93, 105, 110, 116]⟩ = false) := by rw [Bool.not_eq_true] at g4; exact g4
  clear g4
  by_cases g5 : past t p ⟨#[42, 105, 110, 116]⟩ = true
  · rw [if_pos g5]
    have H5 : Hid (past t p ⟨#[42, 105, 110, 116]⟩ = true) := g5
    clear g5
    go_enter Try.func38, Try.ntmps38
    go_wp2_with fail
    refine (take_no H0.out hp ht _ HR.out).mono ?_
    rintro e w1 ⟨rfl, r1, q1⟩
    have HR1 : Hid (Rdr b t p w1) := r1
    have HQ1 : Hid (w.grownBy w1 (some b)) := q1
    clear r1 q1
    go_wp2_with fail
    refine (take_no H1.out hp ht _ HR1.out).mono ?_
    rintro e w2 ⟨rfl, r2, q2⟩
    have HR2 : Hid (Rdr b t p w2) := r2
    have HQ2 : Hid (w.grownBy w2 (some b)) := gb_trans HQ1.out q2
    clear r2 q2
    go_wp2_with fail
    refine (take_no H2.out hp ht _ HR2.out).mono ?_
    rintro e w3 ⟨rfl, r3, q3⟩
    have HR3 : Hid (Rdr b t p w3) := r3
    have HQ3 : Hid (w.grownBy w3 (some b)) := gb_trans HQ2.out q3
    clear r3 q3
    go_wp2_with fail
    refine (take_no H3.out hp ht _ HR3.out).mono ?_
    rintro e w4 ⟨rfl, r4, q4⟩
    have HR4 : Hid (Rdr b t p w4) := r4
    have HQ4 : Hid (w.grownBy w4 (some b)) := gb_trans HQ3.out q4
    clear r4 q4
    go_wp2_with fail
    refine (take_no H4.out hp ht _ HR4.out).mono ?_
    rintro e w5 ⟨rfl, r5, q5⟩
    have HR5 : Hid (Rdr b t p w5) := r5
    have HQ5 : Hid (w.grownBy w5 (some b)) := gb_trans HQ4.out q5
    clear r5 q5
    go_wp2_with fail
    refine (take_yes H5.out hp ht _ HR5.out).mono ?_
    rintro e w6 ⟨rfl, r6, q6⟩
    have HR6 : Hid (Rdr b t (p + 4) w6) := r6
    have HQ6 : Hid (w.grownBy w6 (some b)) := gb_trans HQ5.out q6
    clear r6 q6
    go_wp2_with fail
    go_ret
    exact ⟨rfl, HR6.out, HQ6.out⟩
  rw [if_neg g5]
  have H5 : Hid (past t p ⟨#[42, 105, 110, 116]⟩ = false) := by rw [Bool.not_eq_true] at g5; exact g5
  clear g5
  go_enter Try.func38, Try.ntmps38
  go_wp2_with fail
  refine (take_no H0.out hp ht _ HR.out).mono ?_
  rintro e w1 ⟨rfl, r1, q1⟩
  have HR1 : Hid (Rdr b t p w1) := r1
  have HQ1 : Hid (w.grownBy w1 (some b)) := q1
  clear r1 q1
  go_wp2_with fail
  refine (take_no H1.out hp ht _ HR1.out).mono ?_
  rintro e w2 ⟨rfl, r2, q2⟩
  have HR2 : Hid (Rdr b t p w2) := r2
  have HQ2 : Hid (w.grownBy w2 (some b)) := gb_trans HQ1.out q2
  clear r2 q2
  go_wp2_with fail
  refine (take_no H2.out hp ht _ HR2.out).mono ?_
  rintro e w3 ⟨rfl, r3, q3⟩
  have HR3 : Hid (Rdr b t p w3) := r3
  have HQ3 : Hid (w.grownBy w3 (some b)) := gb_trans HQ2.out q3
  clear r3 q3
  go_wp2_with fail
  refine (take_no H3.out hp ht _ HR3.out).mono ?_
  rintro e w4 ⟨rfl, r4, q4⟩
  have HR4 : Hid (Rdr b t p w4) := r4
  have HQ4 : Hid (w.grownBy w4 (some b)) := gb_trans HQ3.out q4
  clear r4 q4
  go_wp2_with fail
  refine (take_no H4.out hp ht _ HR4.out).mono ?_
  rintro e w5 ⟨rfl, r5, q5⟩
  have HR5 : Hid (Rdr b t p w5) := r5
  have HQ5 : Hid (w.grownBy w5 (some b)) := gb_trans HQ4.out q5
  clear r5 q5
  go_wp2_with fail
  refine (take_no H5.out hp ht _ HR5.out).mono ?_
  rintro e w6 ⟨rfl, r6, q6⟩
  have HR6 : Hid (Rdr b t p w6) := r6
  have HQ6 : Hid (w.grownBy w6 (some b)) := gb_trans HQ5.out q6
  clear r6 q6
  go_wp2_with fail
  go_ret
  exact ⟨rfl, HR6.out, HQ6.out⟩
end Go.Proofs.Ytmcechcigehjbaa
