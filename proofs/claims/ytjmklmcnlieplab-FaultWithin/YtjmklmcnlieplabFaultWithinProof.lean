/-
  For all numbers that come in, just those from 0 on below n are indices, just what begins ahead of its end and ends within is a piece, and just what is above the greatest length is too long: the law's function returns true.
-/
import Derived.Test.YtjmklmcnlieplabFlt2
namespace Go.Proofs.Ytjmklmcnlieplab.faultWithin
open Go.ChangeShapes Go.WideShapes Go.ChangeAt Go.RowKit
open Go.WideMaps Go.WideElems
open Go.ChangeMaps (open_string shut_string)
set_option maxHeartbeats 8000000
set_option linter.unusedVariables false

theorem own : ownKnob Try.prog.godebug = none := by kernel_rfl

theorem walk (a0 : Int) (a1 : Int) (a2 : Int) (w0 : (Lit.int .i64 a0).wf = true) (w1 : (Lit.int .i64 a1).wf = true) (w2 : (Lit.int .i64 a2).wf = true)  (w : World)  :
    Calls Try.prog 6 #[.int .i64 a0, .int .i64 a1, .int .i64 a2] w fun e w' => e = .returned (.bool true) ∧ Below w.heap.size w w' := by
  obtain ⟨l0, m0⟩ : -9223372036854775808 ≤ a0 ∧ a0 ≤ 9223372036854775807 := by
    simp [Lit.wf, IntKind.min, IntKind.max, IntKind.bits, IntKind.signed] at w0; omega
  clear w0
  obtain ⟨l1, m1⟩ : -9223372036854775808 ≤ a1 ∧ a1 ≤ 9223372036854775807 := by
    simp [Lit.wf, IntKind.min, IntKind.max, IntKind.bits, IntKind.signed] at w1; omega
  clear w1
  obtain ⟨l2, m2⟩ : -9223372036854775808 ≤ a2 ∧ a2 ≤ 9223372036854775807 := by
    simp [Lit.wf, IntKind.min, IntKind.max, IntKind.bits, IntKind.signed] at w2; omega
  clear w2
  by_cases h0 : 0 ≤ a0
  · by_cases h1 : a0 < a2
    · by_cases h2 : a0 ≤ a1
      · by_cases h3 : a1 ≤ a2
        · by_cases h4 : a0 ≤ a2
          · have E0 : boundsF a0 a1 a2 = f0 := by unfold boundsF; first | rw [if_pos (by omega)] | rw [if_neg (by omega)]
            have E1 : indexF a0 a2 = f0 := by unfold indexF; first | rw [if_pos (by omega)] | rw [if_neg (by omega)]
            have E2 : longF a0 a2 = f0 := by unfold longF; first | rw [if_pos (by omega)] | rw [if_neg (by omega)]
            have HC : Hid ((∀ w, Calls Try.prog 14 #[.int .i64 a0, .int .i64 a1, .int .i64 a2] w fun e w' => e = .returned (fv f0) ∧ Below w.heap.size w w') ∧ (∀ w, Calls Try.prog 15 #[.int .i64 a0, .int .i64 a2] w fun e w' => e = .returned (fv f0) ∧ Below w.heap.size w w') ∧ (∀ w, Calls Try.prog 16 #[.int .i64 a0, .int .i64 a2] w fun e w' => e = .returned (fv f0) ∧ Below w.heap.size w w')) := ⟨fun w => E0 ▸ own_bounds a0 a1 a2 w, fun w => E1 ▸ own_index a0 a2 w, fun w => E2 ▸ own_long a0 a2 w⟩
            clear E0 E1 E2
            go_enter Try.func6, Try.ntmps6
            go_wp2_with fail
            refine (told_true _).mono ?_
            rintro e u1 ⟨rfl, b1⟩
            go_wp2_with fail
            refine (HC.out.2.1 _).mono ?_
            rintro e u2 ⟨rfl, b2⟩
            go_wp2_with fail
            refine (none_yes _).mono ?_
            rintro e u3 ⟨rfl, b3⟩
            go_wp2_with fail
            refine (HC.out.1 _).mono ?_
            rintro e u4 ⟨rfl, b4⟩
            go_wp2_with fail
            refine (none_yes _).mono ?_
            rintro e u5 ⟨rfl, b5⟩
            go_wp2_with fail
            refine (HC.out.2.2 _).mono ?_
            rintro e u6 ⟨rfl, b6⟩
            go_wp2_with fail
            refine (none_yes _).mono ?_
            rintro e u7 ⟨rfl, b7⟩
            go_wp2_with fail
            all_goals go_ret
            exact ⟨rfl, ((((((b1).trans (b2.mono (b1).size)).trans (b3.mono ((b1).trans (b2.mono (b1).size)).size)).trans (b4.mono (((b1).trans (b2.mono (b1).size)).trans (b3.mono ((b1).trans (b2.mono (b1).size)).size)).size)).trans (b5.mono ((((b1).trans (b2.mono (b1).size)).trans (b3.mono ((b1).trans (b2.mono (b1).size)).size)).trans (b4.mono (((b1).trans (b2.mono (b1).size)).trans (b3.mono ((b1).trans (b2.mono (b1).size)).size)).size)).size)).trans (b6.mono (((((b1).trans (b2.mono (b1).size)).trans (b3.mono ((b1).trans (b2.mono (b1).size)).size)).trans (b4.mono (((b1).trans (b2.mono (b1).size)).trans (b3.mono ((b1).trans (b2.mono (b1).size)).size)).size)).trans (b5.mono ((((b1).trans (b2.mono (b1).size)).trans (b3.mono ((b1).trans (b2.mono (b1).size)).size)).trans (b4.mono (((b1).trans (b2.mono (b1).size)).trans (b3.mono ((b1).trans (b2.mono (b1).size)).size)).size)).size)).size)).trans (b7.mono ((((((b1).trans (b2.mono (b1).size)).trans (b3.mono ((b1).trans (b2.mono (b1).size)).size)).trans (b4.mono (((b1).trans (b2.mono (b1).size)).trans (b3.mono ((b1).trans (b2.mono (b1).size)).size)).size)).trans (b5.mono ((((b1).trans (b2.mono (b1).size)).trans (b3.mono ((b1).trans (b2.mono (b1).size)).size)).trans (b4.mono (((b1).trans (b2.mono (b1).size)).trans (b3.mono ((b1).trans (b2.mono (b1).size)).size)).size)).size)).trans (b6.mono (((((b1).trans (b2.mono (b1).size)).trans (b3.mono ((b1).trans (b2.mono (b1).size)).size)).trans (b4.mono (((b1).trans (b2.mono (b1).size)).trans (b3.mono ((b1).trans (b2.mono (b1).size)).size)).size)).trans (b5.mono ((((b1).trans (b2.mono (b1).size)).trans (b3.mono ((b1).trans (b2.mono (b1).size)).size)).trans (b4.mono (((b1).trans (b2.mono (b1).size)).trans (b3.mono ((b1).trans (b2.mono (b1).size)).size)).size)).size)).size)).size)⟩
          · have k4 : decide (a0 ≤ a2) = false := decide_eq_false h4
            exfalso; omega
        · have k3 : decide (a1 ≤ a2) = false := decide_eq_false h3
          by_cases h4 : a0 ≤ a2
          · have E0 : boundsF a0 a1 a2 = ⟨5, a0, a1, a2⟩ := by unfold boundsF; first | rw [if_pos (by omega)] | rw [if_neg (by omega)]
            have E1 : indexF a0 a2 = f0 := by unfold indexF; first | rw [if_pos (by omega)] | rw [if_neg (by omega)]
            have E2 : longF a0 a2 = f0 := by unfold longF; first | rw [if_pos (by omega)] | rw [if_neg (by omega)]
            have HC : Hid ((∀ w, Calls Try.prog 14 #[.int .i64 a0, .int .i64 a1, .int .i64 a2] w fun e w' => e = .returned (fv ⟨5, a0, a1, a2⟩) ∧ Below w.heap.size w w') ∧ (∀ w, Calls Try.prog 15 #[.int .i64 a0, .int .i64 a2] w fun e w' => e = .returned (fv f0) ∧ Below w.heap.size w w') ∧ (∀ w, Calls Try.prog 16 #[.int .i64 a0, .int .i64 a2] w fun e w' => e = .returned (fv f0) ∧ Below w.heap.size w w')) := ⟨fun w => E0 ▸ own_bounds a0 a1 a2 w, fun w => E1 ▸ own_index a0 a2 w, fun w => E2 ▸ own_long a0 a2 w⟩
            clear E0 E1 E2
            go_enter Try.func6, Try.ntmps6
            go_wp2_with fail
            refine (told_true _).mono ?_
            rintro e u1 ⟨rfl, b1⟩
            go_wp2_with fail
            refine (HC.out.2.1 _).mono ?_
            rintro e u2 ⟨rfl, b2⟩
            go_wp2_with fail
            refine (none_yes _).mono ?_
            rintro e u3 ⟨rfl, b3⟩
            go_wp2_with fail
            refine (HC.out.1 _).mono ?_
            rintro e u4 ⟨rfl, b4⟩
            go_wp2_with fail
            refine (none_no ⟨5, a0, a1, a2⟩ (by simp) _).mono ?_
            rintro e u5 ⟨rfl, b5⟩
            go_wp2_with fail
            refine (HC.out.2.2 _).mono ?_
            rintro e u6 ⟨rfl, b6⟩
            go_wp2_with fail
            refine (none_yes _).mono ?_
            rintro e u7 ⟨rfl, b7⟩
            go_wp2_with fail
            all_goals go_ret
            exact ⟨rfl, ((((((b1).trans (b2.mono (b1).size)).trans (b3.mono ((b1).trans (b2.mono (b1).size)).size)).trans (b4.mono (((b1).trans (b2.mono (b1).size)).trans (b3.mono ((b1).trans (b2.mono (b1).size)).size)).size)).trans (b5.mono ((((b1).trans (b2.mono (b1).size)).trans (b3.mono ((b1).trans (b2.mono (b1).size)).size)).trans (b4.mono (((b1).trans (b2.mono (b1).size)).trans (b3.mono ((b1).trans (b2.mono (b1).size)).size)).size)).size)).trans (b6.mono (((((b1).trans (b2.mono (b1).size)).trans (b3.mono ((b1).trans (b2.mono (b1).size)).size)).trans (b4.mono (((b1).trans (b2.mono (b1).size)).trans (b3.mono ((b1).trans (b2.mono (b1).size)).size)).size)).trans (b5.mono ((((b1).trans (b2.mono (b1).size)).trans (b3.mono ((b1).trans (b2.mono (b1).size)).size)).trans (b4.mono (((b1).trans (b2.mono (b1).size)).trans (b3.mono ((b1).trans (b2.mono (b1).size)).size)).size)).size)).size)).trans (b7.mono ((((((b1).trans (b2.mono (b1).size)).trans (b3.mono ((b1).trans (b2.mono (b1).size)).size)).trans (b4.mono (((b1).trans (b2.mono (b1).size)).trans (b3.mono ((b1).trans (b2.mono (b1).size)).size)).size)).trans (b5.mono ((((b1).trans (b2.mono (b1).size)).trans (b3.mono ((b1).trans (b2.mono (b1).size)).size)).trans (b4.mono (((b1).trans (b2.mono (b1).size)).trans (b3.mono ((b1).trans (b2.mono (b1).size)).size)).size)).size)).trans (b6.mono (((((b1).trans (b2.mono (b1).size)).trans (b3.mono ((b1).trans (b2.mono (b1).size)).size)).trans (b4.mono (((b1).trans (b2.mono (b1).size)).trans (b3.mono ((b1).trans (b2.mono (b1).size)).size)).size)).trans (b5.mono ((((b1).trans (b2.mono (b1).size)).trans (b3.mono ((b1).trans (b2.mono (b1).size)).size)).trans (b4.mono (((b1).trans (b2.mono (b1).size)).trans (b3.mono ((b1).trans (b2.mono (b1).size)).size)).size)).size)).size)).size)⟩
          · have k4 : decide (a0 ≤ a2) = false := decide_eq_false h4
            exfalso; omega
      · have k2 : decide (a0 ≤ a1) = false := decide_eq_false h2
        by_cases h4 : a0 ≤ a2
        · have E0 : boundsF a0 a1 a2 = ⟨5, a0, a1, a2⟩ := by unfold boundsF; first | rw [if_pos (by omega)] | rw [if_neg (by omega)]
          have E1 : indexF a0 a2 = f0 := by unfold indexF; first | rw [if_pos (by omega)] | rw [if_neg (by omega)]
          have E2 : longF a0 a2 = f0 := by unfold longF; first | rw [if_pos (by omega)] | rw [if_neg (by omega)]
          have HC : Hid ((∀ w, Calls Try.prog 14 #[.int .i64 a0, .int .i64 a1, .int .i64 a2] w fun e w' => e = .returned (fv ⟨5, a0, a1, a2⟩) ∧ Below w.heap.size w w') ∧ (∀ w, Calls Try.prog 15 #[.int .i64 a0, .int .i64 a2] w fun e w' => e = .returned (fv f0) ∧ Below w.heap.size w w') ∧ (∀ w, Calls Try.prog 16 #[.int .i64 a0, .int .i64 a2] w fun e w' => e = .returned (fv f0) ∧ Below w.heap.size w w')) := ⟨fun w => E0 ▸ own_bounds a0 a1 a2 w, fun w => E1 ▸ own_index a0 a2 w, fun w => E2 ▸ own_long a0 a2 w⟩
          clear E0 E1 E2
          go_enter Try.func6, Try.ntmps6
          go_wp2_with fail
          refine (told_true _).mono ?_
          rintro e u1 ⟨rfl, b1⟩
          go_wp2_with fail
          refine (HC.out.2.1 _).mono ?_
          rintro e u2 ⟨rfl, b2⟩
          go_wp2_with fail
          refine (none_yes _).mono ?_
          rintro e u3 ⟨rfl, b3⟩
          go_wp2_with fail
          refine (HC.out.1 _).mono ?_
          rintro e u4 ⟨rfl, b4⟩
          go_wp2_with fail
          refine (none_no ⟨5, a0, a1, a2⟩ (by simp) _).mono ?_
          rintro e u5 ⟨rfl, b5⟩
          go_wp2_with fail
          refine (HC.out.2.2 _).mono ?_
          rintro e u6 ⟨rfl, b6⟩
          go_wp2_with fail
          refine (none_yes _).mono ?_
          rintro e u7 ⟨rfl, b7⟩
          go_wp2_with fail
          all_goals go_ret
          exact ⟨rfl, ((((((b1).trans (b2.mono (b1).size)).trans (b3.mono ((b1).trans (b2.mono (b1).size)).size)).trans (b4.mono (((b1).trans (b2.mono (b1).size)).trans (b3.mono ((b1).trans (b2.mono (b1).size)).size)).size)).trans (b5.mono ((((b1).trans (b2.mono (b1).size)).trans (b3.mono ((b1).trans (b2.mono (b1).size)).size)).trans (b4.mono (((b1).trans (b2.mono (b1).size)).trans (b3.mono ((b1).trans (b2.mono (b1).size)).size)).size)).size)).trans (b6.mono (((((b1).trans (b2.mono (b1).size)).trans (b3.mono ((b1).trans (b2.mono (b1).size)).size)).trans (b4.mono (((b1).trans (b2.mono (b1).size)).trans (b3.mono ((b1).trans (b2.mono (b1).size)).size)).size)).trans (b5.mono ((((b1).trans (b2.mono (b1).size)).trans (b3.mono ((b1).trans (b2.mono (b1).size)).size)).trans (b4.mono (((b1).trans (b2.mono (b1).size)).trans (b3.mono ((b1).trans (b2.mono (b1).size)).size)).size)).size)).size)).trans (b7.mono ((((((b1).trans (b2.mono (b1).size)).trans (b3.mono ((b1).trans (b2.mono (b1).size)).size)).trans (b4.mono (((b1).trans (b2.mono (b1).size)).trans (b3.mono ((b1).trans (b2.mono (b1).size)).size)).size)).trans (b5.mono ((((b1).trans (b2.mono (b1).size)).trans (b3.mono ((b1).trans (b2.mono (b1).size)).size)).trans (b4.mono (((b1).trans (b2.mono (b1).size)).trans (b3.mono ((b1).trans (b2.mono (b1).size)).size)).size)).size)).trans (b6.mono (((((b1).trans (b2.mono (b1).size)).trans (b3.mono ((b1).trans (b2.mono (b1).size)).size)).trans (b4.mono (((b1).trans (b2.mono (b1).size)).trans (b3.mono ((b1).trans (b2.mono (b1).size)).size)).size)).trans (b5.mono ((((b1).trans (b2.mono (b1).size)).trans (b3.mono ((b1).trans (b2.mono (b1).size)).size)).trans (b4.mono (((b1).trans (b2.mono (b1).size)).trans (b3.mono ((b1).trans (b2.mono (b1).size)).size)).size)).size)).size)).size)⟩
        · have k4 : decide (a0 ≤ a2) = false := decide_eq_false h4
          exfalso; omega
    · have k1 : decide (a0 < a2) = false := decide_eq_false h1
      by_cases h2 : a0 ≤ a1
      · by_cases h3 : a1 ≤ a2
        · by_cases h4 : a0 ≤ a2
          · have E0 : boundsF a0 a1 a2 = f0 := by unfold boundsF; first | rw [if_pos (by omega)] | rw [if_neg (by omega)]
            have E1 : indexF a0 a2 = ⟨1, a0, a2, 0⟩ := by unfold indexF; first | rw [if_pos (by omega)] | rw [if_neg (by omega)]
            have E2 : longF a0 a2 = f0 := by unfold longF; first | rw [if_pos (by omega)] | rw [if_neg (by omega)]
            have HC : Hid ((∀ w, Calls Try.prog 14 #[.int .i64 a0, .int .i64 a1, .int .i64 a2] w fun e w' => e = .returned (fv f0) ∧ Below w.heap.size w w') ∧ (∀ w, Calls Try.prog 15 #[.int .i64 a0, .int .i64 a2] w fun e w' => e = .returned (fv ⟨1, a0, a2, 0⟩) ∧ Below w.heap.size w w') ∧ (∀ w, Calls Try.prog 16 #[.int .i64 a0, .int .i64 a2] w fun e w' => e = .returned (fv f0) ∧ Below w.heap.size w w')) := ⟨fun w => E0 ▸ own_bounds a0 a1 a2 w, fun w => E1 ▸ own_index a0 a2 w, fun w => E2 ▸ own_long a0 a2 w⟩
            clear E0 E1 E2
            go_enter Try.func6, Try.ntmps6
            go_wp2_with fail
            refine (told_true _).mono ?_
            rintro e u1 ⟨rfl, b1⟩
            go_wp2_with fail
            refine (HC.out.2.1 _).mono ?_
            rintro e u2 ⟨rfl, b2⟩
            go_wp2_with fail
            refine (none_no ⟨1, a0, a2, 0⟩ (by simp) _).mono ?_
            rintro e u3 ⟨rfl, b3⟩
            go_wp2_with fail
            refine (HC.out.1 _).mono ?_
            rintro e u4 ⟨rfl, b4⟩
            go_wp2_with fail
            refine (none_yes _).mono ?_
            rintro e u5 ⟨rfl, b5⟩
            go_wp2_with fail
            refine (HC.out.2.2 _).mono ?_
            rintro e u6 ⟨rfl, b6⟩
            go_wp2_with fail
            refine (none_yes _).mono ?_
            rintro e u7 ⟨rfl, b7⟩
            go_wp2_with fail
            all_goals go_ret
            exact ⟨rfl, ((((((b1).trans (b2.mono (b1).size)).trans (b3.mono ((b1).trans (b2.mono (b1).size)).size)).trans (b4.mono (((b1).trans (b2.mono (b1).size)).trans (b3.mono ((b1).trans (b2.mono (b1).size)).size)).size)).trans (b5.mono ((((b1).trans (b2.mono (b1).size)).trans (b3.mono ((b1).trans (b2.mono (b1).size)).size)).trans (b4.mono (((b1).trans (b2.mono (b1).size)).trans (b3.mono ((b1).trans (b2.mono (b1).size)).size)).size)).size)).trans (b6.mono (((((b1).trans (b2.mono (b1).size)).trans (b3.mono ((b1).trans (b2.mono (b1).size)).size)).trans (b4.mono (((b1).trans (b2.mono (b1).size)).trans (b3.mono ((b1).trans (b2.mono (b1).size)).size)).size)).trans (b5.mono ((((b1).trans (b2.mono (b1).size)).trans (b3.mono ((b1).trans (b2.mono (b1).size)).size)).trans (b4.mono (((b1).trans (b2.mono (b1).size)).trans (b3.mono ((b1).trans (b2.mono (b1).size)).size)).size)).size)).size)).trans (b7.mono ((((((b1).trans (b2.mono (b1).size)).trans (b3.mono ((b1).trans (b2.mono (b1).size)).size)).trans (b4.mono (((b1).trans (b2.mono (b1).size)).trans (b3.mono ((b1).trans (b2.mono (b1).size)).size)).size)).trans (b5.mono ((((b1).trans (b2.mono (b1).size)).trans (b3.mono ((b1).trans (b2.mono (b1).size)).size)).trans (b4.mono (((b1).trans (b2.mono (b1).size)).trans (b3.mono ((b1).trans (b2.mono (b1).size)).size)).size)).size)).trans (b6.mono (((((b1).trans (b2.mono (b1).size)).trans (b3.mono ((b1).trans (b2.mono (b1).size)).size)).trans (b4.mono (((b1).trans (b2.mono (b1).size)).trans (b3.mono ((b1).trans (b2.mono (b1).size)).size)).size)).trans (b5.mono ((((b1).trans (b2.mono (b1).size)).trans (b3.mono ((b1).trans (b2.mono (b1).size)).size)).trans (b4.mono (((b1).trans (b2.mono (b1).size)).trans (b3.mono ((b1).trans (b2.mono (b1).size)).size)).size)).size)).size)).size)⟩
          · have k4 : decide (a0 ≤ a2) = false := decide_eq_false h4
            exfalso; omega
        · have k3 : decide (a1 ≤ a2) = false := decide_eq_false h3
          by_cases h4 : a0 ≤ a2
          · have E0 : boundsF a0 a1 a2 = ⟨5, a0, a1, a2⟩ := by unfold boundsF; first | rw [if_pos (by omega)] | rw [if_neg (by omega)]
            have E1 : indexF a0 a2 = ⟨1, a0, a2, 0⟩ := by unfold indexF; first | rw [if_pos (by omega)] | rw [if_neg (by omega)]
            have E2 : longF a0 a2 = f0 := by unfold longF; first | rw [if_pos (by omega)] | rw [if_neg (by omega)]
            have HC : Hid ((∀ w, Calls Try.prog 14 #[.int .i64 a0, .int .i64 a1, .int .i64 a2] w fun e w' => e = .returned (fv ⟨5, a0, a1, a2⟩) ∧ Below w.heap.size w w') ∧ (∀ w, Calls Try.prog 15 #[.int .i64 a0, .int .i64 a2] w fun e w' => e = .returned (fv ⟨1, a0, a2, 0⟩) ∧ Below w.heap.size w w') ∧ (∀ w, Calls Try.prog 16 #[.int .i64 a0, .int .i64 a2] w fun e w' => e = .returned (fv f0) ∧ Below w.heap.size w w')) := ⟨fun w => E0 ▸ own_bounds a0 a1 a2 w, fun w => E1 ▸ own_index a0 a2 w, fun w => E2 ▸ own_long a0 a2 w⟩
            clear E0 E1 E2
            go_enter Try.func6, Try.ntmps6
            go_wp2_with fail
            refine (told_true _).mono ?_
            rintro e u1 ⟨rfl, b1⟩
            go_wp2_with fail
            refine (HC.out.2.1 _).mono ?_
            rintro e u2 ⟨rfl, b2⟩
            go_wp2_with fail
            refine (none_no ⟨1, a0, a2, 0⟩ (by simp) _).mono ?_
            rintro e u3 ⟨rfl, b3⟩
            go_wp2_with fail
            refine (HC.out.1 _).mono ?_
            rintro e u4 ⟨rfl, b4⟩
            go_wp2_with fail
            refine (none_no ⟨5, a0, a1, a2⟩ (by simp) _).mono ?_
            rintro e u5 ⟨rfl, b5⟩
            go_wp2_with fail
            refine (HC.out.2.2 _).mono ?_
            rintro e u6 ⟨rfl, b6⟩
            go_wp2_with fail
            refine (none_yes _).mono ?_
            rintro e u7 ⟨rfl, b7⟩
            go_wp2_with fail
            all_goals go_ret
            exact ⟨rfl, ((((((b1).trans (b2.mono (b1).size)).trans (b3.mono ((b1).trans (b2.mono (b1).size)).size)).trans (b4.mono (((b1).trans (b2.mono (b1).size)).trans (b3.mono ((b1).trans (b2.mono (b1).size)).size)).size)).trans (b5.mono ((((b1).trans (b2.mono (b1).size)).trans (b3.mono ((b1).trans (b2.mono (b1).size)).size)).trans (b4.mono (((b1).trans (b2.mono (b1).size)).trans (b3.mono ((b1).trans (b2.mono (b1).size)).size)).size)).size)).trans (b6.mono (((((b1).trans (b2.mono (b1).size)).trans (b3.mono ((b1).trans (b2.mono (b1).size)).size)).trans (b4.mono (((b1).trans (b2.mono (b1).size)).trans (b3.mono ((b1).trans (b2.mono (b1).size)).size)).size)).trans (b5.mono ((((b1).trans (b2.mono (b1).size)).trans (b3.mono ((b1).trans (b2.mono (b1).size)).size)).trans (b4.mono (((b1).trans (b2.mono (b1).size)).trans (b3.mono ((b1).trans (b2.mono (b1).size)).size)).size)).size)).size)).trans (b7.mono ((((((b1).trans (b2.mono (b1).size)).trans (b3.mono ((b1).trans (b2.mono (b1).size)).size)).trans (b4.mono (((b1).trans (b2.mono (b1).size)).trans (b3.mono ((b1).trans (b2.mono (b1).size)).size)).size)).trans (b5.mono ((((b1).trans (b2.mono (b1).size)).trans (b3.mono ((b1).trans (b2.mono (b1).size)).size)).trans (b4.mono (((b1).trans (b2.mono (b1).size)).trans (b3.mono ((b1).trans (b2.mono (b1).size)).size)).size)).size)).trans (b6.mono (((((b1).trans (b2.mono (b1).size)).trans (b3.mono ((b1).trans (b2.mono (b1).size)).size)).trans (b4.mono (((b1).trans (b2.mono (b1).size)).trans (b3.mono ((b1).trans (b2.mono (b1).size)).size)).size)).trans (b5.mono ((((b1).trans (b2.mono (b1).size)).trans (b3.mono ((b1).trans (b2.mono (b1).size)).size)).trans (b4.mono (((b1).trans (b2.mono (b1).size)).trans (b3.mono ((b1).trans (b2.mono (b1).size)).size)).size)).size)).size)).size)⟩
          · have k4 : decide (a0 ≤ a2) = false := decide_eq_false h4
            have E0 : boundsF a0 a1 a2 = ⟨5, a0, a1, a2⟩ := by unfold boundsF; first | rw [if_pos (by omega)] | rw [if_neg (by omega)]
            have E1 : indexF a0 a2 = ⟨1, a0, a2, 0⟩ := by unfold indexF; first | rw [if_pos (by omega)] | rw [if_neg (by omega)]
            have E2 : longF a0 a2 = ⟨7, a0, a2, 0⟩ := by unfold longF; first | rw [if_pos (by omega)] | rw [if_neg (by omega)]
            have HC : Hid ((∀ w, Calls Try.prog 14 #[.int .i64 a0, .int .i64 a1, .int .i64 a2] w fun e w' => e = .returned (fv ⟨5, a0, a1, a2⟩) ∧ Below w.heap.size w w') ∧ (∀ w, Calls Try.prog 15 #[.int .i64 a0, .int .i64 a2] w fun e w' => e = .returned (fv ⟨1, a0, a2, 0⟩) ∧ Below w.heap.size w w') ∧ (∀ w, Calls Try.prog 16 #[.int .i64 a0, .int .i64 a2] w fun e w' => e = .returned (fv ⟨7, a0, a2, 0⟩) ∧ Below w.heap.size w w')) := ⟨fun w => E0 ▸ own_bounds a0 a1 a2 w, fun w => E1 ▸ own_index a0 a2 w, fun w => E2 ▸ own_long a0 a2 w⟩
            clear E0 E1 E2
            go_enter Try.func6, Try.ntmps6
            go_wp2_with fail
            refine (told_true _).mono ?_
            rintro e u1 ⟨rfl, b1⟩
            go_wp2_with fail
            refine (HC.out.2.1 _).mono ?_
            rintro e u2 ⟨rfl, b2⟩
            go_wp2_with fail
            refine (none_no ⟨1, a0, a2, 0⟩ (by simp) _).mono ?_
            rintro e u3 ⟨rfl, b3⟩
            go_wp2_with fail
            refine (HC.out.1 _).mono ?_
            rintro e u4 ⟨rfl, b4⟩
            go_wp2_with fail
            refine (none_no ⟨5, a0, a1, a2⟩ (by simp) _).mono ?_
            rintro e u5 ⟨rfl, b5⟩
            go_wp2_with fail
            refine (HC.out.2.2 _).mono ?_
            rintro e u6 ⟨rfl, b6⟩
            go_wp2_with fail
            refine (none_no ⟨7, a0, a2, 0⟩ (by simp) _).mono ?_
            rintro e u7 ⟨rfl, b7⟩
            go_wp2_with fail
            all_goals go_ret
            exact ⟨rfl, ((((((b1).trans (b2.mono (b1).size)).trans (b3.mono ((b1).trans (b2.mono (b1).size)).size)).trans (b4.mono (((b1).trans (b2.mono (b1).size)).trans (b3.mono ((b1).trans (b2.mono (b1).size)).size)).size)).trans (b5.mono ((((b1).trans (b2.mono (b1).size)).trans (b3.mono ((b1).trans (b2.mono (b1).size)).size)).trans (b4.mono (((b1).trans (b2.mono (b1).size)).trans (b3.mono ((b1).trans (b2.mono (b1).size)).size)).size)).size)).trans (b6.mono (((((b1).trans (b2.mono (b1).size)).trans (b3.mono ((b1).trans (b2.mono (b1).size)).size)).trans (b4.mono (((b1).trans (b2.mono (b1).size)).trans (b3.mono ((b1).trans (b2.mono (b1).size)).size)).size)).trans (b5.mono ((((b1).trans (b2.mono (b1).size)).trans (b3.mono ((b1).trans (b2.mono (b1).size)).size)).trans (b4.mono (((b1).trans (b2.mono (b1).size)).trans (b3.mono ((b1).trans (b2.mono (b1).size)).size)).size)).size)).size)).trans (b7.mono ((((((b1).trans (b2.mono (b1).size)).trans (b3.mono ((b1).trans (b2.mono (b1).size)).size)).trans (b4.mono (((b1).trans (b2.mono (b1).size)).trans (b3.mono ((b1).trans (b2.mono (b1).size)).size)).size)).trans (b5.mono ((((b1).trans (b2.mono (b1).size)).trans (b3.mono ((b1).trans (b2.mono (b1).size)).size)).trans (b4.mono (((b1).trans (b2.mono (b1).size)).trans (b3.mono ((b1).trans (b2.mono (b1).size)).size)).size)).size)).trans (b6.mono (((((b1).trans (b2.mono (b1).size)).trans (b3.mono ((b1).trans (b2.mono (b1).size)).size)).trans (b4.mono (((b1).trans (b2.mono (b1).size)).trans (b3.mono ((b1).trans (b2.mono (b1).size)).size)).size)).trans (b5.mono ((((b1).trans (b2.mono (b1).size)).trans (b3.mono ((b1).trans (b2.mono (b1).size)).size)).trans (b4.mono (((b1).trans (b2.mono (b1).size)).trans (b3.mono ((b1).trans (b2.mono (b1).size)).size)).size)).size)).size)).size)⟩
      · have k2 : decide (a0 ≤ a1) = false := decide_eq_false h2
        by_cases h4 : a0 ≤ a2
        · have E0 : boundsF a0 a1 a2 = ⟨5, a0, a1, a2⟩ := by unfold boundsF; first | rw [if_pos (by omega)] | rw [if_neg (by omega)]
          have E1 : indexF a0 a2 = ⟨1, a0, a2, 0⟩ := by unfold indexF; first | rw [if_pos (by omega)] | rw [if_neg (by omega)]
          have E2 : longF a0 a2 = f0 := by unfold longF; first | rw [if_pos (by omega)] | rw [if_neg (by omega)]
          have HC : Hid ((∀ w, Calls Try.prog 14 #[.int .i64 a0, .int .i64 a1, .int .i64 a2] w fun e w' => e = .returned (fv ⟨5, a0, a1, a2⟩) ∧ Below w.heap.size w w') ∧ (∀ w, Calls Try.prog 15 #[.int .i64 a0, .int .i64 a2] w fun e w' => e = .returned (fv ⟨1, a0, a2, 0⟩) ∧ Below w.heap.size w w') ∧ (∀ w, Calls Try.prog 16 #[.int .i64 a0, .int .i64 a2] w fun e w' => e = .returned (fv f0) ∧ Below w.heap.size w w')) := ⟨fun w => E0 ▸ own_bounds a0 a1 a2 w, fun w => E1 ▸ own_index a0 a2 w, fun w => E2 ▸ own_long a0 a2 w⟩
          clear E0 E1 E2
          go_enter Try.func6, Try.ntmps6
          go_wp2_with fail
          refine (told_true _).mono ?_
          rintro e u1 ⟨rfl, b1⟩
          go_wp2_with fail
          refine (HC.out.2.1 _).mono ?_
          rintro e u2 ⟨rfl, b2⟩
          go_wp2_with fail
          refine (none_no ⟨1, a0, a2, 0⟩ (by simp) _).mono ?_
          rintro e u3 ⟨rfl, b3⟩
          go_wp2_with fail
          refine (HC.out.1 _).mono ?_
          rintro e u4 ⟨rfl, b4⟩
          go_wp2_with fail
          refine (none_no ⟨5, a0, a1, a2⟩ (by simp) _).mono ?_
          rintro e u5 ⟨rfl, b5⟩
          go_wp2_with fail
          refine (HC.out.2.2 _).mono ?_
          rintro e u6 ⟨rfl, b6⟩
          go_wp2_with fail
          refine (none_yes _).mono ?_
          rintro e u7 ⟨rfl, b7⟩
          go_wp2_with fail
          all_goals go_ret
          exact ⟨rfl, ((((((b1).trans (b2.mono (b1).size)).trans (b3.mono ((b1).trans (b2.mono (b1).size)).size)).trans (b4.mono (((b1).trans (b2.mono (b1).size)).trans (b3.mono ((b1).trans (b2.mono (b1).size)).size)).size)).trans (b5.mono ((((b1).trans (b2.mono (b1).size)).trans (b3.mono ((b1).trans (b2.mono (b1).size)).size)).trans (b4.mono (((b1).trans (b2.mono (b1).size)).trans (b3.mono ((b1).trans (b2.mono (b1).size)).size)).size)).size)).trans (b6.mono (((((b1).trans (b2.mono (b1).size)).trans (b3.mono ((b1).trans (b2.mono (b1).size)).size)).trans (b4.mono (((b1).trans (b2.mono (b1).size)).trans (b3.mono ((b1).trans (b2.mono (b1).size)).size)).size)).trans (b5.mono ((((b1).trans (b2.mono (b1).size)).trans (b3.mono ((b1).trans (b2.mono (b1).size)).size)).trans (b4.mono (((b1).trans (b2.mono (b1).size)).trans (b3.mono ((b1).trans (b2.mono (b1).size)).size)).size)).size)).size)).trans (b7.mono ((((((b1).trans (b2.mono (b1).size)).trans (b3.mono ((b1).trans (b2.mono (b1).size)).size)).trans (b4.mono (((b1).trans (b2.mono (b1).size)).trans (b3.mono ((b1).trans (b2.mono (b1).size)).size)).size)).trans (b5.mono ((((b1).trans (b2.mono (b1).size)).trans (b3.mono ((b1).trans (b2.mono (b1).size)).size)).trans (b4.mono (((b1).trans (b2.mono (b1).size)).trans (b3.mono ((b1).trans (b2.mono (b1).size)).size)).size)).size)).trans (b6.mono (((((b1).trans (b2.mono (b1).size)).trans (b3.mono ((b1).trans (b2.mono (b1).size)).size)).trans (b4.mono (((b1).trans (b2.mono (b1).size)).trans (b3.mono ((b1).trans (b2.mono (b1).size)).size)).size)).trans (b5.mono ((((b1).trans (b2.mono (b1).size)).trans (b3.mono ((b1).trans (b2.mono (b1).size)).size)).trans (b4.mono (((b1).trans (b2.mono (b1).size)).trans (b3.mono ((b1).trans (b2.mono (b1).size)).size)).size)).size)).size)).size)⟩
        · have k4 : decide (a0 ≤ a2) = false := decide_eq_false h4
          have E0 : boundsF a0 a1 a2 = ⟨5, a0, a1, a2⟩ := by unfold boundsF; first | rw [if_pos (by omega)] | rw [if_neg (by omega)]
          have E1 : indexF a0 a2 = ⟨1, a0, a2, 0⟩ := by unfold indexF; first | rw [if_pos (by omega)] | rw [if_neg (by omega)]
          have E2 : longF a0 a2 = ⟨7, a0, a2, 0⟩ := by unfold longF; first | rw [if_pos (by omega)] | rw [if_neg (by omega)]
          have HC : Hid ((∀ w, Calls Try.prog 14 #[.int .i64 a0, .int .i64 a1, .int .i64 a2] w fun e w' => e = .returned (fv ⟨5, a0, a1, a2⟩) ∧ Below w.heap.size w w') ∧ (∀ w, Calls Try.prog 15 #[.int .i64 a0, .int .i64 a2] w fun e w' => e = .returned (fv ⟨1, a0, a2, 0⟩) ∧ Below w.heap.size w w') ∧ (∀ w, Calls Try.prog 16 #[.int .i64 a0, .int .i64 a2] w fun e w' => e = .returned (fv ⟨7, a0, a2, 0⟩) ∧ Below w.heap.size w w')) := ⟨fun w => E0 ▸ own_bounds a0 a1 a2 w, fun w => E1 ▸ own_index a0 a2 w, fun w => E2 ▸ own_long a0 a2 w⟩
          clear E0 E1 E2
          go_enter Try.func6, Try.ntmps6
          go_wp2_with fail
          refine (told_true _).mono ?_
          rintro e u1 ⟨rfl, b1⟩
          go_wp2_with fail
          refine (HC.out.2.1 _).mono ?_
          rintro e u2 ⟨rfl, b2⟩
          go_wp2_with fail
          refine (none_no ⟨1, a0, a2, 0⟩ (by simp) _).mono ?_
          rintro e u3 ⟨rfl, b3⟩
          go_wp2_with fail
          refine (HC.out.1 _).mono ?_
          rintro e u4 ⟨rfl, b4⟩
          go_wp2_with fail
          refine (none_no ⟨5, a0, a1, a2⟩ (by simp) _).mono ?_
          rintro e u5 ⟨rfl, b5⟩
          go_wp2_with fail
          refine (HC.out.2.2 _).mono ?_
          rintro e u6 ⟨rfl, b6⟩
          go_wp2_with fail
          refine (none_no ⟨7, a0, a2, 0⟩ (by simp) _).mono ?_
          rintro e u7 ⟨rfl, b7⟩
          go_wp2_with fail
          all_goals go_ret
          exact ⟨rfl, ((((((b1).trans (b2.mono (b1).size)).trans (b3.mono ((b1).trans (b2.mono (b1).size)).size)).trans (b4.mono (((b1).trans (b2.mono (b1).size)).trans (b3.mono ((b1).trans (b2.mono (b1).size)).size)).size)).trans (b5.mono ((((b1).trans (b2.mono (b1).size)).trans (b3.mono ((b1).trans (b2.mono (b1).size)).size)).trans (b4.mono (((b1).trans (b2.mono (b1).size)).trans (b3.mono ((b1).trans (b2.mono (b1).size)).size)).size)).size)).trans (b6.mono (((((b1).trans (b2.mono (b1).size)).trans (b3.mono ((b1).trans (b2.mono (b1).size)).size)).trans (b4.mono (((b1).trans (b2.mono (b1).size)).trans (b3.mono ((b1).trans (b2.mono (b1).size)).size)).size)).trans (b5.mono ((((b1).trans (b2.mono (b1).size)).trans (b3.mono ((b1).trans (b2.mono (b1).size)).size)).trans (b4.mono (((b1).trans (b2.mono (b1).size)).trans (b3.mono ((b1).trans (b2.mono (b1).size)).size)).size)).size)).size)).trans (b7.mono ((((((b1).trans (b2.mono (b1).size)).trans (b3.mono ((b1).trans (b2.mono (b1).size)).size)).trans (b4.mono (((b1).trans (b2.mono (b1).size)).trans (b3.mono ((b1).trans (b2.mono (b1).size)).size)).size)).trans (b5.mono ((((b1).trans (b2.mono (b1).size)).trans (b3.mono ((b1).trans (b2.mono (b1).size)).size)).trans (b4.mono (((b1).trans (b2.mono (b1).size)).trans (b3.mono ((b1).trans (b2.mono (b1).size)).size)).size)).size)).trans (b6.mono (((((b1).trans (b2.mono (b1).size)).trans (b3.mono ((b1).trans (b2.mono (b1).size)).size)).trans (b4.mono (((b1).trans (b2.mono (b1).size)).trans (b3.mono ((b1).trans (b2.mono (b1).size)).size)).size)).trans (b5.mono ((((b1).trans (b2.mono (b1).size)).trans (b3.mono ((b1).trans (b2.mono (b1).size)).size)).trans (b4.mono (((b1).trans (b2.mono (b1).size)).trans (b3.mono ((b1).trans (b2.mono (b1).size)).size)).size)).size)).size)).size)⟩
  · have k0 : decide (0 ≤ a0) = false := decide_eq_false h0
    by_cases h4 : a0 ≤ a2
    · have E0 : boundsF a0 a1 a2 = ⟨5, a0, a1, a2⟩ := by unfold boundsF; first | rw [if_pos (by omega)] | rw [if_neg (by omega)]
      have E1 : indexF a0 a2 = ⟨1, a0, a2, 0⟩ := by unfold indexF; first | rw [if_pos (by omega)] | rw [if_neg (by omega)]
      have E2 : longF a0 a2 = f0 := by unfold longF; first | rw [if_pos (by omega)] | rw [if_neg (by omega)]
      have HC : Hid ((∀ w, Calls Try.prog 14 #[.int .i64 a0, .int .i64 a1, .int .i64 a2] w fun e w' => e = .returned (fv ⟨5, a0, a1, a2⟩) ∧ Below w.heap.size w w') ∧ (∀ w, Calls Try.prog 15 #[.int .i64 a0, .int .i64 a2] w fun e w' => e = .returned (fv ⟨1, a0, a2, 0⟩) ∧ Below w.heap.size w w') ∧ (∀ w, Calls Try.prog 16 #[.int .i64 a0, .int .i64 a2] w fun e w' => e = .returned (fv f0) ∧ Below w.heap.size w w')) := ⟨fun w => E0 ▸ own_bounds a0 a1 a2 w, fun w => E1 ▸ own_index a0 a2 w, fun w => E2 ▸ own_long a0 a2 w⟩
      clear E0 E1 E2
      go_enter Try.func6, Try.ntmps6
      go_wp2_with fail
      refine (told_true _).mono ?_
      rintro e u1 ⟨rfl, b1⟩
      go_wp2_with fail
      refine (HC.out.2.1 _).mono ?_
      rintro e u2 ⟨rfl, b2⟩
      go_wp2_with fail
      refine (none_no ⟨1, a0, a2, 0⟩ (by simp) _).mono ?_
      rintro e u3 ⟨rfl, b3⟩
      go_wp2_with fail
      refine (HC.out.1 _).mono ?_
      rintro e u4 ⟨rfl, b4⟩
      go_wp2_with fail
      refine (none_no ⟨5, a0, a1, a2⟩ (by simp) _).mono ?_
      rintro e u5 ⟨rfl, b5⟩
      go_wp2_with fail
      refine (HC.out.2.2 _).mono ?_
      rintro e u6 ⟨rfl, b6⟩
      go_wp2_with fail
      refine (none_yes _).mono ?_
      rintro e u7 ⟨rfl, b7⟩
      go_wp2_with fail
      all_goals go_ret
      exact ⟨rfl, ((((((b1).trans (b2.mono (b1).size)).trans (b3.mono ((b1).trans (b2.mono (b1).size)).size)).trans (b4.mono (((b1).trans (b2.mono (b1).size)).trans (b3.mono ((b1).trans (b2.mono (b1).size)).size)).size)).trans (b5.mono ((((b1).trans (b2.mono (b1).size)).trans (b3.mono ((b1).trans (b2.mono (b1).size)).size)).trans (b4.mono (((b1).trans (b2.mono (b1).size)).trans (b3.mono ((b1).trans (b2.mono (b1).size)).size)).size)).size)).trans (b6.mono (((((b1).trans (b2.mono (b1).size)).trans (b3.mono ((b1).trans (b2.mono (b1).size)).size)).trans (b4.mono (((b1).trans (b2.mono (b1).size)).trans (b3.mono ((b1).trans (b2.mono (b1).size)).size)).size)).trans (b5.mono ((((b1).trans (b2.mono (b1).size)).trans (b3.mono ((b1).trans (b2.mono (b1).size)).size)).trans (b4.mono (((b1).trans (b2.mono (b1).size)).trans (b3.mono ((b1).trans (b2.mono (b1).size)).size)).size)).size)).size)).trans (b7.mono ((((((b1).trans (b2.mono (b1).size)).trans (b3.mono ((b1).trans (b2.mono (b1).size)).size)).trans (b4.mono (((b1).trans (b2.mono (b1).size)).trans (b3.mono ((b1).trans (b2.mono (b1).size)).size)).size)).trans (b5.mono ((((b1).trans (b2.mono (b1).size)).trans (b3.mono ((b1).trans (b2.mono (b1).size)).size)).trans (b4.mono (((b1).trans (b2.mono (b1).size)).trans (b3.mono ((b1).trans (b2.mono (b1).size)).size)).size)).size)).trans (b6.mono (((((b1).trans (b2.mono (b1).size)).trans (b3.mono ((b1).trans (b2.mono (b1).size)).size)).trans (b4.mono (((b1).trans (b2.mono (b1).size)).trans (b3.mono ((b1).trans (b2.mono (b1).size)).size)).size)).trans (b5.mono ((((b1).trans (b2.mono (b1).size)).trans (b3.mono ((b1).trans (b2.mono (b1).size)).size)).trans (b4.mono (((b1).trans (b2.mono (b1).size)).trans (b3.mono ((b1).trans (b2.mono (b1).size)).size)).size)).size)).size)).size)⟩
    · have k4 : decide (a0 ≤ a2) = false := decide_eq_false h4
      have E0 : boundsF a0 a1 a2 = ⟨5, a0, a1, a2⟩ := by unfold boundsF; first | rw [if_pos (by omega)] | rw [if_neg (by omega)]
      have E1 : indexF a0 a2 = ⟨1, a0, a2, 0⟩ := by unfold indexF; first | rw [if_pos (by omega)] | rw [if_neg (by omega)]
      have E2 : longF a0 a2 = ⟨7, a0, a2, 0⟩ := by unfold longF; first | rw [if_pos (by omega)] | rw [if_neg (by omega)]
      have HC : Hid ((∀ w, Calls Try.prog 14 #[.int .i64 a0, .int .i64 a1, .int .i64 a2] w fun e w' => e = .returned (fv ⟨5, a0, a1, a2⟩) ∧ Below w.heap.size w w') ∧ (∀ w, Calls Try.prog 15 #[.int .i64 a0, .int .i64 a2] w fun e w' => e = .returned (fv ⟨1, a0, a2, 0⟩) ∧ Below w.heap.size w w') ∧ (∀ w, Calls Try.prog 16 #[.int .i64 a0, .int .i64 a2] w fun e w' => e = .returned (fv ⟨7, a0, a2, 0⟩) ∧ Below w.heap.size w w')) := ⟨fun w => E0 ▸ own_bounds a0 a1 a2 w, fun w => E1 ▸ own_index a0 a2 w, fun w => E2 ▸ own_long a0 a2 w⟩
      clear E0 E1 E2
      go_enter Try.func6, Try.ntmps6
      go_wp2_with fail
      refine (told_true _).mono ?_
      rintro e u1 ⟨rfl, b1⟩
      go_wp2_with fail
      refine (HC.out.2.1 _).mono ?_
      rintro e u2 ⟨rfl, b2⟩
      go_wp2_with fail
      refine (none_no ⟨1, a0, a2, 0⟩ (by simp) _).mono ?_
      rintro e u3 ⟨rfl, b3⟩
      go_wp2_with fail
      refine (HC.out.1 _).mono ?_
      rintro e u4 ⟨rfl, b4⟩
      go_wp2_with fail
      refine (none_no ⟨5, a0, a1, a2⟩ (by simp) _).mono ?_
      rintro e u5 ⟨rfl, b5⟩
      go_wp2_with fail
      refine (HC.out.2.2 _).mono ?_
      rintro e u6 ⟨rfl, b6⟩
      go_wp2_with fail
      refine (none_no ⟨7, a0, a2, 0⟩ (by simp) _).mono ?_
      rintro e u7 ⟨rfl, b7⟩
      go_wp2_with fail
      all_goals go_ret
      exact ⟨rfl, ((((((b1).trans (b2.mono (b1).size)).trans (b3.mono ((b1).trans (b2.mono (b1).size)).size)).trans (b4.mono (((b1).trans (b2.mono (b1).size)).trans (b3.mono ((b1).trans (b2.mono (b1).size)).size)).size)).trans (b5.mono ((((b1).trans (b2.mono (b1).size)).trans (b3.mono ((b1).trans (b2.mono (b1).size)).size)).trans (b4.mono (((b1).trans (b2.mono (b1).size)).trans (b3.mono ((b1).trans (b2.mono (b1).size)).size)).size)).size)).trans (b6.mono (((((b1).trans (b2.mono (b1).size)).trans (b3.mono ((b1).trans (b2.mono (b1).size)).size)).trans (b4.mono (((b1).trans (b2.mono (b1).size)).trans (b3.mono ((b1).trans (b2.mono (b1).size)).size)).size)).trans (b5.mono ((((b1).trans (b2.mono (b1).size)).trans (b3.mono ((b1).trans (b2.mono (b1).size)).size)).trans (b4.mono (((b1).trans (b2.mono (b1).size)).trans (b3.mono ((b1).trans (b2.mono (b1).size)).size)).size)).size)).size)).trans (b7.mono ((((((b1).trans (b2.mono (b1).size)).trans (b3.mono ((b1).trans (b2.mono (b1).size)).size)).trans (b4.mono (((b1).trans (b2.mono (b1).size)).trans (b3.mono ((b1).trans (b2.mono (b1).size)).size)).size)).trans (b5.mono ((((b1).trans (b2.mono (b1).size)).trans (b3.mono ((b1).trans (b2.mono (b1).size)).size)).trans (b4.mono (((b1).trans (b2.mono (b1).size)).trans (b3.mono ((b1).trans (b2.mono (b1).size)).size)).size)).size)).trans (b6.mono (((((b1).trans (b2.mono (b1).size)).trans (b3.mono ((b1).trans (b2.mono (b1).size)).size)).trans (b4.mono (((b1).trans (b2.mono (b1).size)).trans (b3.mono ((b1).trans (b2.mono (b1).size)).size)).size)).trans (b5.mono ((((b1).trans (b2.mono (b1).size)).trans (b3.mono ((b1).trans (b2.mono (b1).size)).size)).trans (b4.mono (((b1).trans (b2.mono (b1).size)).trans (b3.mono ((b1).trans (b2.mono (b1).size)).size)).size)).size)).size)).size)⟩

theorem contract (H : Type) (enc : TypeId × Value → H) (W : World) (base : Nat) (args : Array Value) (ds gs : List (DataW H)) (before : List MemPlace)
    (hval : ∀ (j : Nat) t v, Try.f6.params[j]? = some t → args[j]? = some v → Value.okWide Try.prog W .any base t v)
    (hW : DataW.Whole enc Try.prog Try.f6.params.toList Rows.faultWithinSpec.vars false W args.toList ds gs before) :
    Calls Try.prog 6 args W fun e W' => ∃ v, e = .returned v ∧ Rows.faultWithinSpec.post enc Try.prog Try.f6 false true false false W args v W' := by
  have hW' := hW
  obtain ⟨p, q, hA0, hV, rfl, hfz, hnd⟩ := hW
  have hA : DataW.TrodAll enc Try.prog W 0 (fun _ => true) true Try.f6.params.toList args.toList ds p := hA0
  rw [Try.params6] at hA hval
  obtain ⟨v0, vs0, d0, ds0, p0, q0, hargs, rfl, rfl, h0, r0⟩ := trodAll_cons hA
  obtain ⟨v1, vs1, d1, ds1, p1, q1, rfl, rfl, rfl, h1, r1⟩ := trodAll_cons r0
  obtain ⟨v2, vs2, d2, ds2, p2, q2, rfl, rfl, rfl, h2, r2⟩ := trodAll_cons r1
  obtain ⟨rfl, rfl, rfl⟩ := trodAll_nil r2
  obtain rfl : args = #[v0, v1, v2] := by cases args; simp_all
  obtain ⟨rfl, rfl⟩ := trodVars_none hV
  obtain ⟨a0, rfl, rfl, rfl, w0⟩ := open_int Try.underlying3 (hval 0 3 v0 rfl rfl) h0
  obtain ⟨a1, rfl, rfl, rfl, w1⟩ := open_int Try.underlying3 (hval 1 3 v1 rfl rfl) h1
  obtain ⟨a2, rfl, rfl, rfl, w2⟩ := open_int Try.underlying3 (hval 2 3 v2 rfl rfl) h2
  clear hA0
  simp only [List.append_nil] at hW'
  refine (walk a0 a1 a2 w0 w1 w2  W).mono fun e W' ⟨he, bel⟩ => ?_
  subst he
  exact ⟨_, rfl, _, _, _, [], [], [], hW', trodAll_mk1 (shut_bool Try.underlying4 _), (trodAll_cons_mk (shut_int Try.underlying3 w0) (trodAll_cons_mk (shut_int Try.underlying3 w1) (trodAll_cons_mk (shut_int Try.underlying3 w2) trodAll_mk0))), rfl, bel.frame _, fun h => by cases h⟩

set_option maxRecDepth 100000 in
theorem lifted (os : Os) (started : os.Started) (H : Type) (enc : TypeId × Value → H) :
    ReturnsInHanded {} Try.checked os 6 .any (Rows.faultWithinSpec.pre6 enc Try.prog Try.f6 Rows.faultWithinRow.domain false) (Rows.faultWithinSpec.post enc Try.prog Try.f6 false true false false) := by
  refine returnsInHanded_of_change (C := Try.checked) own started (by kernel_rfl) Try.func6
    (ChangeSpec.witness6 (enc := enc) (C := Try.checked) false ⟨#[], #[.int .i64 0, .int .i64 0, .int .i64 0], []⟩ 8 (by kernel_rfl) (by kernel_rfl) (by kernel_rfl) (by kernel_rfl)) ?_
  intro W base args ds gs before hval0 hW hcnd _
  exact contract H enc W base args ds gs before hval0 hW

theorem proved : Rows.FaultWithinSaid :=
  OpenClaim.holds_of_wide 6 Try.f6 rfl rfl rfl rfl rfl rfl rfl ⟨rfl, rfl, rfl, rfl, rfl⟩ rfl rfl rfl rfl rfl (by kernel_rfl) Try.func6 (by kernel_rfl)
    (of_decide_eq_true (by kernel_rfl)) (by unfold Func.isWrapper; first | (rw [if_pos (by decide +kernel)]; kernel_rfl) | (rw [if_neg (by decide +kernel)]; exact ⟨rfl, rfl⟩))
    (fun os started H enc _ => lifted os started H enc)
#print axioms proved
end Go.Proofs.Ytjmklmcnlieplab.faultWithin
