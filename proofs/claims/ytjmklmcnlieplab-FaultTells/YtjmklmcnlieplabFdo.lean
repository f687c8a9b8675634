/- What word.Do refuses. -/
import Derived.Test.YtjmklmcnlieplabFlt2
namespace Go.Proofs.Ytjmklmcnlieplab
open Go.ChangeShapes Go.WideShapes Go.ChangeAt Go.RowKit
set_option maxRecDepth 100000
set_option linter.unusedSimpArgs false
set_option linter.unusedVariables false
set_option maxHeartbeats 2000000
def doE (op b : Int) : Int := if (op = 4 ∨ op = 5) ∧ b = 0 then 20 else if (op = 6 ∨ op = 7) ∧ b < 0 then 21 else if 1 ≤ op ∧ op ≤ 10 then 0 else 13
theorem own_do (op a b : Int) (h1 : b ≤ 9223372036854775807) (w : World) :
    Calls Try.prog 17 #[.int .i64 op, .int .i64 a, .int .i64 b] w fun e w' => (∃ v, e = .returned (.tuple #[.int .i64 v, .int .i64 (doE op b)])) ∧ w' = w := by
  by_cases q1 : op = 1
  · subst q1
    have e1 : doE 1 b = 0 := by
      unfold doE; repeat' split
      all_goals first | rfl | (exfalso; omega)
    rw [e1]; clear e1
    go_enter Try.func17, Try.ntmps17
    go_wp2
    go_ret2
    exact ⟨⟨_, rfl⟩, rfl⟩
  by_cases q2 : op = 2
  · subst q2
    have e1 : doE 2 b = 0 := by
      unfold doE; repeat' split
      all_goals first | rfl | (exfalso; omega)
    rw [e1]; clear e1
    go_enter Try.func17, Try.ntmps17
    go_wp2
    go_ret2
    exact ⟨⟨_, rfl⟩, rfl⟩
  by_cases q3 : op = 3
  · subst q3
    have e1 : doE 3 b = 0 := by
      unfold doE; repeat' split
      all_goals first | rfl | (exfalso; omega)
    rw [e1]; clear e1
    go_enter Try.func17, Try.ntmps17
    go_wp2
    go_ret2
    exact ⟨⟨_, rfl⟩, rfl⟩
  by_cases q4 : op = 4
  · subst q4
    by_cases h : b = 0
    · subst h
      have e1 : doE 4 0 = 20 := by
        unfold doE; repeat' split
        all_goals first | rfl | (exfalso; omega)
      rw [e1]; clear e1
      go_enter Try.func17, Try.ntmps17
      go_wp2
      go_ret2
      exact ⟨⟨_, rfl⟩, rfl⟩
    · have e1 : doE 4 b = 0 := by
        unfold doE; repeat' split
        all_goals first | rfl | (exfalso; omega)
      rw [e1]; clear e1
      have h' : (b == 0) = false := by simpa using h
      go_enter Try.func17, Try.ntmps17
      go_wp2
      go_ret2
      exact ⟨⟨_, rfl⟩, rfl⟩
  by_cases q5 : op = 5
  · subst q5
    by_cases h : b = 0
    · subst h
      have e1 : doE 5 0 = 20 := by
        unfold doE; repeat' split
        all_goals first | rfl | (exfalso; omega)
      rw [e1]; clear e1
      go_enter Try.func17, Try.ntmps17
      go_wp2
      go_ret2
      exact ⟨⟨_, rfl⟩, rfl⟩
    · have e1 : doE 5 b = 0 := by
        unfold doE; repeat' split
        all_goals first | rfl | (exfalso; omega)
      rw [e1]; clear e1
      have h' : (b == 0) = false := by simpa using h
      go_enter Try.func17, Try.ntmps17
      go_wp2
      go_ret2
      exact ⟨⟨_, rfl⟩, rfl⟩
  by_cases q6 : op = 6
  · subst q6
    by_cases h : b < 0
    · have e1 : doE 6 b = 21 := by
        unfold doE; repeat' split
        all_goals first | rfl | (exfalso; omega)
      rw [e1]; clear e1
      go_enter Try.func17, Try.ntmps17
      go_wp2
      go_ret2
      exact ⟨⟨_, rfl⟩, rfl⟩
    · have e1 : doE 6 b = 0 := by
        unfold doE; repeat' split
        all_goals first | rfl | (exfalso; omega)
      rw [e1]; clear e1
      have h0 : 0 ≤ b := by omega
      clear h
      go_enter Try.func17, Try.ntmps17
      go_wp2
      go_ret2
      exact ⟨⟨_, rfl⟩, rfl⟩
  by_cases q7 : op = 7
  · subst q7
    by_cases h : b < 0
    · have e1 : doE 7 b = 21 := by
        unfold doE; repeat' split
        all_goals first | rfl | (exfalso; omega)
      rw [e1]; clear e1
      go_enter Try.func17, Try.ntmps17
      go_wp2
      go_ret2
      exact ⟨⟨_, rfl⟩, rfl⟩
    · have e1 : doE 7 b = 0 := by
        unfold doE; repeat' split
        all_goals first | rfl | (exfalso; omega)
      rw [e1]; clear e1
      have h0 : 0 ≤ b := by omega
      clear h
      go_enter Try.func17, Try.ntmps17
      go_wp2
      go_ret2
      exact ⟨⟨_, rfl⟩, rfl⟩
  by_cases q8 : op = 8
  · subst q8
    have e1 : doE 8 b = 0 := by
      unfold doE; repeat' split
      all_goals first | rfl | (exfalso; omega)
    rw [e1]; clear e1
    go_enter Try.func17, Try.ntmps17
    go_wp2
    go_ret2
    exact ⟨⟨_, rfl⟩, rfl⟩
  by_cases q9 : op = 9
  · subst q9
    have e1 : doE 9 b = 0 := by
      unfold doE; repeat' split
      all_goals first | rfl | (exfalso; omega)
    rw [e1]; clear e1
    go_enter Try.func17, Try.ntmps17
    go_wp2
    go_ret2
    exact ⟨⟨_, rfl⟩, rfl⟩
  by_cases q10 : op = 10
  · subst q10
    have e1 : doE 10 b = 0 := by
      unfold doE; repeat' split
      all_goals first | rfl | (exfalso; omega)
    rw [e1]; clear e1
    go_enter Try.func17, Try.ntmps17
    go_wp2
    go_ret2
    exact ⟨⟨_, rfl⟩, rfl⟩
  have e1 : doE op b = 13 := by
    unfold doE; repeat' split
    all_goals first | rfl | (exfalso; omega)
  rw [e1]; clear e1
  have h1 : (op == 1) = false := by rw [beq_eq_false_iff_ne]; omega
  have h2 : (op == 2) = false := by rw [beq_eq_false_iff_ne]; omega
  have h3 : (op == 3) = false := by rw [beq_eq_false_iff_ne]; omega
  have h4 : (op == 4) = false := by rw [beq_eq_false_iff_ne]; omega
  have h5 : (op == 5) = false := by rw [beq_eq_false_iff_ne]; omega
  have h6 : (op == 6) = false := by rw [beq_eq_false_iff_ne]; omega
  have h7 : (op == 7) = false := by rw [beq_eq_false_iff_ne]; omega
  have h8 : (op == 8) = false := by rw [beq_eq_false_iff_ne]; omega
  have h9 : (op == 9) = false := by rw [beq_eq_false_iff_ne]; omega
  have h10 : (op == 10) = false := by rw [beq_eq_false_iff_ne]; omega
  go_enter Try.func17, Try.ntmps17
  go_wp2
  go_ret2
  exact ⟨⟨_, rfl⟩, rfl⟩
end Go.Proofs.Ytjmklmcnlieplab
