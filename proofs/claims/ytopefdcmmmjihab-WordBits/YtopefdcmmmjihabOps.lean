/- The contracts of the functions that the keeping statements of package word call: 'do' (8), 'awake' (9), 'spot' (11), 'holds' (12). -/
import Derived.Test.YtopefdcmmmjihabRows
import Derived.Test.YtopefdcmmmjihabPlain
import Derived.WalkKit
import Derived.ProofKit
import Derived.OpenShut
namespace Go.Proofs.Ytopefdcmmmjihab
open Go.ChangeShapes Go.WideShapes Go.ChangeAt Go.RowKit

/-- What 'do' answers at the operations that it is asked for. -/
def doF (op a b : Int) : Int :=
  if op = 1 then wrap64 (a + b) else if op = 2 then wrap64 (a - b) else if op = 3 then wrap64 (a * b)
  else if op = 6 then wrap64 (a * 2 ^ min b.toNat 64) else if op = 7 then a / 2 ^ min b.toNat 64
  else if op = 8 then bits .and .i64 a b else if op = 9 then bits .or .i64 a b else bits .xor .i64 a b
theorem doF1 (a b : Int) : doF 1 a b = wrap64 (a + b) := by simp [doF]
theorem doF2 (a b : Int) : doF 2 a b = wrap64 (a - b) := by simp [doF]
theorem doF3 (a b : Int) : doF 3 a b = wrap64 (a * b) := by simp [doF]
theorem doF6 (a b : Int) : doF 6 a b = wrap64 (a * 2 ^ min b.toNat 64) := by simp [doF]
theorem doF7 (a b : Int) : doF 7 a b = a / 2 ^ min b.toNat 64 := by simp [doF]
theorem doF8 (a b : Int) : doF 8 a b = bits .and .i64 a b := by simp [doF]
theorem doF9 (a b : Int) : doF 9 a b = bits .or .i64 a b := by simp [doF]
theorem doF10 (a b : Int) : doF 10 a b = bits .xor .i64 a b := by simp [doF]

/-- 'do' at sums, differences, products and bits. -/
theorem do_any (op a b : Int) (w : World) (h : op = 1 ∨ op = 2 ∨ op = 3 ∨ op = 8 ∨ op = 9 ∨ op = 10) :
    Calls Try.prog 8 #[.int .i64 op, .int .i64 a, .int .i64 b] w fun e w' => e = .returned (.int .i64 (doF op a b)) ∧ w' = w := by
  rcases h with rfl | rfl | rfl | rfl | rfl | rfl
  · rw [doF1]; go_enter Try.func8, Try.ntmps8
    go_wp2
    go_ret
    exact ⟨rfl, rfl⟩
  · rw [doF2]; go_enter Try.func8, Try.ntmps8
    go_wp2
    go_ret
    exact ⟨rfl, rfl⟩
  · rw [doF3]; go_enter Try.func8, Try.ntmps8
    go_wp2
    go_ret
    exact ⟨rfl, rfl⟩
  · rw [doF8]; go_enter Try.func8, Try.ntmps8
    go_wp2
    go_ret
    exact ⟨rfl, rfl⟩
  · rw [doF9]; go_enter Try.func8, Try.ntmps8
    go_wp2
    go_ret
    exact ⟨rfl, rfl⟩
  · rw [doF10]; go_enter Try.func8, Try.ntmps8
    go_wp2
    go_ret
    exact ⟨rfl, rfl⟩
/-- 'do' at moves by a number that is not below 0. -/
theorem do_move (op a b : Int) (w : World) (h : op = 6 ∨ op = 7) (h0 : 0 ≤ b) (h1 : b ≤ 9223372036854775807) :
    Calls Try.prog 8 #[.int .i64 op, .int .i64 a, .int .i64 b] w fun e w' => e = .returned (.int .i64 (doF op a b)) ∧ w' = w := by
  rcases h with rfl | rfl
  · rw [doF6]; go_enter Try.func8, Try.ntmps8
    go_wp2
    go_ret
    exact ⟨rfl, rfl⟩
  · rw [doF7]; go_enter Try.func8, Try.ntmps8
    go_wp2
    go_ret
    exact ⟨rfl, rfl⟩
theorem awake_true (w : World) : Calls Try.prog 9 #[] w fun e w' => e = .returned (.bool true) ∧ w' = w := by
  go_enter Try.func9, Try.ntmps9
  go_wp2
  go_ret
  exact ⟨rfl, rfl⟩
/-- 'spot' at 40. -/
theorem spot_any (v : Int) (w : World) (h0 : -9223372036854775808 ≤ v) (h1 : v ≤ 9223372036854775807) :
    Calls Try.prog 11 #[.int .i64 v, .int .i64 40] w fun e w' => e = .returned (.int .i64 (rnd v)) ∧ w' = w := by
  have ht : v.tmod 40 = if 0 ≤ v then v % 40 else - ((-v) % 40) := by
    split
    · rw [Int.tmod_eq_emod_of_nonneg (by assumption)]
    · have := Int.neg_tmod (a := -v) (b := 40); rw [Int.neg_neg] at this; rw [this, Int.tmod_eq_emod_of_nonneg (by omega)]
  by_cases hn : v.tmod 40 < 0
  · have e : v.tmod 40 + 40 = rnd v := by unfold rnd; split at ht <;> omega
    have E : Hid (v.tmod 40 + 40 = rnd v) := e
    have l : -40 ≤ v.tmod 40 := by split at ht <;> omega
    clear ht e
    go_enter Try.func11, Try.ntmps11
    go_wp2
    go_ret
    rw [← E.out]
    exact ⟨rfl, rfl⟩
  · have e : v.tmod 40 = rnd v := by unfold rnd; split at ht <;> omega
    have E : Hid (v.tmod 40 = rnd v) := e
    clear ht e
    go_enter Try.func11, Try.ntmps11
    go_wp2
    go_ret
    rw [← E.out]
    exact ⟨rfl, rfl⟩
/-- word.Do at a move by less than 0. -/
theorem do_less (op a b : Int) (w : World) (h : op = 6 ∨ op = 7) (hb : b < 0) :
    Calls Try.prog 10 #[.int .i64 op, .int .i64 a, .int .i64 b] w fun e w' => e = .returned (.tuple #[.int .i64 0, .int .i64 21]) ∧ w' = w := by
  rcases h with rfl | rfl
  · go_enter Try.func10, Try.ntmps10
    go_wp2
    go_ret2
    exact ⟨rfl, rfl⟩
  · go_enter Try.func10, Try.ntmps10
    go_wp2
    go_ret2
    exact ⟨rfl, rfl⟩
/-- word.Do at a quotient and at what is left. -/
theorem quo_any (a b : Int) (w : World) (h : ¬ b = 0) :
    Calls Try.prog 10 #[.int .i64 4, .int .i64 a, .int .i64 b] w fun e w' => e = .returned (.tuple #[.int .i64 (qF a b), .int .i64 0]) ∧ w' = w := by
  have h' : (b == 0) = false := by simpa using h
  unfold qF
  go_enter Try.func10, Try.ntmps10
  go_wp2
  go_ret2
  exact ⟨rfl, rfl⟩
theorem rem_any (a b : Int) (w : World) (h : ¬ b = 0) :
    Calls Try.prog 10 #[.int .i64 5, .int .i64 a, .int .i64 b] w fun e w' => e = .returned (.tuple #[.int .i64 (rF a b), .int .i64 0]) ∧ w' = w := by
  have h' : (b == 0) = false := by simpa using h
  unfold rF
  go_enter Try.func10, Try.ntmps10
  go_wp2
  go_ret2
  exact ⟨rfl, rfl⟩
/-- Both at once. -/
def drF (op a b : Int) : Int := if op = 4 then qF a b else rF a b
theorem drF4 (a b : Int) : drF 4 a b = qF a b := by simp [drF]
theorem drF5 (a b : Int) : drF 5 a b = rF a b := by simp [drF]
theorem dr_any (op a b : Int) (w : World) (h : ¬ b = 0) (ho : op = 4 ∨ op = 5) :
    Calls Try.prog 10 #[.int .i64 op, .int .i64 a, .int .i64 b] w fun e w' => e = .returned (.tuple #[.int .i64 (drF op a b), .int .i64 0]) ∧ w' = w := by
  rcases ho with rfl | rfl
  · rw [drF4]; exact quo_any a b w h
  · rw [drF5]; exact rem_any a b w h
theorem by_zero (op a : Int) (w : World) (h : op = 4 ∨ op = 5) :
    Calls Try.prog 10 #[.int .i64 op, .int .i64 a, .int .i64 0] w fun e w' => e = .returned (.tuple #[.int .i64 0, .int .i64 20]) ∧ w' = w := by
  rcases h with rfl | rfl
  · go_enter Try.func10, Try.ntmps10
    go_wp2
    go_ret2
    exact ⟨rfl, rfl⟩
  · go_enter Try.func10, Try.ntmps10
    go_wp2
    go_ret2
    exact ⟨rfl, rfl⟩
/-- What 'holds' answers. -/
def holdF (op a b : Int) : Bool :=
  if op = 11 then a == b else if op = 12 then !(a == b) else if op = 13 then decide (a < b)
  else if op = 14 then decide (a ≤ b) else if op = 15 then decide (b < a) else decide (b ≤ a)
set_option maxHeartbeats 1000000 in
theorem holds_any (op a b : Int) (w : World) (h : op = 11 ∨ op = 12 ∨ op = 13 ∨ op = 14 ∨ op = 15 ∨ op = 16) :
    Calls Try.prog 12 #[.int .i64 op, .int .i64 a, .int .i64 b] w fun e w' => e = .returned (.bool (holdF op a b)) ∧ w' = w := by
  have hc : a < b ∨ a = b ∨ b < a := by omega
  rcases hc with hc | rfl | hc
  · have e0 : (a == b) = false := by simp; omega
    have e1 : holdF op a b = if op = 11 then false else if op = 12 then true else if op = 13 then true else if op = 14 then true else if op = 15 then false else false := by
      unfold holdF
      rw [e0, decide_eq_true hc, decide_eq_true (show a ≤ b by omega), decide_eq_false (show ¬ b < a by omega), decide_eq_false (show ¬ b ≤ a by omega)]
      rfl
    rcases h with rfl | rfl | rfl | rfl | rfl | rfl
    all_goals
      rw [e1]
      clear e1
      go_enter Try.func12, Try.ntmps12
      go_wp2
      go_ret
      exact ⟨rfl, rfl⟩
  · have e1 : holdF op a a = if op = 11 then true else if op = 12 then false else if op = 13 then false else if op = 14 then true else if op = 15 then false else true := by
      unfold holdF
      simp
    rcases h with rfl | rfl | rfl | rfl | rfl | rfl
    all_goals
      rw [e1]
      clear e1
      go_enter Try.func12, Try.ntmps12
      go_wp2
      go_ret
      exact ⟨rfl, rfl⟩
  · have e0 : (a == b) = false := by simp; omega
    have e1 : holdF op a b = if op = 11 then false else if op = 12 then true else if op = 13 then false else if op = 14 then false else if op = 15 then true else true := by
      unfold holdF
      rw [e0, decide_eq_true hc, decide_eq_true (show b ≤ a by omega), decide_eq_false (show ¬ a < b by omega), decide_eq_false (show ¬ a ≤ b by omega)]
      rfl
    rcases h with rfl | rfl | rfl | rfl | rfl | rfl
    all_goals
      rw [e1]
      clear e1
      go_enter Try.func12, Try.ntmps12
      go_wp2
      go_ret
      exact ⟨rfl, rfl⟩
end Go.Proofs.Ytopefdcmmmjihab
