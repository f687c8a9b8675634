/- The contracts of the functions that the keeping statements of package word call: 'do' (8), 'awake' (9), 'spot' (11), 'holds' (12). -/
import Derived.Test.YtopefdcmmmjihabRows
import Derived.Test.YtopefdcmmmjihabPlain
import Derived.WalkKit
import Derived.ProofKit
import Derived.OpenShut
namespace Go.Proofs.Ytopefdcmmmjihab
open Go.ChangeShapes Go.WideShapes Go.ChangeAt Go.RowKit

/-- What 'do' answers at the operations that it is asked for. -/
def doF (op a b : Int) : Int :=
  if op = 1 then wrap64 (a + b) else if op = 2 then wrap64 (a - b) else if op = 3 then wrap64 (a * b)
  else if op = 6 then wrap64 (a * 2 ^ min b.toNat 64) else if op = 7 then a / 2 ^ min b.toNat 64
  else if op = 8 then bits .and .i64 a b else if op = 9 then bits .or .i64 a b else bits .xor .i64 a b
theorem doF1 (a b : Int) : doF 1 a b = wrap64 (a + b) := by simp [doF]
theorem doF2 (a b : Int) : doF 2 a b = wrap64 (a - b) := by simp [doF]
theorem doF3 (a b : Int) : doF 3 a b = wrap64 (a * b) := by simp [doF]
theorem doF6 (a b : Int) : doF 6 a b = wrap64 (a * 2 ^ min b.toNat 64) := by simp [doF]
theorem doF7 (a b : Int) : doF 7 a b = a / 2 ^ min b.toNat 64 := by simp [doF]
theorem doF8 (a b : Int) : doF 8 a b = bits .and .i64 a b := by simp [doF]
theorem doF9 (a b : Int) : doF 9 a b = bits .or .i64 a b := by simp [doF]
theorem doF10 (a b : Int) : doF 10 a b = bits .xor .i64 a b := by simp [doF]

/-- 'do' at sums, differences, products and bits. -/
theorem do_any (op a b : Int) (w : World) (h : op = 1 ∨ op = 2 ∨ op = 3 ∨ op = 8 ∨ op = 9 ∨ op = 10) :
    Calls Try.prog 8 #[.int .i64 op, .int .i64 a, .int .i64 b] w fun e w' => e = .returned (.int .i64 (doF op a b)) ∧ w' = w := by
  rcases h with rfl | rfl | rfl | rfl | rfl | rfl
  · rw [doF1]; go_enter Try.func8, Try.ntmps8
    go_wp2
    go_ret
    exact ⟨rfl, rfl⟩
  · rw [doF2]; go_enter Try.func8, Try.ntmps8
    go_wp2
    go_ret
    exact ⟨rfl, rfl⟩
  · rw [doF3]; go_enter Try.func8, Try.ntmps8
    go_wp2
    go_ret
    exact ⟨rfl, rfl⟩
  · rw [doF8]; go_enter Try.func8, Try.ntmps8
    go_wp2
    go_ret
    exact ⟨rfl, rfl⟩
  · rw [doF9]; go_enter Try.func8, Try.ntmps8
    go_wp2
    go_ret
    exact ⟨rfl, rfl⟩
  · rw [doF10]; go_enter Try.func8, Try.ntmps8
    go_wp2
    go_ret
    exact ⟨rfl, rfl⟩
/-- 'do' at moves by a number that is not below 0. -/
theorem do_move (op a b : Int) (w : World) (h : op = 6 ∨ op = 7) (h0 : 0 ≤ b) (h1 : b ≤ 9223372036854775807) :
    Calls Try.prog 8 #[.int .i64 op, .int .i64 a, .int .i64 b] w fun e w' => e = .returned (.int .i64 (doF op a b)) ∧ w' = w := by
  rcases h with rfl | rfl
  · rw [doF6]; go_enter Try.func8, Try.ntmps8
    go_wp2
    go_ret
    exact ⟨rfl, rfl⟩
  · rw [doF7]; go_enter Try.func8, Try.ntmps8
    go_wp2
    go_ret
    exact ⟨rfl, rfl⟩
theorem awake_true (w : World) : Calls Try.prog 9 #[] w fun e w' => e = .returned (.bool true) ∧ w' = w := by
  go_enter Try.func9, Try.ntmps9
  go_wp2
  go_ret
  exact ⟨rfl, rfl⟩
/-- 'spot' at 40. -/
theorem spot_any (v : Int) (w : World) (h0 : -9223372036854775808 ≤ v) (h1 : v ≤ 9223372036854775807) :
    Calls Try.prog 11 #[.int .i64 v, .int .i64 40] w fun e w' => e = .returned (.int .i64 (rnd v)) ∧ w' = w := by
  have ht : v.tmod 40 = if 0 ≤ v then v % 40 else - ((-v) % 40) := by
    split
    · rw [Int.tmod_eq_emod_of_nonneg (by assumption)]
    · have := Int.neg_tmod (a := -v) (b := 40); rw [Int.neg_neg] at this; rw [this, Int.tmod_eq_emod_of_nonneg (by omega)]
  by_cases hn : v.tmod 40 < 0
  · have e : v.tmod 40 + 40 = rnd v := by unfold rnd; split at ht <;> omega
    have E : Hid (v.tmod 40 + 40 = rnd v) := e
    have l : -40 ≤ v.tmod 40 := by split at ht <;> omega
    clear ht e
    go_enter Try.func11, Try.ntmps11
    go_wp2
    go_ret
    rw [← E.out]
    exact ⟨rfl, rfl⟩
  · have e : v.tmod 40 = rnd v := by unfold rnd; split at ht <;> omega
    have E : Hid (v.tmod 40 = rnd v) := e
    clear ht e
    go_enter Try.func11, Try.ntmps11
    go_wp2
    go_ret
    rw [← E.out]
    exact ⟨rfl, rfl⟩
/-- word.Do at a move by less than 0. -/
theorem do_less (op a b : Int) (w : World) (h : op = 6 ∨ op = 7) (hb : b < 0) :
    Calls Try.prog 10 #[.int .i64 op, .int .i64 a, .int .i64 b] w fun e w' => e = .returned (.tuple #[.int .i64 0, .int .i64 21]) ∧ w' = w := by
  rcases h with rfl | rfl
  · go_enter Try.func10, Try.ntmps10
    go_wp2
    go_ret2
    exact ⟨rfl, rfl⟩
  · go_enter Try.func10, Try.ntmps10
    go_wp2
    go_ret2
    exact ⟨rfl, rfl⟩
end Go.Proofs.Ytopefdcmmmjihab
