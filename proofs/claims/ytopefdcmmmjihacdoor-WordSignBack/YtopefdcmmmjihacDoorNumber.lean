/- What word.Number and panicroadref.Number answer, for every text. -/
import Derived.Test.YtopefdcmmmjihacDoorSign
import Derived.Laws.Rows
namespace Go.Proofs.YtopefdcmmmjihacDoor
open Go.ChangeShapes Go.WideShapes Go.ChangeAt Go.RowKit

/-- The table as one array value. -/
def signCells : Array Value := #[.string ⟨#[43]⟩, .string ⟨#[45]⟩, .string ⟨#[42]⟩, .string ⟨#[47]⟩, .string ⟨#[37]⟩, .string ⟨#[60, 60]⟩, .string ⟨#[62, 62]⟩, .string ⟨#[38]⟩, .string ⟨#[124]⟩, .string ⟨#[94]⟩, .string ⟨#[61, 61]⟩, .string ⟨#[33, 61]⟩, .string ⟨#[60]⟩, .string ⟨#[60, 61]⟩, .string ⟨#[62]⟩, .string ⟨#[62, 61]⟩]
/-- The package's table, as a block. -/
def SignBlock (w : World) : Prop := ∃ t fr, w.heap[0]? = some (.cells signCells t fr)

/-- The first place among the signs where a text stands; 16 where it doesn't. -/
def numK (s : ByteArray) : Nat := signsL.findIdx fun t => t.toList == s.toList
def numN (s : ByteArray) : Int := if numK s < 16 then (numK s : Int) + 1 else 0
def numE (s : ByteArray) : Int := if numK s < 16 then 0 else 16
theorem numK_le (s : ByteArray) : numK s ≤ 16 := List.findIdx_le_length
theorem sign_get (k : Nat) (h : k < signsL.length) : signsL[k] = signAt k := by
  unfold signAt
  rw [List.getD_eq_getElem?_getD, List.getElem?_eq_getElem h]
  rfl
theorem numK_at (s : ByteArray) (h : numK s < 16) : ((signAt (numK s)).toList == s.toList) = true := by
  have := List.findIdx_getElem (p := fun t : ByteArray => t.toList == s.toList) (w := (show List.findIdx (fun t : ByteArray => t.toList == s.toList) signsL < signsL.length from h))
  rw [← sign_get _ h]
  exact this
theorem numK_not (s : ByteArray) (k : Nat) (h : k < numK s) : ((signAt k).toList == s.toList) = false := by
  have h16 : k < 16 := Nat.lt_of_lt_of_le h (numK_le s)
  have := List.not_of_lt_findIdx (p := fun t : ByteArray => t.toList == s.toList) (xs := signsL) h
  rw [← sign_get k (show k < signsL.length from h16)]
  simpa using this

theorem sign_index (k : Nat) (h : k < 16) (w : World) : (Instr.index 34 (.agg signCells) (.int .i64 k)).run Tryd.prog w = .ok (.string (signAt k)) w := by
  rcases (show k = 0 ∨ k = 1 ∨ k = 2 ∨ k = 3 ∨ k = 4 ∨ k = 5 ∨ k = 6 ∨ k = 7 ∨ k = 8 ∨ k = 9 ∨ k = 10 ∨ k = 11 ∨ k = 12 ∨ k = 13 ∨ k = 14 ∨ k = 15 by omega) with rfl | rfl | rfl | rfl | rfl | rfl | rfl | rfl | rfl | rfl | rfl | rfl | rfl | rfl | rfl | rfl
  all_goals kernel_rfl

set_option maxHeartbeats 800000 in
theorem own_number (s : ByteArray) (w : World) (ht : SignBlock w) :
    Calls Tryd.prog 9 #[.string s] w fun e w' => e = .returned (.tuple #[.int .i64 (numN s), .int .i64 (numE s)]) ∧ w' = w := by
  obtain ⟨tt, fr, hg⟩ := ht
  have HN : Hid (∀ k, k < numK s → ((signAt k).toList == s.toList) = false) := numK_not s
  have HA : Hid (numK s < 16 → ((signAt (numK s)).toList == s.toList) = true) := numK_at s
  have hle := numK_le s
  have EN : Hid (numN s = if numK s < 16 then (numK s : Int) + 1 else 0) := rfl
  have EE : Hid (numE s = if numK s < 16 then 0 else 16) := rfl
  generalize numN s = rn at *
  generalize numE s = re at *
  generalize numK s = m at *
  go_enter Tryd.func9, Tryd.ntmps9
  go_wp2_with (refine wpList_load_row rfl 34 _ rfl 0 rfl tt _ fr _ hg Tryd.underlying34 rfl (by kernel_rfl) ?_)
  go_loop [7] (fun i => ∃ k : Nat, k ≤ m ∧ i = .int .i64 k) (fun i => 16 - (intOf i).toNat)
  case atStart => exact ⟨0, Nat.zero_le _, rfl⟩
  case round =>
    obtain ⟨k, hk, rfl⟩ := hrel
    by_cases h16 : k < 16
    · have hx := sign_index k h16
      by_cases hm : k < m
      · have hb := HN.out k hm
        go_wp2
        go_round
        case rel => exact ⟨k + 1, by omega, by go_num⟩
        case measure => simp [intOf]; omega
      · obtain rfl : k = m := by omega
        have hb := HA.out h16
        go_wp2
        go_ret2
        exact ⟨by rw [EN.out, EE.out, if_pos h16, if_pos h16]; rfl, rfl⟩
    · obtain rfl : k = 16 := by omega
      obtain rfl : m = 16 := by omega
      go_wp2
      go_ret2
      exact ⟨by rw [EN.out, EE.out]; rfl, rfl⟩
end Go.Proofs.YtopefdcmmmjihacDoor
