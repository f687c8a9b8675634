/- What parse.tightness answers. -/
import Derived.Test.YtpdndpajobfhmabGreatDoorPrs2
namespace Go.Proofs.YtpdndpajobfhmabGreatDoor
open Go.ChangeShapes Go.WideShapes Go.ChangeAt Go.RowKit
set_option maxRecDepth 100000
set_option linter.unusedSimpArgs false

def tightL : List (List UInt8 × Nat) := [([124, 124], 1), ([38, 38], 2), ([61, 61], 3), ([33, 61], 3), ([60], 3), ([60, 61], 3), ([62], 3), ([62, 61], 3), ([43], 4), ([45], 4), ([124], 4), ([94], 4), ([42], 5), ([47], 5), ([37], 5), ([60, 60], 5), ([62, 62], 5), ([38], 5)]
/-- How tightly a sign binds. -/
def tightN (s : ByteArray) : Nat := match tightL.find? (fun x => s.toList == x.1) with | some x => x.2 | none => 0
theorem tight_le (s : ByteArray) : tightN s ≤ 5 := by
  unfold tightN
  cases h : tightL.find? (fun x => s.toList == x.1) with
  | none => simp
  | some x =>
    have hm := List.mem_of_find?_eq_some h
    have key : ∀ x ∈ tightL, x.2 ≤ 5 := by decide
    exact key x hm
set_option maxHeartbeats 4000000 in
theorem own_tight (s : ByteArray) (w : World) : Calls Tryz.prog 40 #[.string s] w fun e w' => e = .returned (.int .i64 (tightN s)) ∧ w' = w := by
  by_cases h0 : (s.toList == [124, 124]) = true
  · have e : tightN s = 1 := by unfold tightN tightL; simp only [List.find?, h0]
    rw [e]; clear e
    go_enter Tryz.func40, Tryz.ntmps40
    go_wp2
    go_ret
    exact ⟨rfl, rfl⟩
  have g0 : (s.toList == [124, 124]) = false := by simpa using h0
  clear h0
  by_cases h1 : (s.toList == [38, 38]) = true
  · have e : tightN s = 2 := by unfold tightN tightL; simp only [List.find?, g0, h1]
    rw [e]; clear e
    go_enter Tryz.func40, Tryz.ntmps40
    go_wp2
    go_ret
    exact ⟨rfl, rfl⟩
  have g1 : (s.toList == [38, 38]) = false := by simpa using h1
  clear h1
  by_cases h2 : (s.toList == [61, 61]) = true
  · have e : tightN s = 3 := by unfold tightN tightL; simp only [List.find?, g0, g1, h2]
    rw [e]; clear e
    go_enter Tryz.func40, Tryz.ntmps40
    go_wp2
    go_ret
    exact ⟨rfl, rfl⟩
  have g2 : (s.toList == [61, 61]) = false := by simpa using h2
  clear h2
  by_cases h3 : (s.toList == [33, 61]) = true
  · have e : tightN s = 3 := by unfold tightN tightL; simp only [List.find?, g0, g1, g2, h3]
    rw [e]; clear e
    go_enter Tryz.func40, Tryz.ntmps40
    go_wp2
    go_ret
    exact ⟨rfl, rfl⟩
  have g3 : (s.toList == [33, 61]) = false := by simpa using h3
  clear h3
  by_cases h4 : (s.toList == [60]) = true
  · have e : tightN s = 3 := by unfold tightN tightL; simp only [List.find?, g0, g1, g2, g3, h4]
    rw [e]; clear e
    go_enter Tryz.func40, Tryz.ntmps40
    go_wp2
    go_ret
    exact ⟨rfl, rfl⟩
  have g4 : (s.toList == [60]) = false := by simpa using h4
  clear h4
  by_cases h5 : (s.toList == [60, 61]) = true
  · have e : tightN s = 3 := by unfold tightN tightL; simp only [List.find?, g0, g1, g2, g3, g4, h5]
    rw [e]; clear e
    go_enter Tryz.func40, Tryz.ntmps40
    go_wp2
    go_ret
    exact ⟨rfl, rfl⟩
  have g5 : (s.toList == [60, 61]) = false := by simpa using h5
  clear h5
  by_cases h6 : (s.toList == [62]) = true
  · have e : tightN s = 3 := by unfold tightN tightL; simp only [List.find?, g0, g1, g2, g3, g4, g5, h6]
    rw [e]; clear e
    go_enter Tryz.func40, Tryz.ntmps40
    go_wp2
    go_ret
    exact ⟨rfl, rfl⟩
  have g6 : (s.toList == [62]) = false := by simpa using h6
  clear h6
  by_cases h7 : (s.toList == [62, 61]) = true
  · have e : tightN s = 3 := by unfold tightN tightL; simp only [List.find?, g0, g1, g2, g3, g4, g5, g6, h7]
    rw [e]; clear e
    go_enter Tryz.func40, Tryz.ntmps40
    go_wp2
    go_ret
    exact ⟨rfl, rfl⟩
  have g7 : (s.toList == [62, 61]) = false := by simpa using h7
  clear h7
  by_cases h8 : (s.toList == [43]) = true
  · have e : tightN s = 4 := by unfold tightN tightL; simp only [List.find?, g0, g1, g2, g3, g4, g5, g6, g7, h8]
    rw [e]; clear e
    go_enter Tryz.func40, Tryz.ntmps40
    go_wp2
    go_ret
    exact ⟨rfl, rfl⟩
  have g8 : (s.toList == [43]) = false := by simpa using h8
  clear h8
  by_cases h9 : (s.toList == [45]) = true
  · have e : tightN s = 4 := by unfold tightN tightL; simp only [List.find?, g0, g1, g2, g3, g4, g5, g6, g7, g8, h9]
    rw [e]; clear e
    go_enter Tryz.func40, Tryz.ntmps40
    go_wp2
    go_ret
    exact ⟨rfl, rfl⟩
  have g9 : (s.toList == [45]) = false := by simpa using h9
  clear h9
  by_cases h10 : (s.toList == [124]) = true
  · have e : tightN s = 4 := by unfold tightN tightL; simp only [List.find?, g0, g1, g2, g3, g4, g5, g6, g7, g8, g9, h10]
    rw [e]; clear e
    go_enter Tryz.func40, Tryz.ntmps40
    go_wp2
    go_ret
    exact ⟨rfl, rfl⟩
  have g10 : (s.toList == [124]) = false := by simpa using h10
  clear h10
  by_cases h11 : (s.toList == [94]) = true
  · have e : tightN s = 4 := by unfold tightN tightL; simp only [List.find?, g0, g1, g2, g3, g4, g5, g6, g7, g8, g9, g10, h11]
    rw [e]; clear e
    go_enter Tryz.func40, Tryz.ntmps40
    go_wp2
    go_ret
    exact ⟨rfl, rfl⟩
  have g11 : (s.toList == [94]) = false := by simpa using h11
  clear h11
  by_cases h12 : (s.toList == [42]) = true
  · have e : tightN s = 5 := by unfold tightN tightL; simp only [List.find?, g0, g1, g2, g3, g4, g5, g6, g7, g8, g9, g10, g11, h12]
    rw [e]; clear e
    go_enter Tryz.func40, Tryz.ntmps40
    go_wp2
    go_ret
    exact ⟨rfl, rfl⟩
  have g12 : (s.toList == [42]) = false := by simpa using h12
  clear h12
  by_cases h13 : (s.toList == [47]) = true
  · have e : tightN s = 5 := by unfold tightN tightL; simp only [List.find?, g0, g1, g2, g3, g4, g5, g6, g7, g8, g9, g10, g11, g12, h13]
    rw [e]; clear e
    go_enter Tryz.func40, Tryz.ntmps40
    go_wp2
    go_ret
    exact ⟨rfl, rfl⟩
  have g13 : (s.toList == [47]) = false := by simpa using h13
  clear h13
  by_cases h14 : (s.toList == [37]) = true
  · have e : tightN s = 5 := by unfold tightN tightL; simp only [List.find?, g0, g1, g2, g3, g4, g5, g6, g7, g8, g9, g10, g11, g12, g13, h14]
    rw [e]; clear e
    go_enter Tryz.func40, Tryz.ntmps40
    go_wp2
    go_ret
    exact ⟨rfl, rfl⟩
  have g14 : (s.toList == [37]) = false := by simpa using h14
  clear h14
  by_cases h15 : (s.toList == [60, 60]) = true
  · have e : tightN s = 5 := by unfold tightN tightL; simp only [List.find?, g0, g1, g2, g3, g4, g5, g6, g7, g8, g9, g10, g11, g12, g13, g14, h15]
    rw [e]; clear e
    go_enter Tryz.func40, Tryz.ntmps40
    go_wp2
    go_ret
    exact ⟨rfl, rfl⟩
  have g15 : (s.toList == [60, 60]) = false := by simpa using h15
  clear h15
  by_cases h16 : (s.toList == [62, 62]) = true
  · have e : tightN s = 5 := by unfold tightN tightL; simp only [List.find?, g0, g1, g2, g3, g4, g5, g6, g7, g8, g9, g10, g11, g12, g13, g14, g15, h16]
    rw [e]; clear e
    go_enter Tryz.func40, Tryz.ntmps40
    go_wp2
    go_ret
    exact ⟨rfl, rfl⟩
  have g16 : (s.toList == [62, 62]) = false := by simpa using h16
  clear h16
  by_cases h17 : (s.toList == [38]) = true
  · have e : tightN s = 5 := by unfold tightN tightL; simp only [List.find?, g0, g1, g2, g3, g4, g5, g6, g7, g8, g9, g10, g11, g12, g13, g14, g15, g16, h17]
    rw [e]; clear e
    go_enter Tryz.func40, Tryz.ntmps40
    go_wp2
    go_ret
    exact ⟨rfl, rfl⟩
  have g17 : (s.toList == [38]) = false := by simpa using h17
  clear h17
  have e : tightN s = 0 := by unfold tightN tightL; simp only [List.find?, g0, g1, g2, g3, g4, g5, g6, g7, g8, g9, g10, g11, g12, g13, g14, g15, g16, g17]
  rw [e]; clear e
  go_enter Tryz.func40, Tryz.ntmps40
  go_wp2
  go_ret
  exact ⟨rfl, rfl⟩
end Go.Proofs.YtpdndpajobfhmabGreatDoor
