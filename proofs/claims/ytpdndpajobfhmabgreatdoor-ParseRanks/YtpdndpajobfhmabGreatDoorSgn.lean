/- What scan.isSign answers; the signs. -/
import Derived.Test.YtpdndpajobfhmabGreatDoorWords
namespace Go.Proofs.YtpdndpajobfhmabGreatDoor
open Go.ChangeShapes Go.WideShapes Go.ChangeAt Go.RowKit
set_option linter.unusedSimpArgs false
set_option maxRecDepth 100000

/-- The signs of the language. -/
def sgnL : List ByteArray := [⟨#[43]⟩, ⟨#[45]⟩, ⟨#[42]⟩, ⟨#[47]⟩, ⟨#[37]⟩, ⟨#[38]⟩, ⟨#[124]⟩, ⟨#[94]⟩, ⟨#[60, 60]⟩, ⟨#[62, 62]⟩, ⟨#[38, 38]⟩, ⟨#[124, 124]⟩, ⟨#[61, 61]⟩, ⟨#[33, 61]⟩, ⟨#[60]⟩, ⟨#[60, 61]⟩, ⟨#[62]⟩, ⟨#[62, 61]⟩, ⟨#[61]⟩, ⟨#[58, 61]⟩, ⟨#[40]⟩, ⟨#[41]⟩, ⟨#[123]⟩, ⟨#[125]⟩, ⟨#[91]⟩, ⟨#[93]⟩, ⟨#[44]⟩, ⟨#[58]⟩, ⟨#[33]⟩]
def sgnText : ByteArray := ⟨#[43, 32, 45, 32, 42, 32, 47, 32, 37, 32, 38, 32, 124, 32, 94, 32, 60, 60, 32, 62, 62, 32, 38, 38, 32, 124, 124, 32, 61, 61, 32, 33, 61, 32, 60, 32, 60, 61, 32, 62, 32, 62, 61, 32, 61, 32, 58, 61, 32, 40, 32, 41, 32, 123, 32, 125, 32, 91, 32, 93, 32, 44, 32, 58, 32, 33]⟩
theorem sgn_cut : (cutSt sgnText 32 (sgnText.size + 1)).1 = sgnL := by kernel_rfl
/-- Is a text one of them? -/
def sgnB (s : ByteArray) : Bool := sgnL.any fun t => s.toList == t.toList
theorem sgnB_of {s : ByteArray} : sgnB s = (s.toList == [43] || (s.toList == [45] || (s.toList == [42] || (s.toList == [47] || (s.toList == [37] || (s.toList == [38] || (s.toList == [124] || (s.toList == [94] || (s.toList == [60, 60] || (s.toList == [62, 62] || (s.toList == [38, 38] || (s.toList == [124, 124] || (s.toList == [61, 61] || (s.toList == [33, 61] || (s.toList == [60] || (s.toList == [60, 61] || (s.toList == [62] || (s.toList == [62, 61] || (s.toList == [61] || (s.toList == [58, 61] || (s.toList == [40] || (s.toList == [41] || (s.toList == [123] || (s.toList == [125] || (s.toList == [91] || (s.toList == [93] || (s.toList == [44] || (s.toList == [58] || (s.toList == [33]))))))))))))))))))))))))))))) := by
  simp only [sgnB, sgnL, List.any_cons, List.any_nil, bl, Bool.or_false]

set_option maxHeartbeats 4000000 in
theorem own_sgn (s : ByteArray) (w : World) :
    Calls Tryz.prog 103 #[.string s] w fun e w' => e = .returned (.bool (sgnB s)) ∧ w' = w := by
  by_cases h0 : (s.toList == [43]) = true
  · have e : sgnB s = true := by rw [sgnB_of]; simp only [h0, Bool.true_or, Bool.or_true, Bool.or_false, Bool.false_or]
    rw [e]; clear e
    go_enter Tryz.func103, Tryz.ntmps103
    go_wp2
    go_ret
    exact ⟨rfl, rfl⟩
  have g0 : (s.toList == [43]) = false := by simpa using h0
  clear h0
  by_cases h1 : (s.toList == [45]) = true
  · have e : sgnB s = true := by rw [sgnB_of]; simp only [g0, h1, Bool.true_or, Bool.or_true, Bool.or_false, Bool.false_or]
    rw [e]; clear e
    go_enter Tryz.func103, Tryz.ntmps103
    go_wp2
    go_ret
    exact ⟨rfl, rfl⟩
  have g1 : (s.toList == [45]) = false := by simpa using h1
  clear h1
  by_cases h2 : (s.toList == [42]) = true
  · have e : sgnB s = true := by rw [sgnB_of]; simp only [g0, g1, h2, Bool.true_or, Bool.or_true, Bool.or_false, Bool.false_or]
    rw [e]; clear e
    go_enter Tryz.func103, Tryz.ntmps103
    go_wp2
    go_ret
    exact ⟨rfl, rfl⟩
  have g2 : (s.toList == [42]) = false := by simpa using h2
  clear h2
  by_cases h3 : (s.toList == [47]) = true
  · have e : sgnB s = true := by rw [sgnB_of]; simp only [g0, g1, g2, h3, Bool.true_or, Bool.or_true, Bool.or_false, Bool.false_or]
    rw [e]; clear e
    go_enter Tryz.func103, Tryz.ntmps103
    go_wp2
    go_ret
    exact ⟨rfl, rfl⟩
  have g3 : (s.toList == [47]) = false := by simpa using h3
  clear h3
  by_cases h4 : (s.toList == [37]) = true
  · have e : sgnB s = true := by rw [sgnB_of]; simp only [g0, g1, g2, g3, h4, Bool.true_or, Bool.or_true, Bool.or_false, Bool.false_or]
    rw [e]; clear e
    go_enter Tryz.func103, Tryz.ntmps103
    go_wp2
    go_ret
    exact ⟨rfl, rfl⟩
  have g4 : (s.toList == [37]) = false := by simpa using h4
  clear h4
  by_cases h5 : (s.toList == [38]) = true
  · have e : sgnB s = true := by rw [sgnB_of]; simp only [g0, g1, g2, g3, g4, h5, Bool.true_or, Bool.or_true, Bool.or_false, Bool.false_or]
    rw [e]; clear e
    go_enter Tryz.func103, Tryz.ntmps103
    go_wp2
    go_ret
    exact ⟨rfl, rfl⟩
  have g5 : (s.toList == [38]) = false := by simpa using h5
  clear h5
  by_cases h6 : (s.toList == [124]) = true
  · have e : sgnB s = true := by rw [sgnB_of]; simp only [g0, g1, g2, g3, g4, g5, h6, Bool.true_or, Bool.or_true, Bool.or_false, Bool.false_or]
    rw [e]; clear e
    go_enter Tryz.func103, Tryz.ntmps103
    go_wp2
    go_ret
    exact ⟨rfl, rfl⟩
  have g6 : (s.toList == [124]) = false := by simpa using h6
  clear h6
  by_cases h7 : (s.toList == [94]) = true
  · have e : sgnB s = true := by rw [sgnB_of]; simp only [g0, g1, g2, g3, g4, g5, g6, h7, Bool.true_or, Bool.or_true, Bool.or_false, Bool.false_or]
    rw [e]; clear e
    go_enter Tryz.func103, Tryz.ntmps103
    go_wp2
    go_ret
    exact ⟨rfl, rfl⟩
  have g7 : (s.toList == [94]) = false := by simpa using h7
  clear h7
  by_cases h8 : (s.toList == [60, 60]) = true
  · have e : sgnB s = true := by rw [sgnB_of]; simp only [g0, g1, g2, g3, g4, g5, g6, g7, h8, Bool.true_or, Bool.or_true, Bool.or_false, Bool.false_or]
    rw [e]; clear e
    go_enter Tryz.func103, Tryz.ntmps103
    go_wp2
    go_ret
    exact ⟨rfl, rfl⟩
  have g8 : (s.toList == [60, 60]) = false := by simpa using h8
  clear h8
  by_cases h9 : (s.toList == [62, 62]) = true
  · have e : sgnB s = true := by rw [sgnB_of]; simp only [g0, g1, g2, g3, g4, g5, g6, g7, g8, h9, Bool.true_or, Bool.or_true, Bool.or_false, Bool.false_or]
    rw [e]; clear e
    go_enter Tryz.func103, Tryz.ntmps103
    go_wp2
    go_ret
    exact ⟨rfl, rfl⟩
  have g9 : (s.toList == [62, 62]) = false := by simpa using h9
  clear h9
  by_cases h10 : (s.toList == [38, 38]) = true
  · have e : sgnB s = true := by rw [sgnB_of]; simp only [g0, g1, g2, g3, g4, g5, g6, g7, g8, g9, h10, Bool.true_or, Bool.or_true, Bool.or_false, Bool.false_or]
    rw [e]; clear e
    go_enter Tryz.func103, Tryz.ntmps103
    go_wp2
    go_ret
    exact ⟨rfl, rfl⟩
  have g10 : (s.toList == [38, 38]) = false := by simpa using h10
  clear h10
  by_cases h11 : (s.toList == [124, 124]) = true
  · have e : sgnB s = true := by rw [sgnB_of]; simp only [g0, g1, g2, g3, g4, g5, g6, g7, g8, g9, g10, h11, Bool.true_or, Bool.or_true, Bool.or_false, Bool.false_or]
    rw [e]; clear e
    go_enter Tryz.func103, Tryz.ntmps103
    go_wp2
    go_ret
    exact ⟨rfl, rfl⟩
  have g11 : (s.toList == [124, 124]) = false := by simpa using h11
  clear h11
  by_cases h12 : (s.toList == [61, 61]) = true
  · have e : sgnB s = true := by rw [sgnB_of]; simp only [g0, g1, g2, g3, g4, g5, g6, g7, g8, g9, g10, g11, h12, Bool.true_or, Bool.or_true, Bool.or_false, Bool.false_or]
    rw [e]; clear e
    go_enter Tryz.func103, Tryz.ntmps103
    go_wp2
    go_ret
    exact ⟨rfl, rfl⟩
  have g12 : (s.toList == [61, 61]) = false := by simpa using h12
  clear h12
  by_cases h13 : (s.toList == [33, 61]) = true
  · have e : sgnB s = true := by rw [sgnB_of]; simp only [g0, g1, g2, g3, g4, g5, g6, g7, g8, g9, g10, g11, g12, h13, Bool.true_or, Bool.or_true, Bool.or_false, Bool.false_or]
    rw [e]; clear e
    go_enter Tryz.func103, Tryz.ntmps103
    go_wp2
    go_ret
    exact ⟨rfl, rfl⟩
  have g13 : (s.toList == [33, 61]) = false := by simpa using h13
  clear h13
  by_cases h14 : (s.toList == [60]) = true
  · have e : sgnB s = true := by rw [sgnB_of]; simp only [g0, g1, g2, g3, g4, g5, g6, g7, g8, g9, g10, g11, g12, g13, h14, Bool.true_or, Bool.or_true, Bool.or_false, Bool.false_or]
    rw [e]; clear e
    go_enter Tryz.func103, Tryz.ntmps103
    go_wp2
    go_ret
    exact ⟨rfl, rfl⟩
  have g14 : (s.toList == [60]) = false := by simpa using h14
  clear h14
  by_cases h15 : (s.toList == [60, 61]) = true
  · have e : sgnB s = true := by rw [sgnB_of]; simp only [g0, g1, g2, g3, g4, g5, g6, g7, g8, g9, g10, g11, g12, g13, g14, h15, Bool.true_or, Bool.or_true, Bool.or_false, Bool.false_or]
    rw [e]; clear e
    go_enter Tryz.func103, Tryz.ntmps103
    go_wp2
    go_ret
    exact ⟨rfl, rfl⟩
  have g15 : (s.toList == [60, 61]) = false := by simpa using h15
  clear h15
  by_cases h16 : (s.toList == [62]) = true
  · have e : sgnB s = true := by rw [sgnB_of]; simp only [g0, g1, g2, g3, g4, g5, g6, g7, g8, g9, g10, g11, g12, g13, g14, g15, h16, Bool.true_or, Bool.or_true, Bool.or_false, Bool.false_or]
    rw [e]; clear e
    go_enter Tryz.func103, Tryz.ntmps103
    go_wp2
    go_ret
    exact ⟨rfl, rfl⟩
  have g16 : (s.toList == [62]) = false := by simpa using h16
  clear h16
  by_cases h17 : (s.toList == [62, 61]) = true
  · have e : sgnB s = true := by rw [sgnB_of]; simp only [g0, g1, g2, g3, g4, g5, g6, g7, g8, g9, g10, g11, g12, g13, g14, g15, g16, h17, Bool.true_or, Bool.or_true, Bool.or_false, Bool.false_or]
    rw [e]; clear e
    go_enter Tryz.func103, Tryz.ntmps103
    go_wp2
    go_ret
    exact ⟨rfl, rfl⟩
  have g17 : (s.toList == [62, 61]) = false := by simpa using h17
  clear h17
  by_cases h18 : (s.toList == [61]) = true
  · have e : sgnB s = true := by rw [sgnB_of]; simp only [g0, g1, g2, g3, g4, g5, g6, g7, g8, g9, g10, g11, g12, g13, g14, g15, g16, g17, h18, Bool.true_or, Bool.or_true, Bool.or_false, Bool.false_or]
    rw [e]; clear e
    go_enter Tryz.func103, Tryz.ntmps103
    go_wp2
    go_ret
    exact ⟨rfl, rfl⟩
  have g18 : (s.toList == [61]) = false := by simpa using h18
  clear h18
  by_cases h19 : (s.toList == [58, 61]) = true
  · have e : sgnB s = true := by rw [sgnB_of]; simp only [g0, g1, g2, g3, g4, g5, g6, g7, g8, g9, g10, g11, g12, g13, g14, g15, g16, g17, g18, h19, Bool.true_or, Bool.or_true, Bool.or_false, Bool.false_or]
    rw [e]; clear e
    go_enter Tryz.func103, Tryz.ntmps103
    go_wp2
    go_ret
    exact ⟨rfl, rfl⟩
  have g19 : (s.toList == [58, 61]) = false := by simpa using h19
  clear h19
  by_cases h20 : (s.toList == [40]) = true
  · have e : sgnB s = true := by rw [sgnB_of]; simp only [g0, g1, g2, g3, g4, g5, g6, g7, g8, g9, g10, g11, g12, g13, g14, g15, g16, g17, g18, g19, h20, Bool.true_or, Bool.or_true, Bool.or_false, Bool.false_or]
    rw [e]; clear e
    go_enter Tryz.func103, Tryz.ntmps103
    go_wp2
    go_ret
    exact ⟨rfl, rfl⟩
  have g20 : (s.toList == [40]) = false := by simpa using h20
  clear h20
  by_cases h21 : (s.toList == [41]) = true
  · have e : sgnB s = true := by rw [sgnB_of]; simp only [g0, g1, g2, g3, g4, g5, g6, g7, g8, g9, g10, g11, g12, g13, g14, g15, g16, g17, g18, g19, g20, h21, Bool.true_or, Bool.or_true, Bool.or_false, Bool.false_or]
    rw [e]; clear e
    go_enter Tryz.func103, Tryz.ntmps103
    go_wp2
    go_ret
    exact ⟨rfl, rfl⟩
  have g21 : (s.toList == [41]) = false := by simpa using h21
  clear h21
  by_cases h22 : (s.toList == [123]) = true
  · have e : sgnB s = true := by rw [sgnB_of]; simp only [g0, g1, g2, g3, g4, g5, g6, g7, g8, g9, g10, g11, g12, g13, g14, g15, g16, g17, g18, g19, g20, g21, h22, Bool.true_or, Bool.or_true, Bool.or_false, Bool.false_or]
    rw [e]; clear e
    go_enter Tryz.func103, Tryz.ntmps103
    go_wp2
    go_ret
    exact ⟨rfl, rfl⟩
  have g22 : (s.toList == [123]) = false := by simpa using h22
  clear h22
  by_cases h23 : (s.toList == [125]) = true
  · have e : sgnB s = true := by rw [sgnB_of]; simp only [g0, g1, g2, g3, g4, g5, g6, g7, g8, g9, g10, g11, g12, g13, g14, g15, g16, g17, g18, g19, g20, g21, g22, h23, Bool.true_or, Bool.or_true, Bool.or_false, Bool.false_or]
    rw [e]; clear e
    go_enter Tryz.func103, Tryz.ntmps103
    go_wp2
    go_ret
    exact ⟨rfl, rfl⟩
  have g23 : (s.toList == [125]) = false := by simpa using h23
  clear h23
  by_cases h24 : (s.toList == [91]) = true
  · have e : sgnB s = true := by rw [sgnB_of]; simp only [g0, g1, g2, g3, g4, g5, g6, g7, g8, g9, g10, g11, g12, g13, g14, g15, g16, g17, g18, g19, g20, g21, g22, g23, h24, Bool.true_or, Bool.or_true, Bool.or_false, Bool.false_or]
    rw [e]; clear e
    go_enter Tryz.func103, Tryz.ntmps103
    go_wp2
    go_ret
    exact ⟨rfl, rfl⟩
  have g24 : (s.toList == [91]) = false := by simpa using h24
  clear h24
  by_cases h25 : (s.toList == [93]) = true
  · have e : sgnB s = true := by rw [sgnB_of]; simp only [g0, g1, g2, g3, g4, g5, g6, g7, g8, g9, g10, g11, g12, g13, g14, g15, g16, g17, g18, g19, g20, g21, g22, g23, g24, h25, Bool.true_or, Bool.or_true, Bool.or_false, Bool.false_or]
    rw [e]; clear e
    go_enter Tryz.func103, Tryz.ntmps103
    go_wp2
    go_ret
    exact ⟨rfl, rfl⟩
  have g25 : (s.toList == [93]) = false := by simpa using h25
  clear h25
  by_cases h26 : (s.toList == [44]) = true
  · have e : sgnB s = true := by rw [sgnB_of]; simp only [g0, g1, g2, g3, g4, g5, g6, g7, g8, g9, g10, g11, g12, g13, g14, g15, g16, g17, g18, g19, g20, g21, g22, g23, g24, g25, h26, Bool.true_or, Bool.or_true, Bool.or_false, Bool.false_or]
    rw [e]; clear e
    go_enter Tryz.func103, Tryz.ntmps103
    go_wp2
    go_ret
    exact ⟨rfl, rfl⟩
  have g26 : (s.toList == [44]) = false := by simpa using h26
  clear h26
  by_cases h27 : (s.toList == [58]) = true
  · have e : sgnB s = true := by rw [sgnB_of]; simp only [g0, g1, g2, g3, g4, g5, g6, g7, g8, g9, g10, g11, g12, g13, g14, g15, g16, g17, g18, g19, g20, g21, g22, g23, g24, g25, g26, h27, Bool.true_or, Bool.or_true, Bool.or_false, Bool.false_or]
    rw [e]; clear e
    go_enter Tryz.func103, Tryz.ntmps103
    go_wp2
    go_ret
    exact ⟨rfl, rfl⟩
  have g27 : (s.toList == [58]) = false := by simpa using h27
  clear h27
  by_cases h28 : (s.toList == [33]) = true
  · have e : sgnB s = true := by rw [sgnB_of]; simp only [g0, g1, g2, g3, g4, g5, g6, g7, g8, g9, g10, g11, g12, g13, g14, g15, g16, g17, g18, g19, g20, g21, g22, g23, g24, g25, g26, g27, h28, Bool.true_or, Bool.or_true, Bool.or_false, Bool.false_or]
    rw [e]; clear e
    go_enter Tryz.func103, Tryz.ntmps103
    go_wp2
    go_ret
    exact ⟨rfl, rfl⟩
  have g28 : (s.toList == [33]) = false := by simpa using h28
  clear h28
  have e : sgnB s = false := by rw [sgnB_of]; simp only [g0, g1, g2, g3, g4, g5, g6, g7, g8, g9, g10, g11, g12, g13, g14, g15, g16, g17, g18, g19, g20, g21, g22, g23, g24, g25, g26, g27, g28, Bool.or_false, Bool.false_or]
  rw [e]; clear e
  go_enter Tryz.func103, Tryz.ntmps103
  go_wp2
  go_ret
  exact ⟨rfl, rfl⟩
end Go.Proofs.YtpdndpajobfhmabGreatDoor
