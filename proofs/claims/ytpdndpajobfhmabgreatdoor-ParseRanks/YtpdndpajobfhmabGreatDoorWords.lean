/- What scan.Word and panicroadref.Reserved answer, for every text. -/
import Derived.Test.YtpdndpajobfhmabGreatDoorCut
namespace Go.Proofs.YtpdndpajobfhmabGreatDoor
open Go.ChangeShapes Go.WideShapes Go.ChangeAt Go.RowKit
set_option maxRecDepth 100000
set_option linter.unusedSimpArgs false

/-- The words of the language. -/
def wordsL : List ByteArray := [⟨#[102, 117, 110, 99]⟩, ⟨#[118, 97, 114]⟩, ⟨#[105, 102]⟩, ⟨#[101, 108, 115, 101]⟩, ⟨#[102, 111, 114]⟩, ⟨#[98, 114, 101, 97, 107]⟩, ⟨#[99, 111, 110, 116, 105, 110, 117, 101]⟩, ⟨#[114, 101, 116, 117, 114, 110]⟩, ⟨#[100, 101, 102, 101, 114]⟩, ⟨#[116, 114, 117, 101]⟩, ⟨#[102, 97, 108, 115, 101]⟩, ⟨#[110, 105, 108]⟩, ⟨#[105, 110, 116]⟩, ⟨#[98, 111, 111, 108]⟩, ⟨#[115, 116, 114, 105, 110, 103]⟩, ⟨#[97, 110, 121]⟩]
def wordsText : ByteArray := ⟨#[102, 117, 110, 99, 32, 118, 97, 114, 32, 105, 102, 32, 101, 108, 115, 101, 32, 102, 111, 114, 32, 98, 114, 101, 97, 107, 32, 99, 111, 110, 116, 105, 110, 117, 101, 32, 114, 101, 116, 117, 114, 110, 32, 100, 101, 102, 101, 114, 32, 116, 114, 117, 101, 32, 102, 97, 108, 115, 101, 32, 110, 105, 108, 32, 105, 110, 116, 32, 98, 111, 111, 108, 32, 115, 116, 114, 105, 110, 103, 32, 97, 110, 121]⟩
theorem words_cut : (cutSt wordsText 32 (wordsText.size + 1)).1 = wordsL := by kernel_rfl
/-- Is a text one of them? -/
def wordB (s : ByteArray) : Bool := wordsL.any fun t => s.toList == t.toList
theorem bl (a : Array UInt8) : (ByteArray.mk a).toList = a.toList := by rw [ByteArray.toList_eq]
theorem wordB_of {s : ByteArray} : wordB s = (s.toList == [102, 117, 110, 99] || (s.toList == [118, 97, 114] || (s.toList == [105, 102] || (s.toList == [101, 108, 115, 101] || (s.toList == [102, 111, 114] || (s.toList == [98, 114, 101, 97, 107] || (s.toList == [99, 111, 110, 116, 105, 110, 117, 101] || (s.toList == [114, 101, 116, 117, 114, 110] || (s.toList == [100, 101, 102, 101, 114] || (s.toList == [116, 114, 117, 101] || (s.toList == [102, 97, 108, 115, 101] || (s.toList == [110, 105, 108] || (s.toList == [105, 110, 116] || (s.toList == [98, 111, 111, 108] || (s.toList == [115, 116, 114, 105, 110, 103] || (s.toList == [97, 110, 121])))))))))))))))) := by
  simp only [wordB, wordsL, List.any_cons, List.any_nil, bl, Bool.or_false]

set_option maxHeartbeats 1600000 in
theorem own_word (s : ByteArray) (w : World) :
    Calls Tryz.prog 100 #[.string s] w fun e w' => e = .returned (.bool (wordB s)) ∧ w' = w := by
  by_cases h0 : (s.toList == [102, 117, 110, 99]) = true
  · have e : wordB s = true := by rw [wordB_of]; simp only [h0, Bool.true_or, Bool.or_true, Bool.or_false, Bool.false_or]
    rw [e]; clear e
    go_enter Tryz.func100, Tryz.ntmps100
    go_wp2
    go_ret
    exact ⟨rfl, rfl⟩
  have g0 : (s.toList == [102, 117, 110, 99]) = false := by simpa using h0
  clear h0
  by_cases h1 : (s.toList == [118, 97, 114]) = true
  · have e : wordB s = true := by rw [wordB_of]; simp only [g0, h1, Bool.true_or, Bool.or_true, Bool.or_false, Bool.false_or]
    rw [e]; clear e
    go_enter Tryz.func100, Tryz.ntmps100
    go_wp2
    go_ret
    exact ⟨rfl, rfl⟩
  have g1 : (s.toList == [118, 97, 114]) = false := by simpa using h1
  clear h1
  by_cases h2 : (s.toList == [105, 102]) = true
  · have e : wordB s = true := by rw [wordB_of]; simp only [g0, g1, h2, Bool.true_or, Bool.or_true, Bool.or_false, Bool.false_or]
    rw [e]; clear e
    go_enter Tryz.func100, Tryz.ntmps100
    go_wp2
    go_ret
    exact ⟨rfl, rfl⟩
  have g2 : (s.toList == [105, 102]) = false := by simpa using h2
  clear h2
  by_cases h3 : (s.toList == [101, 108, 115, 101]) = true
  · have e : wordB s = true := by rw [wordB_of]; simp only [g0, g1, g2, h3, Bool.true_or, Bool.or_true, Bool.or_false, Bool.false_or]
    rw [e]; clear e
    go_enter Tryz.func100, Tryz.ntmps100
    go_wp2
    go_ret
    exact ⟨rfl, rfl⟩
  have g3 : (s.toList == [101, 108, 115, 101]) = false := by simpa using h3
  clear h3
  by_cases h4 : (s.toList == [102, 111, 114]) = true
  · have e : wordB s = true := by rw [wordB_of]; simp only [g0, g1, g2, g3, h4, Bool.true_or, Bool.or_true, Bool.or_false, Bool.false_or]
    rw [e]; clear e
    go_enter Tryz.func100, Tryz.ntmps100
    go_wp2
    go_ret
    exact ⟨rfl, rfl⟩
  have g4 : (s.toList == [102, 111, 114]) = false := by simpa using h4
  clear h4
  by_cases h5 : (s.toList == [98, 114, 101, 97, 107]) = true
  · have e : wordB s = true := by rw [wordB_of]; simp only [g0, g1, g2, g3, g4, h5, Bool.true_or, Bool.or_true, Bool.or_false, Bool.false_or]
    rw [e]; clear e
    go_enter Tryz.func100, Tryz.ntmps100
    go_wp2
    go_ret
    exact ⟨rfl, rfl⟩
  have g5 : (s.toList == [98, 114, 101, 97, 107]) = false := by simpa using h5
  clear h5
  by_cases h6 : (s.toList == [99, 111, 110, 116, 105, 110, 117, 101]) = true
  · have e : wordB s = true := by rw [wordB_of]; simp only [g0, g1, g2, g3, g4, g5, h6, Bool.true_or, Bool.or_true, Bool.or_false, Bool.false_or]
    rw [e]; clear e
    go_enter Tryz.func100, Tryz.ntmps100
    go_wp2
    go_ret
    exact ⟨rfl, rfl⟩
  have g6 : (s.toList == [99, 111, 110, 116, 105, 110, 117, 101]) = false := by simpa using h6
  clear h6
  by_cases h7 : (s.toList == [114, 101, 116, 117, 114, 110]) = true
  · have e : wordB s = true := by rw [wordB_of]; simp only [g0, g1, g2, g3, g4, g5, g6, h7, Bool.true_or, Bool.or_true, Bool.or_false, Bool.false_or]
    rw [e]; clear e
    go_enter Tryz.func100, Tryz.ntmps100
    go_wp2
    go_ret
    exact ⟨rfl, rfl⟩
  have g7 : (s.toList == [114, 101, 116, 117, 114, 110]) = false := by simpa using h7
  clear h7
  by_cases h8 : (s.toList == [100, 101, 102, 101, 114]) = true
  · have e : wordB s = true := by rw [wordB_of]; simp only [g0, g1, g2, g3, g4, g5, g6, g7, h8, Bool.true_or, Bool.or_true, Bool.or_false, Bool.false_or]
    rw [e]; clear e
    go_enter Tryz.func100, Tryz.ntmps100
    go_wp2
    go_ret
    exact ⟨rfl, rfl⟩
  have g8 : (s.toList == [100, 101, 102, 101, 114]) = false := by simpa using h8
  clear h8
  by_cases h9 : (s.toList == [116, 114, 117, 101]) = true
  · have e : wordB s = true := by rw [wordB_of]; simp only [g0, g1, g2, g3, g4, g5, g6, g7, g8, h9, Bool.true_or, Bool.or_true, Bool.or_false, Bool.false_or]
    rw [e]; clear e
    go_enter Tryz.func100, Tryz.ntmps100
    go_wp2
    go_ret
    exact ⟨rfl, rfl⟩
  have g9 : (s.toList == [116, 114, 117, 101]) = false := by simpa using h9
  clear h9
  by_cases h10 : (s.toList == [102, 97, 108, 115, 101]) = true
  · have e : wordB s = true := by rw [wordB_of]; simp only [g0, g1, g2, g3, g4, g5, g6, g7, g8, g9, h10, Bool.true_or, Bool.or_true, Bool.or_false, Bool.false_or]
    rw [e]; clear e
    go_enter Tryz.func100, Tryz.ntmps100
    go_wp2
    go_ret
    exact ⟨rfl, rfl⟩
  have g10 : (s.toList == [102, 97, 108, 115, 101]) = false := by simpa using h10
  clear h10
  by_cases h11 : (s.toList == [110, 105, 108]) = true
  · have e : wordB s = true := by rw [wordB_of]; simp only [g0, g1, g2, g3, g4, g5, g6, g7, g8, g9, g10, h11, Bool.true_or, Bool.or_true, Bool.or_false, Bool.false_or]
    rw [e]; clear e
    go_enter Tryz.func100, Tryz.ntmps100
    go_wp2
    go_ret
    exact ⟨rfl, rfl⟩
  have g11 : (s.toList == [110, 105, 108]) = false := by simpa using h11
  clear h11
  by_cases h12 : (s.toList == [105, 110, 116]) = true
  · have e : wordB s = true := by rw [wordB_of]; simp only [g0, g1, g2, g3, g4, g5, g6, g7, g8, g9, g10, g11, h12, Bool.true_or, Bool.or_true, Bool.or_false, Bool.false_or]
    rw [e]; clear e
    go_enter Tryz.func100, Tryz.ntmps100
    go_wp2
    go_ret
    exact ⟨rfl, rfl⟩
  have g12 : (s.toList == [105, 110, 116]) = false := by simpa using h12
  clear h12
  by_cases h13 : (s.toList == [98, 111, 111, 108]) = true
  · have e : wordB s = true := by rw [wordB_of]; simp only [g0, g1, g2, g3, g4, g5, g6, g7, g8, g9, g10, g11, g12, h13, Bool.true_or, Bool.or_true, Bool.or_false, Bool.false_or]
    rw [e]; clear e
    go_enter Tryz.func100, Tryz.ntmps100
    go_wp2
    go_ret
    exact ⟨rfl, rfl⟩
  have g13 : (s.toList == [98, 111, 111, 108]) = false := by simpa using h13
  clear h13
  by_cases h14 : (s.toList == [115, 116, 114, 105, 110, 103]) = true
  · have e : wordB s = true := by rw [wordB_of]; simp only [g0, g1, g2, g3, g4, g5, g6, g7, g8, g9, g10, g11, g12, g13, h14, Bool.true_or, Bool.or_true, Bool.or_false, Bool.false_or]
    rw [e]; clear e
    go_enter Tryz.func100, Tryz.ntmps100
    go_wp2
    go_ret
    exact ⟨rfl, rfl⟩
  have g14 : (s.toList == [115, 116, 114, 105, 110, 103]) = false := by simpa using h14
  clear h14
  by_cases h15 : (s.toList == [97, 110, 121]) = true
  · have e : wordB s = true := by rw [wordB_of]; simp only [g0, g1, g2, g3, g4, g5, g6, g7, g8, g9, g10, g11, g12, g13, g14, h15, Bool.true_or, Bool.or_true, Bool.or_false, Bool.false_or]
    rw [e]; clear e
    go_enter Tryz.func100, Tryz.ntmps100
    go_wp2
    go_ret
    exact ⟨rfl, rfl⟩
  have g15 : (s.toList == [97, 110, 121]) = false := by simpa using h15
  clear h15
  have e : wordB s = false := by rw [wordB_of]; simp only [g0, g1, g2, g3, g4, g5, g6, g7, g8, g9, g10, g11, g12, g13, g14, g15, Bool.or_false, Bool.false_or]
  rw [e]; clear e
  go_enter Tryz.func100, Tryz.ntmps100
  go_wp2
  go_ret
  exact ⟨rfl, rfl⟩

theorem word_get (k : Nat) (h : k < 16) : ∃ t, wordsL[k]? = some t ∧ (List.map Value.string wordsL)[k]? = some (.string t) := by
  have h' : k < wordsL.length := h
  exact ⟨wordsL[k], List.getElem?_eq_getElem h', by rw [List.getElem?_map, List.getElem?_eq_getElem h']; rfl⟩
theorem wordB_none {s : ByteArray} (h : ∀ (k : Nat) (t : ByteArray), wordsL[k]? = some t → (t.toList == s.toList) = false) : wordB s = false := by
  unfold wordB
  rw [List.any_eq_false]
  intro t ht
  obtain ⟨k, hk⟩ := List.mem_iff_getElem?.1 ht
  have := h k t hk
  simp at this ⊢
  exact fun e => this e.symm
theorem wordB_some {s t : ByteArray} {k : Nat} (h : wordsL[k]? = some t) (e : (t.toList == s.toList) = true) : wordB s = true := by
  unfold wordB
  rw [List.any_eq_true]
  refine ⟨t, List.mem_iff_getElem?.2 ⟨k, h⟩, ?_⟩
  simp at e ⊢
  exact e.symm
end Go.Proofs.YtpdndpajobfhmabGreatDoor
