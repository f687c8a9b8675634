/- What an error tells is read again, and tells its kind. -/
import Derived.Test.YtjmklmcnlieplaaDoorFcomp
namespace Go.Proofs.YtjmklmcnlieplaaDoor
open Go.ChangeShapes Go.WideShapes Go.ChangeAt Go.RowKit
set_option maxRecDepth 100000
set_option linter.unusedSimpArgs false
set_option linter.unusedVariables false
theorem saidL0 (a b : Int) : saidL (0, a, b) = [105, 110, 100, 101, 120, 32, 111, 117, 116, 32, 111, 102, 32, 114, 97, 110, 103, 101, 32, 91] ++ (Lib.itoa a ++ ([93, 32, 119, 105, 116, 104, 32, 108, 101, 110, 103, 116, 104, 32] ++ (Lib.itoa b ++ ([] ++ [])))) := by simp [saidL, fillL, numAt, formP, txt]
theorem formP0 : formP 0 = [bt [105, 110, 100, 101, 120, 32, 111, 117, 116, 32, 111, 102, 32, 114, 97, 110, 103, 101, 32, 91], bt [93, 32, 119, 105, 116, 104, 32, 108, 101, 110, 103, 116, 104, 32], bt []] := rfl
theorem saidL1 (a b : Int) : saidL (1, a, b) = [105, 110, 116, 101, 103, 101, 114, 32, 100, 105, 118, 105, 100, 101, 32, 98, 121, 32, 122, 101, 114, 111] := by simp [saidL, fillL, numAt, formP, txt]
theorem formP1 : formP 1 = [bt [105, 110, 116, 101, 103, 101, 114, 32, 100, 105, 118, 105, 100, 101, 32, 98, 121, 32, 122, 101, 114, 111]] := rfl
theorem saidL2 (a b : Int) : saidL (2, a, b) = [110, 101, 103, 97, 116, 105, 118, 101, 32, 115, 104, 105, 102, 116, 32, 97, 109, 111, 117, 110, 116] := by simp [saidL, fillL, numAt, formP, txt]
theorem formP2 : formP 2 = [bt [110, 101, 103, 97, 116, 105, 118, 101, 32, 115, 104, 105, 102, 116, 32, 97, 109, 111, 117, 110, 116]] := rfl
theorem saidL3 (a b : Int) : saidL (3, a, b) = [105, 110, 118, 97, 108, 105, 100, 32, 109, 101, 109, 111, 114, 121, 32, 97, 100, 100, 114, 101, 115, 115, 32, 111, 114, 32, 110, 105, 108, 32, 112, 111, 105, 110, 116, 101, 114, 32, 100, 101, 114, 101, 102, 101, 114, 101, 110, 99, 101] := by simp [saidL, fillL, numAt, formP, txt]
theorem formP3 : formP 3 = [bt [105, 110, 118, 97, 108, 105, 100, 32, 109, 101, 109, 111, 114, 121, 32, 97, 100, 100, 114, 101, 115, 115, 32, 111, 114, 32, 110, 105, 108, 32, 112, 111, 105, 110, 116, 101, 114, 32, 100, 101, 114, 101, 102, 101, 114, 101, 110, 99, 101]] := rfl
theorem saidL4 (a b : Int) : saidL (4, a, b) = [115, 108, 105, 99, 101, 32, 98, 111, 117, 110, 100, 115, 32, 111, 117, 116, 32, 111, 102, 32, 114, 97, 110, 103, 101, 32, 91, 58] ++ (Lib.itoa a ++ ([93, 32, 119, 105, 116, 104, 32, 108, 101, 110, 103, 116, 104, 32] ++ (Lib.itoa b ++ ([] ++ [])))) := by simp [saidL, fillL, numAt, formP, txt]
theorem formP4 : formP 4 = [bt [115, 108, 105, 99, 101, 32, 98, 111, 117, 110, 100, 115, 32, 111, 117, 116, 32, 111, 102, 32, 114, 97, 110, 103, 101, 32, 91, 58], bt [93, 32, 119, 105, 116, 104, 32, 108, 101, 110, 103, 116, 104, 32], bt []] := rfl
theorem saidL5 (a b : Int) : saidL (5, a, b) = [115, 108, 105, 99, 101, 32, 98, 111, 117, 110, 100, 115, 32, 111, 117, 116, 32, 111, 102, 32, 114, 97, 110, 103, 101, 32, 91] ++ (Lib.itoa a ++ ([58] ++ (Lib.itoa b ++ ([93] ++ [])))) := by simp [saidL, fillL, numAt, formP, txt]
theorem formP5 : formP 5 = [bt [115, 108, 105, 99, 101, 32, 98, 111, 117, 110, 100, 115, 32, 111, 117, 116, 32, 111, 102, 32, 114, 97, 110, 103, 101, 32, 91], bt [58], bt [93]] := rfl
theorem saidL6 (a b : Int) : saidL (6, a, b) = [115, 108, 105, 99, 101, 32, 98, 111, 117, 110, 100, 115, 32, 111, 117, 116, 32, 111, 102, 32, 114, 97, 110, 103, 101, 32, 91] ++ (Lib.itoa a ++ ([58, 93] ++ [])) := by simp [saidL, fillL, numAt, formP, txt]
theorem formP6 : formP 6 = [bt [115, 108, 105, 99, 101, 32, 98, 111, 117, 110, 100, 115, 32, 111, 117, 116, 32, 111, 102, 32, 114, 97, 110, 103, 101, 32, 91], bt [58, 93]] := rfl
theorem saidL7 (a b : Int) : saidL (7, a, b) = [110, 111, 32, 105, 110, 116, 32, 105, 110, 32, 97, 110, 121] := by simp [saidL, fillL, numAt, formP, txt]
theorem formP7 : formP 7 = [bt [110, 111, 32, 105, 110, 116, 32, 105, 110, 32, 97, 110, 121]] := rfl
theorem saidL8 (a b : Int) : saidL (8, a, b) = [108, 101, 110, 103, 116, 104, 32] ++ (Lib.itoa a ++ ([32, 105, 115, 32, 97, 98, 111, 118, 101, 32] ++ (Lib.itoa b ++ ([] ++ [])))) := by simp [saidL, fillL, numAt, formP, txt]
theorem formP8 : formP 8 = [bt [108, 101, 110, 103, 116, 104, 32], bt [32, 105, 115, 32, 97, 98, 111, 118, 101, 32], bt []] := rfl
theorem saidL9 (a b : Int) : saidL (9, a, b) = [112, 97, 110, 105, 99, 32, 99, 97, 108, 108, 101, 100, 32, 119, 105, 116, 104, 32, 110, 105, 108] := by simp [saidL, fillL, numAt, formP, txt]
theorem formP9 : formP 9 = [bt [112, 97, 110, 105, 99, 32, 99, 97, 108, 108, 101, 100, 32, 119, 105, 116, 104, 32, 110, 105, 108]] := rfl
/-- Numbers that a form does not tell are 0. -/
def okT (t : Nat × Int × Int) : Prop := ((t.1 = 1 ∨ t.1 = 2 ∨ t.1 = 3 ∨ t.1 = 7 ∨ t.1 = 9) → t.2.1 = 0 ∧ t.2.2 = 0) ∧ (t.1 = 6 → t.2.2 = 0)
theorem told_ok (x : Fl) : okT (toldF x) := by
  unfold toldF toldB okT
  repeat' split
  all_goals simp
theorem match_said (t : Nat × Int × Int) (h : t.1 < 10) (h0 : I64 t.2.1) (h1 : I64 t.2.2) (hk : okT t) : matchF (formP t.1) (bt (saidL t)) = some t.2 := by
  obtain ⟨i, a, b⟩ := t
  dsimp only at *
  rcases ten i h with rfl | rfl | rfl | rfl | rfl | rfl | rfl | rfl | rfl | rfl
  · rw [saidL0, formP0]; exact match3 _ _ _ a b h0 h1 (nod_cons rfl) nod_nil
  · obtain ⟨rfl, rfl⟩ : a = 0 ∧ b = 0 := hk.1 (by simp)
    rw [saidL1, formP1]; exact match1 _
  · obtain ⟨rfl, rfl⟩ : a = 0 ∧ b = 0 := hk.1 (by simp)
    rw [saidL2, formP2]; exact match1 _
  · obtain ⟨rfl, rfl⟩ : a = 0 ∧ b = 0 := hk.1 (by simp)
    rw [saidL3, formP3]; exact match1 _
  · rw [saidL4, formP4]; exact match3 _ _ _ a b h0 h1 (nod_cons rfl) nod_nil
  · rw [saidL5, formP5]; exact match3 _ _ _ a b h0 h1 (nod_cons rfl) (nod_cons rfl)
  · obtain rfl : b = 0 := hk.2 rfl
    rw [saidL6, formP6]; exact match2 _ _ a h0 (nod_cons rfl)
  · obtain ⟨rfl, rfl⟩ : a = 0 ∧ b = 0 := hk.1 (by simp)
    rw [saidL7, formP7]; exact match1 _
  · rw [saidL8, formP8]; exact match3 _ _ _ a b h0 h1 (nod_cons rfl) nod_nil
  · obtain ⟨rfl, rfl⟩ : a = 0 ∧ b = 0 := hk.1 (by simp)
    rw [saidL9, formP9]; exact match1 _
theorem canon {x : Fl} (h : (toldF x).1 < 10) : toldF (meantF (toldF x).1 (toldF x).2.1 (toldF x).2.2) = toldF x ∧ (meantF (toldF x).1 (toldF x).2.1 (toldF x).2.2).k = x.k := by
  obtain ⟨k, a, b, c⟩ := x
  generalize ht : toldF ⟨k, a, b, c⟩ = t at *
  unfold toldF toldB at ht
  dsimp only at ht
  repeat' split at ht
  all_goals (subst ht; first | (exfalso; revert h; decide) | skip)
  all_goals (simp [meantF, toldF, toldB]; try (first | omega | (refine ⟨?_, by omega⟩; (repeat' split) <;> first | rfl | (exfalso; omega))))
theorem text_lead {x : Fl} (h : (toldF x).1 < 10) : textF x = bt (leadB.data.toList ++ saidL (toldF x)) := by
  unfold textF
  rw [if_neg (by omega)]
  apply ByteArray.ext; apply Array.ext'
  simp [bt, ByteArray.data_append]
/-- What tells something is matched. -/
theorem text_match {x : Fl} (hx : FIn x) (h : (toldF x).1 < 10) : haspB (textF x) leadB = true ∧ matchF (formP (toldF x).1) (cutpB (textF x) leadB) = some (toldF x).2 := by
  obtain ⟨-, q0, q1⟩ := told_in hx
  have e : bt leadB.data.toList = leadB := bt_eta leadB
  have h1 := hasp_app leadB.data.toList (saidL (toldF x))
  have h2 := cutp_app leadB.data.toList (saidL (toldF x))
  rw [e] at h1 h2
  rw [text_lead h]
  refine ⟨h1, ?_⟩
  rw [h2]
  exact match_said _ h q0 q1 (told_ok x)
/-- The kind that a form tells. -/
def kindOf : Nat → Int
  | 0 => 1
  | 1 => 2
  | 2 => 3
  | 3 => 4
  | 4 => 5
  | 5 => 5
  | 6 => 5
  | 7 => 6
  | 8 => 7
  | 9 => 8
  | _ => 0
theorem told_kind {x : Fl} (h : (toldF x).1 < 10) : x.k = kindOf (toldF x).1 := by
  obtain ⟨k, a, b, c⟩ := x
  generalize ht : toldF ⟨k, a, b, c⟩ = t at *
  unfold toldF toldB at ht
  dsimp only at ht
  repeat' split at ht
  all_goals (subst ht; first | (exfalso; revert h; decide) | skip)
  all_goals (simp [kindOf]; try omega)
def pre3 : Nat → List UInt8
  | 0 => [105, 110, 100]
  | 1 => [105, 110, 116]
  | 2 => [110, 101, 103]
  | 3 => [105, 110, 118]
  | 4 => [115, 108, 105]
  | 5 => [115, 108, 105]
  | 6 => [115, 108, 105]
  | 7 => [110, 111, 32]
  | 8 => [108, 101, 110]
  | 9 => [112, 97, 110]
  | _ => []
theorem said_pre (t : Nat × Int × Int) (h : t.1 < 10) : (saidL t).take 3 = pre3 t.1 := by
  obtain ⟨i, a, b⟩ := t
  dsimp only at *
  rcases ten i h with rfl | rfl | rfl | rfl | rfl | rfl | rfl | rfl | rfl | rfl
  · rw [saidL0]; rfl
  · rw [saidL1]; rfl
  · rw [saidL2]; rfl
  · rw [saidL3]; rfl
  · rw [saidL4]; rfl
  · rw [saidL5]; rfl
  · rw [saidL6]; rfl
  · rw [saidL7]; rfl
  · rw [saidL8]; rfl
  · rw [saidL9]; rfl
theorem pre_kind (i j : Nat) (hi : i < 10) (hj : j < 10) (h : pre3 i = pre3 j) : kindOf i = kindOf j := by
  rcases ten i hi with rfl | rfl | rfl | rfl | rfl | rfl | rfl | rfl | rfl | rfl <;> rcases ten j hj with rfl | rfl | rfl | rfl | rfl | rfl | rfl | rfl | rfl | rfl <;> first | rfl | (exfalso; revert h; decide)
theorem told_10 {x : Fl} (hx : FIn x) (h : ¬ (toldF x).1 < 10) : textF x = ⟨#[]⟩ := by
  have := (told_in hx).1
  unfold textF
  rw [if_pos (by omega)]
theorem text_ne {x : Fl} (h : (toldF x).1 < 10) : textF x ≠ ⟨#[]⟩ := by
  rw [text_lead h]
  intro e
  have := bt_inj (b := []) e
  simp [leadB] at this
/-- The same text is of the same kind. -/
theorem same_kind {x y : Fl} (hx : FIn x) (hy : FIn y) (h : (toldF x).1 < 10) (e : textF y = textF x) : y.k = x.k := by
  have hyt : (toldF y).1 < 10 := by
    by_cases hh : (toldF y).1 < 10
    · exact hh
    · exact absurd ((e.symm.trans (told_10 hy hh))) (text_ne h)
  rw [text_lead h, text_lead hyt] at e
  have e2 := List.append_cancel_left (bt_inj e)
  have e3 : pre3 (toldF y).1 = pre3 (toldF x).1 := by rw [← said_pre _ hyt, ← said_pre _ h, e2]
  rw [told_kind hyt, told_kind h]
  exact pre_kind _ _ hyt h e3
/-- What an error tells is read as one of its kind that tells the same. -/
theorem back_ok {x g : Fl} {ec : Int} (hx : FIn x) (h : (toldF x).1 < 10) (hr : ReadsAs (textF x) g ec) : ec = 0 ∧ g.k = x.k ∧ textF g = textF x ∧ FIn g := by
  rcases hr with ⟨rfl, i, n0, n1, hi, q0, q1, -, -, rfl, ht⟩ | ⟨rfl, rfl, hno⟩
  · exact ⟨rfl, same_kind hx (meant_in i hi q0 q1) h ht, ht, meant_in i hi q0 q1⟩
  · exfalso
    obtain ⟨h1, h2⟩ := text_match hx h
    obtain ⟨c1, c2⟩ := canon h
    refine hno h1 _ _ _ h h2 ?_
    unfold textF
    rw [c1]
theorem back_no {g : Fl} {ec : Int} (hr : ReadsAs ⟨#[]⟩ g ec) : ec = 6 ∧ g = f0 := by
  rcases hr with ⟨rfl, i, n0, n1, hi, q0, q1, hh, -⟩ | ⟨rfl, rfl, hno⟩
  · exact absurd hh (by decide)
  · exact ⟨rfl, rfl⟩
end Go.Proofs.YtjmklmcnlieplaaDoor
