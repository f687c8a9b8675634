/- Values that are the same are shown alike; the plain value is shown as the value is. -/
import Derived.Test.YtjfmhppgjhgdaabDoorVshown
namespace Go.Proofs.YtjfmhppgjhgdaabDoor
open Go.ChangeShapes Go.WideShapes Go.ChangeAt Go.RowKit
set_option linter.unusedSimpArgs false
set_option linter.unusedVariables false

theorem plain_all (P : Vv → Prop) (h1 : ∀ k n s l, (k = 1 ∨ k = 7 ∨ k = 8) → P ⟨k, n, s, l⟩) (h2 : ∀ n s l, P ⟨2, n, s, l⟩) (h3 : ∀ k n s l, (k = 3 ∨ k = 5) → P ⟨k, n, s, l⟩) (h4 : ∀ n s l, P ⟨4, n, s, l⟩) (h6 : ∀ n s l, P ⟨6, n, s, l⟩)
    (h0 : ∀ k n s l, ¬ (k = 1 ∨ k = 7 ∨ k = 8) → ¬ k = 2 → ¬ (k = 3 ∨ k = 5) → ¬ k = 4 → ¬ k = 6 → P ⟨k, n, s, l⟩) (x : Vv) : P x := by
  obtain ⟨k, n, s, l⟩ := x
  by_cases a : k = 1 ∨ k = 7 ∨ k = 8
  · exact h1 k n s l a
  by_cases b : k = 2
  · subst b; exact h2 n s l
  by_cases c : k = 3 ∨ k = 5
  · exact h3 k n s l c
  by_cases d : k = 4
  · subst d; exact h4 n s l
  by_cases e : k = 6
  · subst e; exact h6 n s l
  exact h0 k n s l a b c d e
theorem plain_show (x : Vv) : showV (plainV x) = showV x := by
  refine plain_all (fun x => showV (plainV x) = showV x) ?_ ?_ ?_ ?_ ?_ ?_ x
  · rintro k n s l (rfl | rfl | rfl) <;> simp [plainV, showV]
  · intro n s l
    by_cases h : n = 0 <;> simp [plainV, showV, showB, h]
  · rintro k n s l (rfl | rfl) <;> simp [plainV, showV]
  · intro n s l; simp [plainV, showV]
  · intro n s l; simp [plainV, showV]
  · intro k n s l a b c d e
    have : plainV ⟨k, n, s, l⟩ = ⟨0, 0, ⟨#[]⟩, []⟩ := by simp only [plainV]; rw [if_neg a, if_neg b, if_neg c, if_neg d, if_neg e]
    rw [this]
    simp only [showV]
    rw [if_neg (by omega : ¬ k = 1), if_neg b, if_neg c, if_neg d, if_neg e, if_neg (by omega : ¬ k = 7), if_neg (by omega : ¬ k = 8)]
    simp
theorem plain_plain (x : Vv) : plainV (plainV x) = plainV x := by
  refine plain_all (fun x => plainV (plainV x) = plainV x) ?_ ?_ ?_ ?_ ?_ ?_ x
  · rintro k n s l (rfl | rfl | rfl) <;> simp [plainV]
  · intro n s l
    by_cases h : n = 0 <;> simp [plainV, h]
  · rintro k n s l (rfl | rfl) <;> simp [plainV]
  · intro n s l; simp [plainV]
  · intro n s l; simp [plainV]
  · intro k n s l a b c d e
    have : plainV ⟨k, n, s, l⟩ = ⟨0, 0, ⟨#[]⟩, []⟩ := by simp only [plainV]; rw [if_neg a, if_neg b, if_neg c, if_neg d, if_neg e]
    rw [this]
    simp [plainV]
theorem plain_may (x : Vv) : mayV (plainV x) = mayV x := by
  refine plain_all (fun x => mayV (plainV x) = mayV x) ?_ ?_ ?_ ?_ ?_ ?_ x
  · rintro k n s l (rfl | rfl | rfl) <;> simp [plainV, mayV]
  · intro n s l
    by_cases h : n = 0 <;> simp [plainV, mayV, h]
  · rintro k n s l (rfl | rfl) <;> simp [plainV, mayV]
  · intro n s l; simp [plainV, mayV]
  · intro n s l; simp [plainV, mayV]
  · intro k n s l a b c d e
    have : plainV ⟨k, n, s, l⟩ = ⟨0, 0, ⟨#[]⟩, []⟩ := by simp only [plainV]; rw [if_neg a, if_neg b, if_neg c, if_neg d, if_neg e]
    rw [this]
    have h1 : ¬ k = 1 := by omega
    have h3 : ¬ k = 3 := by omega
    have h5 : ¬ k = 5 := by omega
    simp [mayV, h1, h3, h5]
theorem plain_in {x : Vv} (h : VIn x) : VIn (plainV x) := by
  have h1 := h.wn
  have h2 := h.ws
  have h3 := h.wl
  have h4 := h.sz
  have h5 := h.wk
  have z0 : (Lit.int .i64 0).wf = true := by decide
  have eb : (⟨#[]⟩ : ByteArray).size ≤ 140737488351232 := by decide
  unfold plainV
  split
  · exact ⟨h5, h1, eb, (fun i h => by cases h), by simp⟩
  · split
    · refine ⟨by simp only; decide, ?_, eb, (fun i h => by cases h), by simp⟩
      simp only
      split <;> decide
    · split
      · exact ⟨h5, z0, h2, (fun i h => by cases h), by simp⟩
      · split
        · exact ⟨by simp only; decide, z0, eb, (fun i h => by cases h), by simp⟩
        · split
          · exact ⟨by simp only; decide, z0, eb, h3, h4⟩
          · exact ⟨z0, z0, eb, (fun i h => by cases h), by simp⟩
theorem plain_len (x : Vv) : (plainV x).l.length ≤ x.l.length := by
  unfold plainV
  split
  · simp
  · split
    · simp
    · split
      · simp
      · split
        · simp
        · split <;> simp
theorem ba_ext2 {s t : ByteArray} (h : s.toList = t.toList) : s = t := by
  have : s.data.toList = t.data.toList := by rw [← ByteArray.toList_eq, ← ByteArray.toList_eq]; exact h
  cases s; cases t; simp at this; simp [this]
theorem plain_kinds {x y : Vv} (h : x.kind = y.kind) : (plainV x).kind = (plainV y).kind := by
  unfold plainV
  rw [h]
  split
  · rfl
  · split
    · rfl
    · split
      · rfl
      · split
        · rfl
        · split <;> rfl
theorem same_show {x y : Vv} (h : sameV x y = true) : showV y = showV x := by
  obtain ⟨a, b, c, d⟩ := (same_iff x y).1 h
  rw [← plain_show x, ← plain_show y]
  have e := plain_kinds a
  have c' := ba_ext2 c
  generalize plainV x = p at *
  generalize plainV y = q at *
  obtain ⟨k, n, s, l⟩ := p
  obtain ⟨k', n', s', l'⟩ := q
  simp only at b c' d e
  subst b; subst c'; subst d; subst e
  rfl
end Go.Proofs.YtjfmhppgjhgdaabDoor
