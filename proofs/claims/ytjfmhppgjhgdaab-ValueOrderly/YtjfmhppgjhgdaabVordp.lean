/- The order of values, plainly. -/
import Derived.Test.YtjfmhppgjhgdaabVsame
namespace Go.Proofs.Ytjfmhppgjhgdaab
open Go.ChangeShapes Go.WideShapes Go.ChangeAt Go.RowKit
set_option linter.unusedSimpArgs false
set_option linter.unusedVariables false

theorem bytes_self : ∀ l : List UInt8, Lib.compareBytes l l = 0
  | [] => rfl
  | a :: l => by simp only [Lib.compareBytes]; rw [if_neg (UInt8.lt_irrefl a), if_neg (UInt8.lt_irrefl a)]; exact bytes_self l
theorem bytes_trans : ∀ l m r : List UInt8, Lib.compareBytes l m ≤ 0 → Lib.compareBytes m r ≤ 0 → Lib.compareBytes l r ≤ 0 ∧ (Lib.compareBytes l r = 0 ↔ Lib.compareBytes l m = 0 ∧ Lib.compareBytes m r = 0)
  | [], [], [] => fun _ _ => by simp [Lib.compareBytes]
  | [], [], _ :: _ => fun _ _ => by simp [Lib.compareBytes]
  | [], _ :: _, [] => fun _ h => by simp [Lib.compareBytes] at h
  | [], _ :: _, _ :: _ => fun _ _ => by simp [Lib.compareBytes]
  | _ :: _, [], _ => fun h _ => by simp [Lib.compareBytes] at h
  | _ :: _, _ :: _, [] => fun _ h => by simp [Lib.compareBytes] at h
  | a :: l, b :: m, c :: r => fun h1 h2 => by
    simp only [Lib.compareBytes] at h1 h2 ⊢
    rcases u8_three a b with hab | hab | hab
    · rcases u8_three b c with hbc | hbc | hbc
      · have := UInt8.lt_trans hab hbc
        simp [hab, hbc, this]
      · subst hbc; simp [hab]
      · have hn : ¬ b < c := fun h => UInt8.lt_irrefl b (UInt8.lt_trans h hbc)
        simp [hn, hbc] at h2
    · subst hab
      rcases u8_three a c with hbc | hbc | hbc
      · simp [hbc, UInt8.lt_irrefl]
      · subst hbc
        simp only [UInt8.lt_irrefl, if_false] at h1 h2 ⊢
        exact bytes_trans l m r h1 h2
      · have hn : ¬ a < c := fun h => UInt8.lt_irrefl a (UInt8.lt_trans h hbc)
        simp [hn, hbc] at h2
    · have hn : ¬ a < b := fun h => UInt8.lt_irrefl a (UInt8.lt_trans h hab)
      simp [hn, hab] at h1
theorem int_three (x y : Int) : Lib.compareInt x y = -1 ∧ Lib.compareInt y x = 1 ∧ x < y ∨ Lib.compareInt x y = 0 ∧ Lib.compareInt y x = 0 ∧ x = y ∨ Lib.compareInt x y = 1 ∧ Lib.compareInt y x = -1 ∧ y < x := by
  unfold Lib.compareInt
  rcases Int.lt_trichotomy x y with h | h | h
  · left; refine ⟨by rw [if_pos h], by rw [if_neg (by omega), if_pos h], h⟩
  · right; left; refine ⟨by rw [if_neg (by omega), if_neg (by omega)], by rw [if_neg (by omega), if_neg (by omega)], h⟩
  · right; right; refine ⟨by rw [if_neg (by omega), if_pos h], by rw [if_pos h], h⟩
theorem ord_back (x y : Vv) : ordE y x = ordE x y ∧ ordN y x = -ordN x y := by
  unfold ordE ordN
  by_cases hk : x.kind = y.kind
  · rw [if_pos hk, if_pos hk, if_pos hk.symm, if_pos hk.symm, ← hk]
    refine ⟨rfl, ?_⟩
    by_cases h1 : x.kind = 1
    · rw [if_pos h1, if_pos h1]
      rcases int_three x.n y.n with ⟨a, b, _⟩ | ⟨a, b, _⟩ | ⟨a, b, _⟩ <;> rw [a, b] <;> rfl
    · rw [if_neg h1, if_neg h1]
      by_cases h3 : x.kind = 3
      · rw [if_pos h3, if_pos h3]
        rcases compare_three x.s.data.toList y.s.data.toList with ⟨a, b⟩ | ⟨a, b, _⟩ | ⟨a, b⟩ <;> rw [a, b] <;> rfl
      · rw [if_neg h3, if_neg h3]; rfl
  · rw [if_neg hk, if_neg hk, if_neg (Ne.symm hk), if_neg (Ne.symm hk)]
    exact ⟨rfl, rfl⟩
theorem ord_cases (x y : Vv) : (ordE x y ≠ 0 ∧ ordN x y = 0) ∨ (ordE x y = 0 ∧ (ordN x y = -1 ∨ ordN x y = 0 ∨ ordN x y = 1)) := by
  unfold ordE ordN
  by_cases hk : x.kind = y.kind
  · rw [if_pos hk, if_pos hk]
    by_cases h1 : x.kind = 1
    · rw [if_pos h1, if_pos h1]
      rcases int_three x.n y.n with ⟨a, b, _⟩ | ⟨a, b, _⟩ | ⟨a, b, _⟩ <;> rw [a] <;> simp
    · rw [if_neg h1, if_neg h1]
      by_cases h3 : x.kind = 3
      · rw [if_pos h3, if_pos h3]
        rcases compare_three x.s.data.toList y.s.data.toList with ⟨a, b⟩ | ⟨a, b, _⟩ | ⟨a, b⟩ <;> rw [a] <;> simp
      · rw [if_neg h3, if_neg h3]; simp
  · rw [if_neg hk, if_neg hk]; simp
theorem ba_ext' {s t : ByteArray} (h : s.data.toList = t.data.toList) : s = t := by
  cases s; cases t; simp at h; simp [h]
theorem ord_same (x y : Vv) (h : ordE x y = 0) : sameV x y = decide (ordN x y = 0) := by
  unfold ordE at h
  unfold ordN sameV
  by_cases hk : x.kind = y.kind
  · rw [if_pos hk] at h ⊢
    rw [decide_eq_true hk, Bool.true_and]
    by_cases h1 : x.kind = 1
    · have h1' : y.kind = 1 := hk ▸ h1
      rw [if_pos h1]
      have e1 : plainV x = ⟨1, x.n, ⟨#[]⟩, []⟩ := by simp [plainV, h1]
      have e2 : plainV y = ⟨1, y.n, ⟨#[]⟩, []⟩ := by simp [plainV, h1']
      rw [e1, e2]
      rcases int_three x.n y.n with ⟨a, b, c⟩ | ⟨a, b, c⟩ | ⟨a, b, c⟩
      · rw [a]; have : ¬ x.n = y.n := by omega
        simp [this]
      · rw [a]; simp [c]
      · rw [a]; have : ¬ x.n = y.n := by omega
        simp [this]
    · rw [if_neg h1] at h ⊢
      by_cases h3 : x.kind = 3
      · have h3' : y.kind = 3 := hk ▸ h3
        rw [if_pos h3]
        have e1 : plainV x = ⟨3, 0, x.s, []⟩ := by simp [plainV, h3]
        have e2 : plainV y = ⟨3, 0, y.s, []⟩ := by simp [plainV, h3']
        rw [e1, e2]
        rcases compare_three x.s.data.toList y.s.data.toList with ⟨a, b⟩ | ⟨a, b, c⟩ | ⟨a, b⟩
        · rw [a]
          have : ¬ x.s = y.s := fun e => by rw [e, bytes_self] at a; cases a
          have h2 : (x.s.toList == y.s.toList) = false := by
            rw [beq_eq_false_iff_ne]; intro e; apply this; exact ba_ext' (by rw [← ByteArray.toList_eq, ← ByteArray.toList_eq]; exact e)
          simp [h2]
        · rw [a]; have := ba_ext' c; rw [this]; simp
        · rw [a]
          have : ¬ x.s = y.s := fun e => by rw [e, bytes_self] at a; cases a
          have h2 : (x.s.toList == y.s.toList) = false := by
            rw [beq_eq_false_iff_ne]; intro e; apply this; exact ba_ext' (by rw [← ByteArray.toList_eq, ← ByteArray.toList_eq]; exact e)
          simp [h2]
      · rw [if_neg h3] at h; cases h
  · rw [if_neg hk] at h; cases h
theorem ord_trans (x y z : Vv) (h1 : ordE x y = 0) (h2 : ordE y z = 0) (h3 : ordN x y ≤ 0) (h4 : ordN y z ≤ 0) : ordE x z = 0 ∧ ordN x z ≤ 0 ∧ (ordN x z = 0 ↔ ordN x y = 0 ∧ ordN y z = 0) := by
  unfold ordE at h1 h2 ⊢
  unfold ordN at h3 h4 ⊢
  by_cases hk : x.kind = y.kind
  · by_cases hj : y.kind = z.kind
    · have hl : x.kind = z.kind := hk.trans hj
      rw [if_pos hk] at h1 h3 ⊢
      rw [if_pos hj] at h2 h4 ⊢
      rw [if_pos hl, if_pos hl]
      rw [← hk] at h2 h4 ⊢
      by_cases k1 : x.kind = 1
      · rw [if_pos k1] at h1 h2 h3 h4 ⊢
        rw [if_pos k1, if_pos k1]
        refine ⟨rfl, ?_⟩
        rcases int_three x.n y.n with ⟨a, b, c⟩ | ⟨a, b, c⟩ | ⟨a, b, c⟩ <;> rcases int_three y.n z.n with ⟨a', b', c'⟩ | ⟨a', b', c'⟩ | ⟨a', b', c'⟩ <;> rcases int_three x.n z.n with ⟨a2, b2, c2⟩ | ⟨a2, b2, c2⟩ | ⟨a2, b2, c2⟩ <;> omega
      · simp only [if_neg k1] at h1 h2 h3 h4 ⊢
        by_cases k3 : x.kind = 3
        · simp only [if_pos k3] at h1 h2 h3 h4 ⊢
          exact ⟨trivial, bytes_trans _ _ _ h3 h4⟩
        · rw [if_neg k3] at h1; cases h1
    · rw [if_neg hj] at h2; cases h2
  · rw [if_neg hk] at h1; cases h1
end Go.Proofs.Ytjfmhppgjhgdaab
