/- The calls turned round. -/
import Derived.Test.YtiaoidbhdkldlabCpop
namespace Go.Proofs.Ytiaoidbhdkldlab
open Go.ChangeShapes Go.WideShapes Go.ChangeAt Go.RowKit
set_option maxRecDepth 100000
set_option linter.unusedSimpArgs false
set_option linter.unusedVariables false
/-- A list whose ends are turned: the first i and the last i are as in the reverse, the others as they were. -/
def turned {α : Type} (l : List α) (i : Nat) : List α := (l.drop (l.length - i)).reverse ++ (l.drop i).take (l.length - 2 * i) ++ (l.take i).reverse
theorem turned_len {α : Type} (l : List α) (i : Nat) (h : 2 * i ≤ l.length) : (turned l i).length = l.length := by
  simp [turned]; omega
theorem turned_get {α : Type} (l : List α) (i k : Nat) (h : 2 * i ≤ l.length) (hk : k < l.length) : (turned l i)[k]? = if k < i ∨ l.length - i ≤ k then l[l.length - 1 - k]? else l[k]? := by
  unfold turned
  by_cases h1 : k < i
  · rw [if_pos (.inl h1), List.append_assoc, List.getElem?_append_left (by simp; omega), List.getElem?_reverse (by simp; omega), List.getElem?_drop]
    congr 1
    simp
    omega
  · by_cases h2 : l.length - i ≤ k
    · rw [if_pos (.inr h2), List.getElem?_append_right (by simp; omega), List.getElem?_reverse (by simp; omega), List.getElem?_take]
      simp
      rw [if_pos (by omega)]
      congr 1
      omega
    · rw [if_neg (by omega), List.getElem?_append_left (by simp; omega), List.getElem?_append_right (by simp; omega), List.getElem?_take, if_pos (by simp; omega), List.getElem?_drop]
      congr 1
      simp
      omega
theorem turned_zero {α : Type} (l : List α) : turned l 0 = l := by simp [turned]
theorem turned_end {α : Type} (l : List α) (i : Nat) (h : 2 * i ≤ l.length) (h2 : l.length ≤ 2 * i + 1) : turned l i = l.reverse := by
  apply List.ext_getElem?
  intro k
  by_cases hk : k < l.length
  · rw [turned_get l i k h hk, List.getElem?_reverse hk]
    split
    · rfl
    · congr 1; omega
  · rw [List.getElem?_eq_none (by rw [turned_len l i h]; omega), List.getElem?_eq_none (by simp; omega)]
theorem turned_step {α : Type} (l : List α) (i : Nat) (h : 2 * i + 1 < l.length) (a b : α) (ha : (turned l i)[i]? = some a) (hb : (turned l i)[l.length - 1 - i]? = some b) : ((turned l i).set i b).set (l.length - 1 - i) a = turned l (i + 1) := by
  have e1 : l[i]? = some a := by rw [turned_get l i i (by omega) (by omega), if_neg (by omega)] at ha; exact ha
  have e2 : l[l.length - 1 - i]? = some b := by rw [turned_get l i _ (by omega) (by omega), if_neg (by omega)] at hb; exact hb
  apply List.ext_getElem?
  intro k
  by_cases hk : k < l.length
  · rw [turned_get l (i + 1) k (by omega) hk]
    by_cases h1 : k = l.length - 1 - i
    · rw [h1, List.getElem?_set_self (by rw [List.length_set, turned_len l i (by omega)]; omega), if_pos (by omega), show l.length - 1 - (l.length - 1 - i) = i by omega, e1]
    · rw [List.getElem?_set_ne (Ne.symm h1)]
      by_cases h2 : k = i
      · rw [h2, List.getElem?_set_self (by rw [turned_len l i (by omega)]; omega), if_pos (by omega), e2]
      · rw [List.getElem?_set_ne (Ne.symm h2), turned_get l i k (by omega) hk]
        by_cases h3 : k < i ∨ l.length - i ≤ k
        · rw [if_pos h3, if_pos (by omega)]
        · rw [if_neg h3, if_neg (by omega)]
  · rw [List.getElem?_eq_none (by rw [List.length_set, List.length_set, turned_len l i (by omega)]; omega), List.getElem?_eq_none (by rw [turned_len l (i + 1) (by omega)]; omega)]
end Go.Proofs.Ytiaoidbhdkldlab
