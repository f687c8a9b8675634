/- How one value stands to another. -/
import Derived.Test.YtjfmhppgjhgdaabDoorVown
import Derived.Test.YtjfmhppgjhgdaabDoorShelf
import Derived.BigQuiet
import Derived.Lib.Bytealg
import Derived.Lib.Small
namespace Go.Proofs.YtjfmhppgjhgdaabDoor
open Go.ChangeShapes Go.WideShapes Go.ChangeAt Go.RowKit
set_option maxRecDepth 100000
set_option linter.unusedSimpArgs false
set_option linter.unusedVariables false

def ordN (x y : Vv) : Int := if x.kind = y.kind then (if x.kind = 1 then Lib.compareInt x.n y.n else if x.kind = 3 then Lib.compareBytes x.s.data.toList y.s.data.toList else 0) else 0
def ordE (x y : Vv) : Int := if x.kind = y.kind then (if x.kind = 1 then 0 else if x.kind = 3 then 0 else 13) else 9
theorem below2 (w : World) (o1 o2 : Obj) : Below w.heap.size w ((w.alloc o1).alloc o2) := ((Below.refl _ _).alloc (Nat.le_refl _) _).alloc (by simp) _
theorem below2n (w : World) (o1 o2 : Obj) (n : Nat) : Below w.heap.size w (((w.alloc o1).alloc o2).drewN n) := (below2 w o1 o2).trans ⟨rfl, rfl, rfl, Nat.le_refl _, fun _ _ => rfl⟩
def lessL : List UInt8 → List UInt8 → Bool
  | [], [] => false
  | [], _ :: _ => true
  | _ :: _, [] => false
  | a :: r, b :: q => if a = b then lessL r q else decide (a < b)
theorem drop_at (s : ByteArray) (k : Nat) (h : k < s.size) : s.data.toList.drop k = s[k]'h :: s.data.toList.drop (k + 1) := by
  have h' : k < s.data.toList.length := by simpa using h
  rw [List.drop_eq_getElem_cons h']
  rfl
theorem drop_end (s : ByteArray) : s.data.toList.drop s.size = [] := List.drop_eq_nil_of_le (by simp)
theorem u8_three (a b : UInt8) : a < b ∨ a = b ∨ b < a := by
  rcases Nat.lt_trichotomy a.toNat b.toNat with h | h | h
  · exact .inl (UInt8.lt_iff_toNat_lt.2 h)
  · exact .inr (.inl (UInt8.toNat_inj.1 h))
  · exact .inr (.inr (UInt8.lt_iff_toNat_lt.2 h))
theorem less_iff : ∀ (l r : List UInt8), lessL l r = decide (Lib.compareBytes l r = -1)
  | [], [] => rfl
  | [], _ :: _ => rfl
  | _ :: _, [] => rfl
  | a :: l, b :: r => by
    simp only [lessL, Lib.compareBytes]
    by_cases h : a = b
    · subst h
      have := UInt8.lt_irrefl a
      simp only [if_true, this, if_false]
      exact less_iff l r
    · rw [if_neg h]
      by_cases h1 : a < b
      · simp [h1]
      · have h2 : b < a := by
          rcases u8_three a b with h3 | h3 | h3
          · exact absurd h3 h1
          · exact absurd h3 h
          · exact h3
        simp [h1, h2]
theorem compare_three : ∀ (l r : List UInt8), Lib.compareBytes l r = -1 ∧ Lib.compareBytes r l = 1 ∨ Lib.compareBytes l r = 0 ∧ Lib.compareBytes r l = 0 ∧ l = r ∨ Lib.compareBytes l r = 1 ∧ Lib.compareBytes r l = -1
  | [], [] => .inr (.inl ⟨rfl, rfl, rfl⟩)
  | [], _ :: _ => .inl ⟨rfl, rfl⟩
  | _ :: _, [] => .inr (.inr ⟨rfl, rfl⟩)
  | a :: l, b :: r => by
    simp only [Lib.compareBytes]
    rcases u8_three a b with h | h | h
    · have : ¬ b < a := fun h2 => UInt8.lt_irrefl a (UInt8.lt_trans h h2)
      simp [h, this]
    · subst h
      rw [if_neg (UInt8.lt_irrefl a), if_neg (UInt8.lt_irrefl a), if_neg (UInt8.lt_irrefl a), if_neg (UInt8.lt_irrefl a)]
      rcases compare_three l r with h | ⟨h1, h2, h3⟩ | h
      · exact .inl h
      · subst h3; exact .inr (.inl ⟨h1, h2, rfl⟩)
      · exact .inr (.inr h)
    · have : ¬ a < b := fun h2 => UInt8.lt_irrefl a (UInt8.lt_trans h2 h)
      simp [h, this]
end Go.Proofs.YtjfmhppgjhgdaabDoor
