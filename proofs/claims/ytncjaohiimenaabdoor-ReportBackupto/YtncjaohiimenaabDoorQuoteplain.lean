/- Quoted texts: plain laws. -/
import Derived.Below
namespace Go.Proofs.YtncjaohiimenaabDoor

/-- May a byte stand in a text that is quoted? -/
def okB (c : UInt8) : Bool := c == 34 || c == 92 || c == 10 || c == 9 || (decide (32 ≤ c.toNat) && decide (c.toNat ≤ 126))
/-- What is written of a byte. -/
def qPiece (c : UInt8) : List UInt8 := if c = 34 ∨ c = 92 then [92, c] else if c = 10 then [92, 110] else if c = 9 then [92, 116] else [c]
def qBody (l : List UInt8) : List UInt8 := l.flatMap qPiece
/-- The quoted text (nothing, where it can't be quoted), and the error. -/
def qS (l : List UInt8) : List UInt8 := if 200 < l.length then [] else if l.all okB then 34 :: (qBody l ++ [34]) else []
def qE (l : List UInt8) : Int := if 200 < l.length then 1 else if l.all okB then 0 else 4

theorem qPiece_le (c : UInt8) : (qPiece c).length ≤ 2 := by
  unfold qPiece
  split; · simp
  split; · simp
  split <;> simp
theorem qBody_le (l : List UInt8) : (qBody l).length ≤ 2 * l.length := by
  induction l with
  | nil => simp [qBody]
  | cons a l ih =>
    have e : qBody (a :: l) = qPiece a ++ qBody l := by simp [qBody]
    have := qPiece_le a
    rw [e, List.length_append, List.length_cons]; omega
theorem qBody_snoc (l : List UInt8) (c : UInt8) : qBody (l ++ [c]) = qBody l ++ qPiece c := by simp [qBody]
theorem all_snoc (l : List UInt8) (c : UInt8) : (l ++ [c]).all okB = (l.all okB && okB c) := by simp
theorem take_snoc {l : List UInt8} {k : Nat} (h : k < l.length) : l.take (k + 1) = l.take k ++ [l[k]] := by
  rw [List.take_succ_eq_append_getElem h]
/-- The six ways of a byte. -/
theorem byte_ways (c : UInt8) : c = 34 ∨ c = 92 ∨ c = 10 ∨ c = 9 ∨ ((32 ≤ c.toNat ∧ c.toNat ≤ 126) ∧ c ≠ 34 ∧ c ≠ 92 ∧ c ≠ 10 ∧ c ≠ 9) ∨ ((c.toNat < 32 ∨ 126 < c.toNat) ∧ c ≠ 34 ∧ c ≠ 92 ∧ c ≠ 10 ∧ c ≠ 9) := by
  by_cases h1 : c = 34; · exact .inl h1
  by_cases h2 : c = 92; · exact .inr (.inl h2)
  by_cases h3 : c = 10; · exact .inr (.inr (.inl h3))
  by_cases h4 : c = 9; · exact .inr (.inr (.inr (.inl h4)))
  by_cases h5 : 32 ≤ c.toNat ∧ c.toNat ≤ 126
  · exact .inr (.inr (.inr (.inr (.inl ⟨h5, h1, h2, h3, h4⟩))))
  · exact .inr (.inr (.inr (.inr (.inr ⟨by omega, h1, h2, h3, h4⟩))))
theorem okB_plain {c : UInt8} (h : 32 ≤ c.toNat ∧ c.toNat ≤ 126) : okB c = true := by unfold okB; simp [h.1, h.2]
theorem okB_not {c : UInt8} (h : (c.toNat < 32 ∨ 126 < c.toNat) ∧ c ≠ 34 ∧ c ≠ 92 ∧ c ≠ 10 ∧ c ≠ 9) : okB c = false := by
  obtain ⟨h0, h1, h2, h3, h4⟩ := h
  unfold okB
  simp [h1, h2, h3, h4]
  omega
theorem qPiece_plain {c : UInt8} (h : c ≠ 34 ∧ c ≠ 92 ∧ c ≠ 10 ∧ c ≠ 9) : qPiece c = [c] := by
  obtain ⟨h1, h2, h3, h4⟩ := h
  unfold qPiece
  rw [if_neg (by simp [h1, h2]), if_neg h3, if_neg h4]
/-- A byte as a number of Go's. -/
theorem nat_ne {c : UInt8} {n : Nat} (hn : n < 256) (h : c ≠ UInt8.ofNat n) : ((c.toNat : Int) == (n : Int)) = false := by
  rw [beq_eq_false_iff_ne]
  intro e
  apply h
  apply UInt8.toNat.inj
  rw [UInt8.toNat_ofNat']
  omega
theorem all_false {l : List UInt8} {k : Nat} (h : k < l.length) (hb : okB l[k] = false) : l.all okB = false := by
  rw [List.all_eq_false]
  exact ⟨l[k], List.getElem_mem h, by simp [hb]⟩
theorem take_at {l : List UInt8} {k : Nat} {x : UInt8} (h : l[k]? = some x) : l.take (k + 1) = l.take k ++ [x] := by
  obtain ⟨h1, h2⟩ := List.getElem?_eq_some_iff.1 h
  rw [take_snoc h1, h2]
theorem all_at {l : List UInt8} {k : Nat} {x : UInt8} (h : l[k]? = some x) (hb : okB x = false) : l.all okB = false := by
  obtain ⟨h1, h2⟩ := List.getElem?_eq_some_iff.1 h
  exact all_false h1 (by rw [h2]; exact hb)
end Go.Proofs.YtncjaohiimenaabDoor
