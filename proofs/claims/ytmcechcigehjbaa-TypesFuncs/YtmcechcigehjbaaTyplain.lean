/- Types as texts: how long the type is that a text begins with. -/
namespace Go.Proofs.Ytmcechcigehjbaa

abbrev Tx := List UInt8
def wInt : Tx := [105, 110, 116]
def wBool : Tx := [98, 111, 111, 108]
def wString : Tx := [115, 116, 114, 105, 110, 103]
def wAny : Tx := [97, 110, 121]
def wInts : Tx := [91, 93, 105, 110, 116]
def wPtr : Tx := [42, 105, 110, 116]
def wFunc : Tx := [102, 117, 110, 99, 40]
/-- The word that a text begins with: its length; 0: none. -/
def wordLen (l : Tx) : Nat :=
  if wInt.isPrefixOf l then 3 else if wBool.isPrefixOf l then 4 else if wString.isPrefixOf l then 6 else if wAny.isPrefixOf l then 3 else if wInts.isPrefixOf l then 5 else if wPtr.isPrefixOf l then 4 else 0
/-- Parameters from here on, up to the bracket; k may come. -/
def pars (f : Tx → Nat) : Nat → Tx → Nat
  | 0, _ => 0
  | k + 1, l =>
    if f l = 0 then 0
    else match l.drop (f l) with
      | [] => 0
      | c :: _ => if c = 41 then f l + 1 else if c = 44 then (if pars f k (l.drop (f l + 1)) = 0 then 0 else f l + 1 + pars f k (l.drop (f l + 1))) else 0
def params (f : Tx → Nat) (l : Tx) : Nat :=
  match l with
  | [] => 0
  | c :: _ => if c = 41 then 1 else pars f 4 l
/-- The result: its length; none: what stands there is no type. -/
def res (f : Tx → Nat) (l : Tx) : Option Nat :=
  match l with
  | [] => some 0
  | c :: _ => if c = 44 ∨ c = 41 then some 0 else if f l = 0 then none else some (f l)
def tail (f : Tx → Nat) (l : Tx) : Nat :=
  if params f l = 0 then 0 else match res f (l.drop (params f l)) with
    | none => 0
    | some r => params f l + r
/-- The type that a text begins with: its length; 0: none. -/
def tl : Nat → Tx → Nat
  | 0, _ => 0
  | n + 1, l => if wordLen l ≠ 0 then wordLen l else if wFunc.isPrefixOf l then (if tail (tl n) (l.drop 5) = 0 then 0 else 5 + tail (tl n) (l.drop 5)) else 0

theorem pre_le {p l : Tx} (h : p.isPrefixOf l = true) : p.length ≤ l.length := by
  rw [List.isPrefixOf_iff_prefix] at h
  exact h.length_le
theorem wordLen_le (l : Tx) : wordLen l ≤ l.length := by
  unfold wordLen
  split; next h => have := pre_le h; simp [wInt] at this; omega
  split; next h => have := pre_le h; simp [wBool] at this; omega
  split; next h => have := pre_le h; simp [wString] at this; omega
  split; next h => have := pre_le h; simp [wAny] at this; omega
  split; next h => have := pre_le h; simp [wInts] at this; omega
  split; next h => have := pre_le h; simp [wPtr] at this; omega
  omega
theorem wordLen_six (l : Tx) : wordLen l ≤ 6 := by unfold wordLen; (repeat' split) <;> omega
theorem pars_le {f : Tx → Nat} (hf : ∀ l, f l ≤ l.length) : ∀ k l, pars f k l ≤ l.length
  | 0, _ => by simp [pars]
  | k + 1, l => by
    have h := hf l
    have ih := pars_le hf k (l.drop (f l + 1))
    rw [List.length_drop] at ih
    rw [pars]
    split; omega
    split
    · omega
    · next c r e =>
      have : (l.drop (f l)).length = r.length + 1 := by rw [e]; rfl
      rw [List.length_drop] at this
      split; omega
      split
      · split <;> omega
      · omega
theorem params_le {f : Tx → Nat} (hf : ∀ l, f l ≤ l.length) (l : Tx) : params f l ≤ l.length := by
  unfold params
  split
  · omega
  · next c r => split; simp; exact pars_le hf 4 _
theorem res_le {f : Tx → Nat} (hf : ∀ l, f l ≤ l.length) {l : Tx} {r : Nat} (h : res f l = some r) : r ≤ l.length := by
  unfold res at h
  split at h
  · cases h; simp
  · split at h
    · cases h; simp
    · split at h
      · cases h
      · cases h; exact hf _
theorem tail_le {f : Tx → Nat} (hf : ∀ l, f l ≤ l.length) (l : Tx) : tail f l ≤ l.length := by
  have h1 := params_le hf l
  unfold tail
  split; omega
  split
  · omega
  · next r e => have := res_le hf e; rw [List.length_drop] at this; omega
theorem tl_le : ∀ n l, tl n l ≤ l.length
  | 0, _ => by simp [tl]
  | n + 1, l => by
    rw [tl]
    split; exact wordLen_le l
    split
    · next h =>
      have h1 := pre_le h
      have h2 := tail_le (tl_le n) (l.drop 5)
      rw [List.length_drop] at h2
      simp [wFunc] at h1
      split <;> omega
    · omega
end Go.Proofs.Ytmcechcigehjbaa
