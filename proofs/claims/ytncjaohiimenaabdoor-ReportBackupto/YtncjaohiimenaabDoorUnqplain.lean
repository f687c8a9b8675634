/- What a quoted text says: plain laws. -/
import Derived.Test.YtncjaohiimenaabDoorQuoteplain
namespace Go.Proofs.YtncjaohiimenaabDoor

/-- The byte that stands behind a backslash, as what it says. -/
def esc (d : UInt8) : Option UInt8 := if d = 34 ∨ d = 92 then some d else if d = 110 then some 10 else if d = 116 then some 9 else none
/-- What stands ahead of the closing quote says, and how many bytes are taken, that quote too. -/
def rd : List UInt8 → Option (List UInt8 × Nat)
  | [] => none
  | c :: r =>
    if c = 34 then some ([], 1)
    else if c = 92 then
      match r with
      | [] => none
      | d :: r' => match esc d with
        | none => none
        | some x => (rd r').map fun p => (x :: p.1, p.2 + 2)
    else if 32 ≤ c.toNat ∧ c.toNat ≤ 126 then (rd r).map fun p => (c :: p.1, p.2 + 1)
    else none
/-- The first piece of it: the byte, and how many bytes it takes (0: it is none). -/
def piece : List UInt8 → UInt8 × Nat
  | [] => (0, 0)
  | c :: r =>
    if ¬ (32 ≤ c.toNat ∧ c.toNat ≤ 126) then (0, 0)
    else if c ≠ 92 then (c, 1)
    else match r with
      | [] => (0, 0)
      | d :: _ => match esc d with
        | none => (0, 0)
        | some x => (x, 2)
theorem rd_cons (c : UInt8) (r : List UInt8) : rd (c :: r) = if c = 34 then some ([], 1)
    else if c = 92 then (match r with
      | [] => none
      | d :: r' => match esc d with
        | none => none
        | some x => (rd r').map fun p => (x :: p.1, p.2 + 2))
    else if 32 ≤ c.toNat ∧ c.toNat ≤ 126 then (rd r).map fun p => (c :: p.1, p.2 + 1)
    else none := by rw [rd.eq_def]
theorem piece_cons (c : UInt8) (r : List UInt8) : piece (c :: r) = if ¬ (32 ≤ c.toNat ∧ c.toNat ≤ 126) then (0, 0)
    else if c ≠ 92 then (c, 1)
    else (match r with
      | [] => (0, 0)
      | d :: _ => match esc d with
        | none => (0, 0)
        | some x => (x, 2)) := by rw [piece.eq_def]
theorem rd_close (r : List UInt8) : rd (34 :: r) = some ([], 1) := by rw [rd_cons]; rfl
theorem rd_piece {c : UInt8} {r : List UInt8} (h : c ≠ 34) :
    rd (c :: r) = if (piece (c :: r)).2 = 0 then none else (rd ((c :: r).drop (piece (c :: r)).2)).map fun p => ((piece (c :: r)).1 :: p.1, p.2 + (piece (c :: r)).2) := by
  by_cases h1 : c = 92
  · subst h1
    cases r with
    | nil => rw [rd_cons]; rfl
    | cons d r' =>
      cases he : esc d with
      | none =>
        have e1 : piece (92 :: d :: r') = (0, 0) := by simp [piece, he]
        rw [e1, rd_cons, if_neg h, if_pos rfl]; simp [he]
      | some x =>
        have e1 : piece (92 :: d :: r') = (x, 2) := by simp [piece, he]
        rw [e1, rd_cons, if_neg h, if_pos rfl]; simp [he]
  · by_cases h2 : 32 ≤ c.toNat ∧ c.toNat ≤ 126
    · have e1 : piece (c :: r) = (c, 1) := by rw [piece_cons, if_neg (by simp [h2.1, h2.2]), if_pos h1]
      rw [e1, rd_cons, if_neg h, if_neg h1, if_pos h2]; rfl
    · have e1 : piece (c :: r) = (0, 0) := by rw [piece_cons, if_pos h2]
      rw [e1, rd_cons, if_neg h, if_neg h1, if_neg h2]; rfl
theorem piece_le (l : List UInt8) : (piece l).2 ≤ 2 ∧ (piece l).2 ≤ l.length := by
  cases l with
  | nil => simp [piece]
  | cons c r =>
    rw [piece_cons]
    split; · simp
    split; · simp
    cases r with
    | nil => simp
    | cons d r' => simp only; cases esc d <;> simp
/-- A whole quoted text at the beginning: what it says, and its bytes. -/
def rq (l : List UInt8) : Option (List UInt8 × Nat) :=
  match l with
  | [] => none
  | c :: r => if c = 34 then (rd r).bind fun p => if p.1.length ≤ 200 then some (p.1, p.2 + 1) else none else none
def uq (l : List UInt8) : Option (List UInt8) := (rq l).bind fun p => if p.2 = l.length then some p.1 else none
/-- What a call answers of it: the text, the size, the error. -/
def rqS (l : List UInt8) : List UInt8 := match rq l with | none => [] | some p => p.1
def rqN (l : List UInt8) : Nat := match rq l with | none => 0 | some p => p.2
def rqE (l : List UInt8) : Int := match rq l with | none => 4 | some _ => 0
def uqS (l : List UInt8) : List UInt8 := match uq l with | none => [] | some p => p
def uqE (l : List UInt8) : Int := match uq l with | none => 4 | some _ => 0

theorem rd_len : ∀ (l s : List UInt8) (n : Nat), rd l = some (s, n) → n ≤ l.length ∧ s.length < n ∧ 0 < n := by
  intro l
  induction hn : l.length using Nat.strongRecOn generalizing l with
  | ind m ih =>
    intro s n h
    cases l with
    | nil => simp [rd] at h
    | cons c r =>
      by_cases hc : c = 34
      · subst hc; rw [rd_close] at h; cases h; simp at hn ⊢; omega
      · rw [rd_piece hc] at h
        have hp := piece_le (c :: r)
        generalize piece (c :: r) = q at *
        obtain ⟨x, t⟩ := q
        simp only at h hp
        split at h
        · cases h
        · obtain ⟨⟨s', n'⟩, h1, h2⟩ := Option.map_eq_some_iff.1 h
          simp only [Prod.mk.injEq] at h2
          obtain ⟨rfl, rfl⟩ := h2
          have := ih ((c :: r).drop t).length (by rw [List.length_drop]; omega) _ rfl s' n' h1
          rw [List.length_drop] at this
          simp only [List.length_cons] at *
          omega
/-- One step on: what is read from here on, and from behind the piece on. -/
theorem rd_on {c : UInt8} {r s : List UInt8} {n : Nat} (h : c ≠ 34) (hr : rd (c :: r) = some (s, n)) :
    (piece (c :: r)).2 ≠ 0 ∧ ∃ s', s = (piece (c :: r)).1 :: s' ∧ rd ((c :: r).drop (piece (c :: r)).2) = some (s', n - (piece (c :: r)).2) ∧ (piece (c :: r)).2 ≤ n := by
  rw [rd_piece h] at hr
  split at hr
  · cases hr
  · rename_i h0
    obtain ⟨⟨s', n'⟩, h1, h2⟩ := Option.map_eq_some_iff.1 hr
    simp only [Prod.mk.injEq] at h2
    obtain ⟨rfl, rfl⟩ := h2
    exact ⟨h0, s', rfl, by rw [h1]; simp, by omega⟩
end Go.Proofs.YtncjaohiimenaabDoor
