/- Quoting and reading what is quoted undo each other: plain laws. -/
import Derived.Test.YtncjaohiimenaabDoorUnqplain
namespace Go.Proofs.YtncjaohiimenaabDoor

theorem rd_piece_of {c : UInt8} (h : okB c = true) (r : List UInt8) : rd (qPiece c ++ r) = (rd r).map fun p => (c :: p.1, p.2 + (qPiece c).length) := by
  rcases byte_ways c with h1 | h1 | h1 | h1 | h1 | h1
  · subst h1; rw [show qPiece 34 = [92, 34] by decide]; show rd (92 :: 34 :: r) = _
    rw [rd_cons, if_neg (by decide), if_pos rfl]; rfl
  · subst h1; rw [show qPiece 92 = [92, 92] by decide]; show rd (92 :: 92 :: r) = _
    rw [rd_cons, if_neg (by decide), if_pos rfl]; rfl
  · subst h1; rw [show qPiece 10 = [92, 110] by decide]; show rd (92 :: 110 :: r) = _
    rw [rd_cons, if_neg (by decide), if_pos rfl]; rfl
  · subst h1; rw [show qPiece 9 = [92, 116] by decide]; show rd (92 :: 116 :: r) = _
    rw [rd_cons, if_neg (by decide), if_pos rfl]; rfl
  · obtain ⟨hp, h2, h3, h4, h5⟩ := h1
    rw [qPiece_plain ⟨h2, h3, h4, h5⟩]; show rd (c :: r) = _
    rw [rd_cons, if_neg h2, if_neg h3, if_pos hp]; rfl
  · rw [okB_not h1] at h; cases h
theorem rd_body : ∀ (l r : List UInt8), l.all okB = true → rd (qBody l ++ 34 :: r) = some (l, (qBody l).length + 1)
  | [], r, _ => by show rd (34 :: r) = _; rw [rd_close]; rfl
  | c :: l, r, h => by
    simp only [List.all_cons, Bool.and_eq_true] at h
    have e : qBody (c :: l) = qPiece c ++ qBody l := by simp [qBody]
    rw [e, List.append_assoc, rd_piece_of h.1, rd_body l r h.2]
    simp; omega
theorem uq_quoted {l : List UInt8} (h : l.all okB = true) (hl : l.length ≤ 200) : uq (34 :: (qBody l ++ [34])) = some l := by
  have := rd_body l [] h
  have e : rq (34 :: (qBody l ++ [34])) = some (l, (qBody l).length + 1 + 1) := by
    simp only [rq, if_pos]
    rw [this]
    simp [hl]
  unfold uq
  rw [e]
  simp
/-- What can be quoted is read again; what can't gives nothing. -/
theorem quote_back (l : List UInt8) : (qE l = 0 ∧ uqS (qS l) = l ∧ uqE (qS l) = 0) ∨ ((qE l = 1 ∨ qE l = 4) ∧ qS l = [] ∧ uqE (qS l) = 4) := by
  by_cases h : 200 < l.length
  · right; simp [qE, qS, h]; decide
  · cases ha : l.all okB with
    | true =>
      left
      have e : qS l = 34 :: (qBody l ++ [34]) := by unfold qS; rw [if_neg h, if_pos ha]
      have u := uq_quoted ha (by omega)
      refine ⟨by unfold qE; rw [if_neg h, if_pos ha], ?_, ?_⟩
      · rw [e]; unfold uqS; rw [u]
      · rw [e]; unfold uqE; rw [u]
    | false =>
      right
      have e : qS l = [] := by unfold qS; rw [if_neg h, ha]; rfl
      refine ⟨.inr (by unfold qE; rw [if_neg h, ha]; rfl), e, ?_⟩
      rw [e]; decide
theorem esc_piece {d x : UInt8} (h : esc d = some x) : qPiece x = [92, d] ∧ okB x = true := by
  unfold esc at h
  split at h
  · rename_i hd; cases h; rcases hd with rfl | rfl <;> decide
  split at h
  · rename_i hd; cases h; subst hd; decide
  split at h
  · rename_i hd; cases h; subst hd; decide
  · cases h
theorem rd_back : ∀ (l s : List UInt8) (n : Nat), rd l = some (s, n) → l.take n = qBody s ++ [34] ∧ s.all okB = true := by
  intro l
  induction hn : l.length using Nat.strongRecOn generalizing l with
  | ind m ih =>
    intro s n h
    cases l with
    | nil => simp [rd] at h
    | cons c r =>
      simp only [List.length_cons] at hn
      rw [rd_cons] at h
      split at h
      · rename_i hc; cases h; subst hc; exact ⟨rfl, rfl⟩
      · rename_i h34
        split at h
        · rename_i hc
          subst hc
          cases r with
          | nil => cases h
          | cons d r' =>
            simp only at h
            cases he : esc d with
            | none => rw [he] at h; cases h
            | some x =>
              rw [he] at h
              obtain ⟨⟨s', n'⟩, h1, h2⟩ := Option.map_eq_some_iff.1 h
              simp only [Prod.mk.injEq] at h2
              obtain ⟨rfl, rfl⟩ := h2
              simp only [List.length_cons] at hn
              obtain ⟨g1, g2⟩ := ih r'.length (by omega) r' rfl s' n' h1
              obtain ⟨p1, p2⟩ := esc_piece he
              have e : qBody (x :: s') = qPiece x ++ qBody s' := by simp [qBody]
              refine ⟨?_, by simp [p2, g2]⟩
              rw [e, p1, List.append_assoc, ← g1]
              rfl
        · rename_i h92
          split at h
          · rename_i hp
            obtain ⟨⟨s', n'⟩, h1, h2⟩ := Option.map_eq_some_iff.1 h
            simp only [Prod.mk.injEq] at h2
            obtain ⟨rfl, rfl⟩ := h2
            obtain ⟨g1, g2⟩ := ih r.length (by omega) r rfl s' n' h1
            have q1 : c ≠ 10 := by rintro rfl; exact absurd hp.1 (by decide)
            have q2 : c ≠ 9 := by rintro rfl; exact absurd hp.1 (by decide)
            have e : qBody (c :: s') = qPiece c ++ qBody s' := by simp [qBody]
            refine ⟨?_, by simp [okB_plain hp]; simpa using g2⟩
            rw [e, qPiece_plain ⟨h34, h92, q1, q2⟩, List.append_assoc, ← g1]
            rfl
          · cases h
/-- What is read as a quoted text is quoted as just this text. -/
theorem quote_only (l : List UInt8) : (uqE l = 0 ∧ qS (uqS l) = l ∧ qE (uqS l) = 0) ∨ (uqE l = 4 ∧ uqS l = []) := by
  cases h : uq l with
  | none => right; simp [uqE, uqS, h]
  | some s =>
    left
    have e1 : uqE l = 0 := by unfold uqE; rw [h]
    have e2 : uqS l = s := by unfold uqS; rw [h]
    unfold uq at h
    obtain ⟨⟨s', n⟩, h1, h2⟩ := Option.bind_eq_some_iff.1 h
    simp only at h2
    split at h2
    · rename_i hn
      cases h2
      cases l with
      | nil => cases h1
      | cons c r =>
        simp only [rq] at h1
        split at h1
        · rename_i hc
          subst hc
          obtain ⟨⟨s'', n'⟩, g1, g2⟩ := Option.bind_eq_some_iff.1 h1
          simp only at g2
          split at g2
          · rename_i hl
            simp only [Option.some.injEq, Prod.mk.injEq] at g2
            obtain ⟨rfl, rfl⟩ := g2
            obtain ⟨p1, p2⟩ := rd_back _ _ _ g1
            simp only [List.length_cons] at hn
            rw [List.take_of_length_le (by omega)] at p1
            refine ⟨e1, ?_, ?_⟩
            · rw [e2]; unfold qS; rw [if_neg (by omega), if_pos p2, p1]
            · rw [e2]; unfold qE; rw [if_neg (by omega), if_pos p2]
          · cases g2
        · cases h1
    · cases h2
end Go.Proofs.YtncjaohiimenaabDoor
