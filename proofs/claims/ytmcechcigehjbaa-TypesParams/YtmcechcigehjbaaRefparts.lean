/- What panicroadref.pieces answers. -/
import Derived.Test.YtmcechcigehjbaaOwnparts2
import Derived.Test.YtmcechcigehjbaaRefvalid
namespace Go.Proofs.Ytmcechcigehjbaa
open Go.ChangeShapes Go.WideShapes Go.ChangeAt Go.RowKit
set_option maxRecDepth 100000
set_option linter.unusedSimpArgs false

theorem tl_comma (n : Nat) (r : Tx) : tl n (44 :: r) = 0 := by
  cases n with
  | zero => rfl
  | succ n => exact tl_none rfl rfl
/-- The parameters that come behind j of them. -/
def contP (f : Tx → Nat) (j : Nat) (l : Tx) : List (Nat × ByteArray) :=
  match l with
  | [] => []
  | c :: r => if c = 44 then parsP f j (4 - j) r else []
theorem parsP_contP {f : Tx → Nat} {j : Nat} {l : Tx} (hj : j < 4) (h : f l ≠ 0) : parsP f j (4 - j) l = (j, ⟨(l.take (f l)).toArray⟩) :: contP f (j + 1) (l.drop (f l)) := by
  rw [show 4 - j = (4 - (j + 1)) + 1 by omega, parsP, if_neg h]
  congr 1
  have e : l.drop (f l + 1) = (l.drop (f l)).drop 1 := by rw [List.drop_drop]
  rw [e]
  cases l.drop (f l) with
  | nil => rfl
  | cons c r => simp [contP]
/-- Where the document's reader stands, with what it has. -/
structure At3 (f : Tx → Nat) (l : Tx) (j a : Nat) (ps : List (Nat × ByteArray)) : Prop where
  at2 : At2 f l j a
  many : ps.length = j
  told : paramsP f (l.drop 5) = ps ++ (if j = 0 then paramsP f (l.drop a) else contP f j (l.drop a))
theorem at3_start {f : Tx → Nat} {l : Tx} (h : 5 < l.length) : At3 f l 0 5 [] := ⟨at2_start h, rfl, by simp⟩
theorem at3_close {f : Tx → Nat} {l : Tx} {j a : Nat} {ps : List (Nat × ByteArray)} (h : At3 f l j a ps) {r : Tx} (e : l.drop a = 41 :: r) : paramsP f (l.drop 5) = ps := by
  rw [h.told, e]
  split
  · rw [(params_close rfl).2, List.append_nil]
  · simp [contP]
/-- What a round does: it begins at b, behind a comma or at the first parameter. -/
theorem at3_round {f : Tx → Nat} (hf : ∀ l, f l ≤ l.length) (hc : ∀ r, f (44 :: r) = 0) {l : Tx} {j a : Nat} {ps : List (Nat × ByteArray)} (h : At3 f l j a ps) (hp : params f (l.drop 5) ≠ 0) (e : ∀ r, l.drop a ≠ 41 :: r) :
    ∃ b, ((∃ r, l.drop a = 44 :: r) → b = a + 1) ∧ ((∀ r, l.drop a ≠ 44 :: r) → b = a) ∧ f (l.drop b) ≠ 0 ∧ b + f (l.drop b) < l.length ∧ At3 f l (j + 1) (b + f (l.drop b)) (ps ++ [(j, ⟨((l.drop b).take (f (l.drop b))).toArray⟩)]) := by
  have h5 := h.at2.from5
  by_cases hj : j = 0
  · subst hj
    have ha := h.at2.first rfl
    have hpr : params f (l.drop 5) = fin (a - 5) (pars f (4 - 0) (l.drop a)) := by
      show _ = fin (a - 5) (pars f 4 (l.drop a))
      rw [at2_first hf h.at2 e, ha]
      unfold fin; split
      · next h => exact h
      · omega
    have hm : f (l.drop a) ≠ 0 := fun h0 => hp (at2_zero hpr h0)
    have hi : a + f (l.drop a) < l.length := by
      rcases Nat.lt_or_ge (a + f (l.drop a)) l.length with h1 | h1
      · exact h1
      · exact absurd (at2_out hpr h1) hp
    refine ⟨a, fun ⟨r, hr⟩ => absurd (by rw [hr, hc]) hm, fun _ => rfl, hm, hi, at2_next (by omega) h5 hpr hm hi, by rw [List.length_append, h.many]; rfl, ?_⟩
    rw [h.told, if_pos rfl, (params_else hf e).2, if_neg (by omega), List.append_assoc, parsP_contP (j := 0) (by omega) hm, List.drop_drop]
    rfl
  · have h4 := h.at2.few
    by_cases hcm : ∃ r, l.drop a = 44 :: r
    · obtain ⟨r, hr⟩ := hcm
      have hpr := at2_comma h.at2 hj hr
      have hj4 : j < 4 := by
        rcases Nat.lt_or_ge j 4 with h1 | h1
        · exact h1
        · exfalso; apply hp; rw [hpr, show 4 - j = 0 by omega]; rfl
      have hm : f (l.drop (a + 1)) ≠ 0 := fun h0 => hp (at2_zero hpr h0)
      have hi : a + 1 + f (l.drop (a + 1)) < l.length := by
        rcases Nat.lt_or_ge (a + 1 + f (l.drop (a + 1))) l.length with h1 | h1
        · exact h1
        · exact absurd (at2_out hpr h1) hp
      refine ⟨a + 1, fun _ => rfl, fun h => absurd hr (h r), hm, hi, at2_next hj4 (by omega) hpr hm hi, by rw [List.length_append, h.many]; rfl, ?_⟩
      have er : r = l.drop (a + 1) := by
        have : (l.drop a).drop 1 = l.drop (a + 1) := by rw [List.drop_drop]
        rw [← this, hr]; rfl
      have ec : contP f j (l.drop a) = parsP f j (4 - j) (l.drop (a + 1)) := by rw [hr, ← er]; simp [contP]
      rw [h.told, if_neg hj, if_neg (by omega), ec, parsP_contP hj4 hm, List.drop_drop, List.append_assoc]
      rfl
    · exfalso
      exact hp (at2_other h.at2 hj e (fun r hr => hcm ⟨r, hr⟩))
end Go.Proofs.Ytmcechcigehjbaa
