/- Blanks put in ahead of a token change no token: the run. -/
import Derived.Test.YtljdfaoplenloabDoorSpaces
namespace Go.Proofs.YtljdfaoplenloabDoor
open Go.RowKit
set_option linter.unusedSimpArgs false
set_option linter.unusedVariables false

theorem tw_cut {p : UInt8 → Bool} : ∀ (A D : List UInt8), ((A ++ D).takeWhile p).length ≤ A.length → (A.takeWhile p).length = ((A ++ D).takeWhile p).length
  | [], D, h => by simp at h ⊢; rw [h]; rfl
  | a :: A, D, h => by
    simp only [List.cons_append, List.takeWhile_cons] at h ⊢
    split
    · rename_i ha
      rw [if_pos ha] at h
      simp only [List.length_cons] at h ⊢
      rw [tw_cut A D (by omega)]
    · rfl
theorem tw_pre {p : UInt8 → Bool} : ∀ (A D : List UInt8), (A.takeWhile p).length ≤ ((A ++ D).takeWhile p).length
  | [], D => by simp
  | a :: A, D => by
    simp only [List.cons_append, List.takeWhile_cons]
    split
    · simp only [List.length_cons]; have := tw_pre (p := p) A D; omega
    · simp
/-- A rest, and the first bytes of it. -/
structure Cut (a r : ByteArray) (D : List UInt8) : Prop where
  list : r.data.toList = a.data.toList ++ D
theorem Cut.size {a r : ByteArray} {D : List UInt8} (m : Cut a r D) : a.size ≤ r.size := by have := congrArg List.length m.list; simp only [bsize_list, List.length_append] at this; omega
theorem Cut.get {a r : ByteArray} {D : List UInt8} (m : Cut a r D) (h : 0 < a.size) (h' : 0 < r.size) : r[0] = a[0] := by
  have x := get0 h; have b := get0 h'
  rw [m.list, List.getElem?_append_left (by rw [bsize_list]; exact h), x] at b
  exact (Option.some.inj b).symm
theorem Cut.ext {a r : ByteArray} {D : List UInt8} (m : Cut a r D) {k : Nat} (hk : k ≤ a.size) : r.extract 0 k = a.extract 0 k := by
  apply ba_ext
  rw [take_list, take_list, m.list, List.take_append_of_le_length (by rw [bsize_list]; exact hk)]
theorem rd_cut : ∀ (l tl s : List UInt8) (n : Nat), rd (l ++ tl) = some (s, n) → n ≤ l.length → rd l = some (s, n) := by
  intro l
  induction hn : l.length using Nat.strongRecOn generalizing l with
  | ind m ih =>
    intro tl s n h hle
    cases l with
    | nil => have := (rd_len _ _ _ h).2.2; simp at hn; omega
    | cons c r =>
      simp only [List.length_cons] at hn
      rw [List.cons_append, rd_cons] at h
      rw [rd_cons]
      split at h
      · rename_i hc; rw [if_pos hc]; exact h
      · rename_i h34
        rw [if_neg h34]
        split at h
        · rename_i hc
          rw [if_pos hc]
          cases r with
          | nil =>
            exfalso
            cases tl with
            | nil => simp at h
            | cons d r' =>
              simp only [List.nil_append] at h
              cases he : esc d with
              | none => rw [he] at h; cases h
              | some x =>
                rw [he] at h
                obtain ⟨⟨s', n'⟩, h1, h2⟩ := Option.map_eq_some_iff.1 h
                simp only [Prod.mk.injEq] at h2
                simp at hn
                omega
          | cons d r' =>
            simp only [List.cons_append] at h ⊢
            cases he : esc d with
            | none => rw [he] at h; cases h
            | some x =>
              rw [he] at h
              obtain ⟨⟨s', n'⟩, h1, h2⟩ := Option.map_eq_some_iff.1 h
              simp only [List.length_cons] at hn
              have h3 := h2
              simp only [Prod.mk.injEq] at h3
              simp only [ih r'.length (by omega) r' rfl tl s' n' h1 (by omega), Option.map_some, h2]
        · rename_i h92
          rw [if_neg h92]
          split at h
          · rename_i hp
            rw [if_pos hp]
            obtain ⟨⟨s', n'⟩, h1, h2⟩ := Option.map_eq_some_iff.1 h
            have h3 := h2
            simp only [Prod.mk.injEq] at h3
            simp only [ih r.length (by omega) r rfl tl s' n' h1 (by omega), Option.map_some, h2]
          · cases h
theorem rq_cut {l tl : List UInt8} {p : List UInt8 × Nat} (hl : 0 < l.length) (h : rq (l ++ tl) = some p) (hle : p.2 ≤ l.length) : rq l = some p := by
  cases l with
  | nil => simp at hl
  | cons c r =>
    simp only [rq, List.cons_append] at h ⊢
    split at h
    · rename_i hc
      rw [if_pos hc]
      obtain ⟨⟨s, n⟩, h1, h2⟩ := Option.bind_eq_some_iff.1 h
      simp only at h2
      split at h2
      · rename_i h3
        simp only [Option.some.injEq] at h2
        subst h2
        simp only [List.length_cons] at hle
        rw [rd_cut r tl s n h1 (by omega)]
        simp [h3]
      · cases h2
    · cases h
theorem Cut.sgn {a r : ByteArray} {D : List UInt8} (m : Cut a r D) (h : 0 < a.size) (hle : sgnN r ≤ a.size) : sgnN a = sgnN r := by
  have hz := m.size
  unfold sgnN at hle ⊢
  rw [m.ext (k := 1) (by omega)] at hle ⊢
  by_cases h2 : 2 ≤ r.size ∧ sgnB (r.extract 0 2) = true
  · rw [if_pos h2] at hle
    rw [if_pos h2, if_pos ⟨hle, by rw [← m.ext hle]; exact h2.2⟩]
  · rw [if_neg h2]
    have : ¬ (2 ≤ a.size ∧ sgnB (a.extract 0 2) = true) := fun x => h2 ⟨by omega, by rw [m.ext x.1]; exact x.2⟩
    rw [if_neg this]
theorem Cut.first {a r : ByteArray} {D : List UInt8} (m : Cut a r D) (h : 0 < a.size) (h' : 0 < r.size) (he : (fsT r h').2.2 = 0) (hle : (fsT r h').2.1.toNat ≤ a.size) : fsT a h = fsT r h' := by
  have hz := m.size
  have hr := runN_le r.data.toList
  rw [bsize_list] at hr
  have hx : (r.extract 0 (runN r.data.toList)).size = runN r.data.toList := ext_size r _ hr
  have hrun : runN r.data.toList ≤ a.size → runN a.data.toList = runN r.data.toList := fun x => by
    unfold runN at x ⊢
    rw [m.list] at x ⊢
    exact tw_cut _ _ (by rw [bsize_list]; exact x)
  unfold fsT at he hle ⊢
  rw [m.get h h'] at he hle ⊢
  split
  · rename_i h1
    rw [if_pos h1] at he hle
    have q : runN r.data.toList ≤ a.size := by
      unfold nmT at he hle
      split at he
      · simp at he
      · rename_i h16
        rw [if_neg h16] at hle
        split at hle <;> (simp only [hx] at hle; omega)
    rw [hrun q, m.ext q]
  · rename_i h1
    rw [if_neg h1] at he hle
    split
    · rename_i h2
      rw [if_pos h2] at he hle
      have q : runN r.data.toList ≤ a.size := by
        unfold inT at he hle
        split at he
        · rename_i h3; rw [if_pos h3] at hle; simp only [hx] at hle; omega
        · simp at he
      rw [hrun q, m.ext q]
    · rename_i h2
      rw [if_neg h2] at he hle
      split
      · rename_i h3
        rw [if_pos h3] at he hle
        unfold txT rqE rqN at he hle ⊢
        rw [m.list] at he hle ⊢
        cases hq : rq (a.data.toList ++ D) with
        | none => rw [hq] at he; simp at he
        | some p =>
          rw [hq] at hle
          simp at hle
          rw [rq_cut (by rw [bsize_list]; exact h) hq (by rw [bsize_list]; exact hle)]
      · rename_i h3
        rw [if_neg h3] at he hle
        split
        · rfl
        · rename_i h4
          rw [if_neg h4] at he hle
          have q : sgnN r ≤ a.size := by
            unfold sgT at he hle
            split at hle
            · rename_i h5; omega
            · simpa using hle
          unfold sgT; rw [m.sgn h q]
theorem Cut.pre {a r : ByteArray} {D : List UInt8} (m : Cut a r D) (h2 : 2 ≤ a.size) : Lib.hasPrefix r.data.toList [47, 47] = Lib.hasPrefix a.data.toList [47, 47] := by
  rw [m.list]
  have := bsize_list a
  match hh : a.data.toList with
  | [] => rw [hh] at this; simp at this; omega
  | [c] => rw [hh] at this; simp at this; omega
  | x :: y :: t => simp [Lib.hasPrefix, List.isPrefixOf]
end Go.Proofs.YtljdfaoplenloabDoor
