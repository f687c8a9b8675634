/- Blanks put in ahead of a token change no token: plain laws. -/
import Derived.Test.YtljdfaoplenloabDoorRemarks
namespace Go.Proofs.YtljdfaoplenloabDoor
open Go.RowKit
set_option linter.unusedSimpArgs false
set_option linter.unusedVariables false

theorem sameT_len {a b : List Tk} (h : SameT a b) : b.length = a.length := by have := congrArg List.length h; simpa using this.symm
theorem sameT_last {a b : List Tk} (h : SameT a b) : a.getLast?.map (fun t => (t.kind, t.text)) = b.getLast?.map (fun t => (t.kind, t.text)) := by
  rw [← List.getLast?_map, ← List.getLast?_map]; exact congrArg List.getLast? h
theorem sameT_snoc {a b : List Tk} (h : SameT a b) {x y : Tk} (hk : x.kind = y.kind) (ht : x.text = y.text) : SameT (a ++ [x]) (b ++ [y]) := by
  unfold SameT at *; rw [List.map_append, List.map_append, h]; simp [hk, ht]
theorem add_shift {s s2 s1 : Sc} {k : Int} {t : ByteArray} (hT : SameT s.ts s2.ts) (h : s.addR k t = .ok s1) : ∃ s3, s2.addR k t = .ok s3 ∧ SameT s1.ts s3.ts := by
  unfold Sc.addR at h ⊢
  rw [sameT_len hT]
  split at h
  · cases h
  · rename_i hn; rw [if_neg hn]; cases h; exact ⟨_, rfl, sameT_snoc hT rfl rfl⟩
theorem close_shift {s s2 s1 : Sc} (hT : SameT s.ts s2.ts) (h : s.closeR = .ok s1) : ∃ s3, s2.closeR = .ok s3 ∧ SameT s1.ts s3.ts := by
  have hl := sameT_last hT
  unfold Sc.closeR at h ⊢
  cases h1 : s.ts.getLast? with
  | none =>
    rw [h1] at hl h
    cases h2 : s2.ts.getLast? with
    | none => cases h; exact ⟨s2, rfl, hT⟩
    | some y => rw [h2] at hl; simp at hl
  | some x =>
    rw [h1] at hl h
    cases h2 : s2.ts.getLast? with
    | none => rw [h2] at hl; simp at hl
    | some y =>
      rw [h2] at hl
      simp only [Option.map_some, Option.some.injEq, Prod.mk.injEq] at hl
      simp only at h ⊢
      rw [← hl.1, ← hl.2]
      split at h
      · rename_i hm; rw [if_pos hm]; exact add_shift hT h
      · rename_i hm; rw [if_neg hm]; cases h; exact ⟨s2, rfl, hT⟩
theorem step_shift {s s2 s1 : Sc} {r : ByteArray} {h0 : 0 < r.size} (hT : SameT s.ts s2.ts) (h : s.stepR r h0 = .ok s1) : ∃ s3, s2.stepR r h0 = .ok s3 ∧ SameT s1.ts s3.ts ∧ s3.pos + s.pos = s1.pos + s2.pos := by
  unfold Sc.stepR at h ⊢
  split at h
  · rename_i h1
    rw [if_pos h1]
    cases hc : s.closeR with
    | bad c ln cl => rw [hc] at h; cases h
    | ok e =>
      rw [hc] at h; cases h
      obtain ⟨e', a, b⟩ := close_shift hT hc
      rw [a]; exact ⟨_, rfl, b, by simp; omega⟩
  rename_i h1
  split at h
  · rename_i h2; rw [if_neg h1, if_pos h2]; cases h; exact ⟨_, rfl, hT, by simp; omega⟩
  rename_i h2
  split at h
  · rename_i h3; rw [if_neg h1, if_neg h2, if_pos h3]; cases h; exact ⟨_, rfl, hT, by simp; omega⟩
  rename_i h3
  split at h
  · rename_i h4
    rw [if_neg h1, if_neg h2, if_neg h3, if_pos h4]
    cases hc : s.addR (fsT r h0).1 (r.extract 0 (fsT r h0).2.1.toNat) with
    | bad c ln cl => rw [hc] at h; cases h
    | ok e =>
      rw [hc] at h; cases h
      obtain ⟨e', a, b⟩ := add_shift hT hc
      rw [a]; exact ⟨_, rfl, b, by simp; omega⟩
  · cases h
/-- n blanks put in at p. -/
structure Ins (src src' : ByteArray) (p n : Nat) : Prop where
  le : p ≤ src.size
  list : src'.data.toList = src.data.toList.take p ++ (List.replicate n 32 ++ src.data.toList.drop p)
theorem Ins.size {src src' : ByteArray} {p n : Nat} (i : Ins src src' p n) : src'.size = src.size + n := by
  have := congrArg List.length i.list
  have := i.le
  simp only [bsize_list, List.length_append, List.length_take, List.length_drop, List.length_replicate] at *
  omega
theorem Ins.behind {src src' : ByteArray} {p n q : Nat} (i : Ins src src' p n) (h : p ≤ q) : src'.extract (q + n) src'.size = src.extract q src.size := by
  apply ba_ext
  have hp : (src.data.toList.take p).length = p := by rw [List.length_take, bsize_list]; have := i.le; omega
  rw [drop_list, drop_list, i.list, List.drop_append, List.drop_eq_nil_of_le (by omega), List.drop_append, List.drop_eq_nil_of_le (by rw [List.length_replicate]; omega), hp, List.length_replicate, List.drop_drop]
  simp
  congr 1
  omega
theorem Ins.blanks {src src' : ByteArray} {p n : Nat} (i : Ins src src' p n) : src'.data.toList.drop p = List.replicate n 32 ++ src.data.toList.drop p := by
  have hp : (src.data.toList.take p).length = p := by rw [List.length_take, bsize_list]; have := i.le; omega
  rw [i.list, List.drop_append, List.drop_eq_nil_of_le (by omega), hp]
  simp
theorem run_shift {src src' : ByteArray} {p n : Nat} (i : Ins src src' p n) {e : Sc} : ∀ (f : Nat) (s s2 : Sc), s.Ok src → src.size < f + s.pos → runR src f s = .ok e → p ≤ s.pos → s2.pos = s.pos + n → SameT s.ts s2.ts →
    ∀ f', src'.size < f' + s2.pos → ∃ e', runR src' f' s2 = .ok e' ∧ SameT e.ts e'.ts := by
  have hz := i.size
  intro f
  induction f with
  | zero => intro s s2 ho hf; have := ho.pos; omega
  | succ f ih =>
    intro s s2 ho hf h hp h2 hT f' hf'
    have hop := ho.pos
    by_cases hlt : s.pos < src.size
    · have hlt' : s2.pos < src'.size := by omega
      obtain ⟨g', rfl, e1⟩ := runR_step hlt' hf'
      rw [runR, dif_pos hlt] at h
      cases hs : s.stepR (src.extract s.pos src.size) (rest_pos hlt) with
      | bad c ln cl => rw [hs] at h; cases h
      | ok s1 =>
        rw [hs] at h
        simp only at h
        obtain ⟨ho1, hup⟩ := step_ok ho hlt hs
        obtain ⟨s3, a, b, c⟩ := step_shift (s2 := s2) hT hs
        have hr : src'.extract s2.pos src'.size = src.extract s.pos src.size := by rw [h2]; exact i.behind hp
        simp only [hr, a] at e1
        obtain ⟨e', x, y⟩ := ih s1 s3 ho1 (by omega) h (by omega) (by omega) b g' (by omega)
        exact ⟨e', by rw [e1]; exact x, y⟩
    · rw [runR, dif_neg hlt] at h
      obtain ⟨e', a, b⟩ := close_shift (s2 := s2) hT h
      refine ⟨e', ?_, b⟩
      rw [runR_end (by omega) (by omega) hf']
      exact a
theorem blanks_go {src' : ByteArray} {D : List UInt8} : ∀ (k : Nat) (f : Nat) (s : Sc), src'.data.toList.drop s.pos = List.replicate k 32 ++ D → src'.size < f + s.pos →
    ∃ g, src'.size < g + (s.pos + k) ∧ runR src' f s = runR src' g { s with pos := s.pos + k }
  | 0, f, s, hd, hf => ⟨f, hf, rfl⟩
  | k + 1, f, s, hd, hf => by
    have hlt : s.pos < src'.size := by
      have := congrArg List.length hd
      simp only [List.length_drop, bsize_list, List.length_append, List.length_replicate] at this
      omega
    obtain ⟨g, rfl, e1⟩ := runR_step hlt hf
    have d0 : (src'.extract s.pos src'.size).data.toList = 32 :: (List.replicate k 32 ++ D) := by rw [drop_list, hd]; rfl
    rw [stp_blank s _ d0] at e1
    simp only at e1
    obtain ⟨g2, h2, e2⟩ := blanks_go (D := D) k g { s with pos := s.pos + 1 } (by
      show src'.data.toList.drop (s.pos + 1) = _
      rw [← List.drop_drop, hd]; rfl) (by show _ < g + (s.pos + 1); omega)
    refine ⟨g2, by have : src'.size < g2 + (s.pos + 1 + k) := h2; omega, ?_⟩
    rw [e1, e2]
    show runR src' g2 ⟨s.pos + 1 + k, _, _, _⟩ = runR src' g2 ⟨s.pos + (k + 1), _, _, _⟩
    rw [show s.pos + 1 + k = s.pos + (k + 1) by omega]
end Go.Proofs.YtljdfaoplenloabDoor
