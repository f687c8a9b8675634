/- Blanks put in ahead of a token change no token: the law. -/
import Derived.Test.YtljdfaoplenloabDoorSpaces2
namespace Go.Proofs.YtljdfaoplenloabDoor
open Go.RowKit
set_option linter.unusedSimpArgs false
set_option linter.unusedVariables false

theorem tw_stop {p : UInt8 → Bool} : ∀ (A X : List UInt8), (A.takeWhile p).length < A.length → ((A ++ X).takeWhile p).length = (A.takeWhile p).length
  | [], X, h => by simp at h
  | a :: A, X, h => by
    simp only [List.cons_append, List.takeWhile_cons] at h ⊢
    split
    · rename_i ha
      rw [if_pos ha] at h
      simp only [List.length_cons] at h ⊢
      rw [tw_stop A X (by omega)]
    · rfl
theorem tw_full {p : UInt8 → Bool} : ∀ (A X : List UInt8), (A.takeWhile p).length = A.length → ((A ++ X).takeWhile p).length = A.length + (X.takeWhile p).length
  | [], X, h => by simp
  | a :: A, X, h => by
    simp only [List.cons_append, List.takeWhile_cons] at h ⊢
    split
    · rename_i ha
      rw [if_pos ha] at h
      simp only [List.length_cons] at h ⊢
      rw [tw_full A X (by omega)]
      omega
    · rename_i ha
      rw [if_neg ha] at h
      simp at h
theorem lnN_two {l : List UInt8} (h : Lib.hasPrefix l [47, 47] = true) : 2 ≤ lnN l := by
  match l with
  | [] => simp [Lib.hasPrefix, List.isPrefixOf] at h
  | [a] => simp [Lib.hasPrefix, List.isPrefixOf] at h
  | a :: b :: t =>
    simp [Lib.hasPrefix, List.isPrefixOf] at h
    obtain ⟨rfl, rfl⟩ := h
    simp [lnN]
theorem step_ins {s s1 : Sc} {a r r' : ByteArray} {D : List UInt8} {n : Nat} (m : Cut a r D) (m' : r'.data.toList = a.data.toList ++ (List.replicate (n + 1) 32 ++ D)) (ha : 0 < a.size) (h0 : 0 < r.size) (h0' : 0 < r'.size)
    (h : s.stepR r h0 = .ok s1) (hle : s1.pos ≤ s.pos + a.size) :
    s.stepR r' h0' = .ok s1 ∨ (s1.ts = s.ts ∧ s1.pos = s.pos + a.size ∧ ∃ s2 : Sc, s.stepR r' h0' = .ok s2 ∧ s2.ts = s.ts ∧ s2.pos = s1.pos + (n + 1)) := by
  have mm : More a r' (List.replicate n 32 ++ D) := ⟨by rw [m']; rfl⟩
  have two : Lib.hasPrefix a.data.toList [47, 47] = true → 2 ≤ a.size := fun x => by
    have h1 := lnN_two x
    have h2 := lnN_le a.data.toList
    rw [bsize_list] at h2
    omega
  unfold Sc.stepR at h ⊢
  rw [mm.get ha h0', ← m.get ha h0, mm.pre ha]
  split at h
  · rename_i h1; left; rw [if_pos h1]; exact h
  rename_i h1
  split at h
  · rename_i h2; left; rw [if_neg h1, if_pos h2]; exact h
  rename_i h2
  split at h
  · rename_i h3
    have l2 := lnN_two h3
    cases h
    have hl : lnN r.data.toList ≤ a.size := by
      have : s.pos + lnN r.data.toList ≤ s.pos + a.size := hle
      omega
    rw [if_neg h1, if_neg h2, if_pos (by rw [← m.pre (by omega)]; exact h3)]
    have e1 : lnN a.data.toList = lnN r.data.toList := by
      unfold lnN at hl ⊢
      rw [m.list] at hl ⊢
      exact tw_cut _ _ (by rw [bsize_list]; exact hl)
    by_cases hlt : lnN a.data.toList < a.size
    · left
      have e2 : lnN r'.data.toList = lnN a.data.toList := by
        unfold lnN at hlt ⊢
        rw [m']
        exact tw_stop _ _ (by rw [bsize_list]; exact hlt)
      rw [e2, e1]
    · right
      have ef : lnN a.data.toList = a.size := by omega
      have f1 : (a.data.toList.takeWhile (fun c => c != 10)).length = a.data.toList.length := by rw [bsize_list]; exact ef
      have g1 : lnN r.data.toList = a.size + lnN D := by
        have := tw_full _ D f1
        rw [← m.list, bsize_list] at this
        exact this
      have g2 : lnN r'.data.toList = a.size + (n + 1 + lnN D) := by
        have t1 := tw_full _ (List.replicate (n + 1) 32 ++ D) f1
        rw [← m', bsize_list] at t1
        have t2 := tw_full (p := fun c => c != 10) (List.replicate (n + 1) 32) D (by rw [tw_all (fun c hc => by rw [List.eq_of_mem_replicate hc]; decide)])
        rw [List.length_replicate] at t2
        unfold lnN
        rw [t1, t2]
      refine ⟨rfl, ?_, _, rfl, rfl, ?_⟩
      · show s.pos + lnN r.data.toList = _
        omega
      · show s.pos + lnN r'.data.toList = s.pos + lnN r.data.toList + (n + 1)
        omega
  rename_i h3
  have hpa : ¬ Lib.hasPrefix a.data.toList [47, 47] = true := fun x => h3 (by rw [m.pre (two x)]; exact x)
  split at h
  · rename_i h4
    left
    have hk : (fsT r h0).2.1.toNat ≤ a.size := by
      cases hc : s.addR (fsT r h0).1 (r.extract 0 (fsT r h0).2.1.toNat) with
      | bad c ln cl => rw [hc] at h; cases h
      | ok e =>
        rw [hc] at h; cases h
        have : s.pos + (fsT r h0).2.1.toNat ≤ s.pos + a.size := hle
        omega
    have ef : fsT a ha = fsT r h0 := m.first ha h0 h4 hk
    have eg : fsT r' h0' = fsT r h0 := (mm.first ha h0' (by rw [ef]; exact h4)).trans ef
    rw [if_neg h1, if_neg h2, if_neg hpa, eg, if_pos h4, mm.ext hk, ← m.ext hk]
    exact h
  · cases h
/-- A step adds one token or none, at the state's own place. -/
def Grew (s s1 : Sc) : Prop := s1.ts = s.ts ∨ ∃ x : Tk, s1.ts = s.ts ++ [x] ∧ x.line = s.line ∧ x.col = s.col
theorem add_grew {s s1 : Sc} {k : Int} {t : ByteArray} (h : s.addR k t = .ok s1) : Grew s s1 := by
  unfold Sc.addR at h
  split at h
  · cases h
  · cases h; exact .inr ⟨_, rfl, rfl, rfl⟩
theorem close_grew {s s1 : Sc} (h : s.closeR = .ok s1) : Grew s s1 := by
  unfold Sc.closeR at h
  split at h
  · cases h; exact .inl rfl
  · split at h
    · exact add_grew h
    · cases h; exact .inl rfl
theorem step_grew {s s1 : Sc} {r : ByteArray} {h0 : 0 < r.size} (h : s.stepR r h0 = .ok s1) : Grew s s1 := by
  unfold Sc.stepR at h
  split at h
  · cases hc : s.closeR with
    | bad c ln cl => rw [hc] at h; cases h
    | ok e => rw [hc] at h; cases h; exact (show e.ts = s.ts ∨ ∃ x : Tk, e.ts = s.ts ++ [x] ∧ x.line = s.line ∧ x.col = s.col from close_grew hc)
  split at h
  · cases h; exact .inl rfl
  split at h
  · cases h; exact .inl rfl
  split at h
  · cases hc : s.addR (fsT r h0).1 (r.extract 0 (fsT r h0).2.1.toNat) with
    | bad c ln cl => rw [hc] at h; cases h
    | ok e => rw [hc] at h; cases h; exact (show e.ts = s.ts ∨ ∃ x : Tk, e.ts = s.ts ++ [x] ∧ x.line = s.line ∧ x.col = s.col from add_grew hc)
  · cases h
theorem Grew.pre {s s1 : Sc} (h : Grew s s1) : ∃ l, s1.ts = s.ts ++ l := by
  rcases h with h | ⟨x, h, _⟩
  · exact ⟨[], by simp [h]⟩
  · exact ⟨_, h⟩
theorem run_pre {src : ByteArray} {e : Sc} : ∀ (f : Nat) (s : Sc), runR src f s = .ok e → ∃ l, e.ts = s.ts ++ l
  | 0, s, h => by rw [runR] at h; cases h; exact ⟨[], by simp⟩
  | f + 1, s, h => by
    rw [runR] at h
    split at h
    · rename_i hp
      cases hs : s.stepR (src.extract s.pos src.size) (rest_pos hp) with
      | bad c ln cl => rw [hs] at h; cases h
      | ok s1 =>
        rw [hs] at h
        obtain ⟨l1, e1⟩ := (step_grew hs).pre
        obtain ⟨l2, e2⟩ := run_pre f s1 h
        exact ⟨l1 ++ l2, by rw [e2, e1, List.append_assoc]⟩
    · exact (close_grew h).pre
theorem grew_at {s s1 e : Sc} {j : Nat} {t : Tk} (hg : Grew s s1) (hp : ∃ l, e.ts = s1.ts ++ l) (hj : e.ts[j]? = some t) (h1 : s.ts.length ≤ j) (h2 : j < s1.ts.length) : t.line = s.line ∧ t.col = s.col := by
  obtain ⟨l, hl⟩ := hp
  rcases hg with h | ⟨x, h, a, b⟩
  · rw [h] at h2; omega
  · rw [h] at h2
    simp at h2
    obtain rfl : j = s.ts.length := by omega
    rw [hl, h] at hj
    simp at hj
    subst hj
    exact ⟨a, b⟩
theorem ext_list (s : ByteArray) (i j : Nat) : (s.extract i j).data.toList = (s.data.toList.drop i).take (j - i) := by
  simp [ByteArray.data_extract, Array.toList_extract, List.extract]
theorem run_at {src : ByteArray} {e : Sc} {t : Tk} {j : Nat} (hj : e.ts[j]? = some t) : ∀ (f : Nat) (s : Sc), s.In src → src.size < f + s.pos → runR src f s = .ok e → s.ts.length ≤ j →
    ∃ p, s.pos ≤ p ∧ p ≤ src.size ∧ plc src.data.toList p = (t.line, t.col) ∧ ∀ src' n, Ins src src' p (n + 1) → ∀ f', src'.size < f' + s.pos → ∃ e', runR src' f' s = .ok e' ∧ SameT e.ts e'.ts := by
  intro f
  induction f with
  | zero => intro s hi hf; have := hi.ok.pos; omega
  | succ f ih =>
    intro s hi hf h hlen
    have hop := hi.ok.pos
    have here : t.line = s.line ∧ t.col = s.col → ∃ p, s.pos ≤ p ∧ p ≤ src.size ∧ plc src.data.toList p = (t.line, t.col) ∧ ∀ src' n, Ins src src' p (n + 1) → ∀ f', src'.size < f' + s.pos → ∃ e', runR src' f' s = .ok e' ∧ SameT e.ts e'.ts := by
      rintro ⟨a, b⟩
      refine ⟨s.pos, Nat.le_refl _, hop, by rw [hi.plc, a, b], ?_⟩
      intro src' n i f' hf'
      obtain ⟨g, hg, eg⟩ := blanks_go (n + 1) f' s i.blanks hf'
      rw [eg]
      exact run_shift i (f + 1) s { s with pos := s.pos + (n + 1) } hi.ok hf h (Nat.le_refl _) rfl rfl g hg
    by_cases hp : s.pos < src.size
    · have h' := h
      rw [runR, dif_pos hp] at h'
      cases hs : s.stepR (src.extract s.pos src.size) (rest_pos hp) with
      | bad c ln cl => rw [hs] at h'; cases h'
      | ok s1 =>
        rw [hs] at h'
        simp only at h'
        obtain ⟨ho1, hup⟩ := step_ok hi.ok hp hs
        by_cases hl : s1.ts.length ≤ j
        · obtain ⟨p, p1, p2, p3, p4⟩ := ih s1 (step_in hi hp hs) (by omega) h' hl
          refine ⟨p, by omega, p2, p3, ?_⟩
          intro src' n i f' hf'
          have hz := i.size
          have hp' : s.pos < src'.size := by omega
          obtain ⟨g', rfl, e1⟩ := runR_step hp' hf'
          have hasz : (src.extract s.pos p).size = p - s.pos := by rw [ByteArray.size_extract]; omega
          have hA : (src.extract s.pos p).data.toList = (src.data.toList.drop s.pos).take (p - s.pos) := ext_list _ _ _
          have m : Cut (src.extract s.pos p) (src.extract s.pos src.size) (src.data.toList.drop p) := ⟨by
            rw [drop_list, hA, show src.data.toList.drop p = (src.data.toList.drop s.pos).drop (p - s.pos) by rw [List.drop_drop]; congr 1; omega, List.take_append_drop]⟩
          have m' : (src'.extract s.pos src'.size).data.toList = (src.extract s.pos p).data.toList ++ (List.replicate (n + 1) 32 ++ src.data.toList.drop p) := by
            rw [drop_list, hA, i.list, List.drop_append_of_le_length (by rw [List.length_take, bsize_list]; omega), List.drop_take]
          rcases step_ins m m' (by omega) (rest_pos hp) (rest_pos hp') hs (by omega) with h2 | ⟨t1, q1, s2, h2, t2, q2⟩
          · rw [h2] at e1
            obtain ⟨e', x, y⟩ := p4 src' n i g' (by omega)
            exact ⟨e', by rw [e1]; exact x, y⟩
          · rw [h2] at e1
            obtain ⟨e', x, y⟩ := run_shift i f s1 s2 ho1 (by omega) h' (by omega) (by omega) (by rw [t1, t2]; rfl) g' (by omega)
            exact ⟨e', by rw [e1]; exact x, y⟩
        · exact here (grew_at (step_grew hs) (run_pre f s1 h') hj hlen (by omega))
    · have h' := h
      rw [runR, dif_neg hp] at h'
      exact here (grew_at (close_grew h') ⟨[], by simp⟩ hj hlen (List.getElem?_eq_some_iff.1 hj).1)
/-- Blanks put in ahead of a token change no token but for places. -/
theorem tok_spaces {src : ByteArray} {e : Sc} {t : Tk} {j : Nat} (h : tokR src = .ok e) (hj : e.ts[j]? = some t) :
    ∃ p, p ≤ src.size ∧ plc src.data.toList p = (t.line, t.col) ∧ ∀ src' n, Ins src src' p n → src'.size ≤ 8000 → ∃ e', tokR src' = .ok e' ∧ SameT e.ts e'.ts := by
  have h' := h
  unfold tokR at h'
  split at h'
  · cases h'
  · rename_i hz
    obtain ⟨p, -, p2, p3, p4⟩ := run_at hj _ sc0 ⟨sc0_ok (by omega), rfl, Nat.le_refl _⟩ (by simp [sc0]) h' (by simp [sc0])
    refine ⟨p, p2, p3, ?_⟩
    intro src' n i h8
    cases n with
    | zero =>
      have : src' = src := ba_ext (by rw [i.list]; simp)
      rw [this]
      exact ⟨e, h, rfl⟩
    | succ n =>
      unfold tokR
      rw [if_neg (by omega)]
      exact p4 src' n i _ (by simp [sc0])
end Go.Proofs.YtljdfaoplenloabDoor
