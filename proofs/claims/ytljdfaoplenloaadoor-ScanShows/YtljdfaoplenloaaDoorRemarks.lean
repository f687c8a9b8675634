/- A remark behind the source changes no token: plain laws. -/
import Derived.Test.YtljdfaoplenloaaDoorPlaces
namespace Go.Proofs.YtljdfaoplenloaaDoor
open Go.RowKit
set_option linter.unusedSimpArgs false
set_option linter.unusedVariables false

theorem ba_ext {a b : ByteArray} (h : a.data.toList = b.data.toList) : a = b := by
  cases a; cases b; simp only [ByteArray.mk.injEq]; exact Array.toList_inj.1 h
theorem take_list (s : ByteArray) (k : Nat) : (s.extract 0 k).data.toList = s.data.toList.take k := by
  simp [ByteArray.data_extract, Array.toList_extract, List.extract]
theorem get0 {r : ByteArray} (h : 0 < r.size) : r.data.toList[0]? = some r[0] := by rw [get_list r 0 h, List.getElem?_eq_getElem]
theorem get0_of {r : ByteArray} (h : 0 < r.size) {c : UInt8} {t : List UInt8} (e : r.data.toList = c :: t) : r[0] = c := by
  have := get0 h; rw [e] at this; simpa using this.symm
/-- Two rests: the second is the first, a blank and more. -/
structure More (r r' : ByteArray) (tl : List UInt8) : Prop where
  list : r'.data.toList = r.data.toList ++ 32 :: tl
theorem More.get {r r' : ByteArray} {tl : List UInt8} (m : More r r' tl) (h : 0 < r.size) (h' : 0 < r'.size) : r'[0] = r[0] := by
  have a := get0 h; have b := get0 h'
  rw [m.list, List.getElem?_append_left (by rw [bsize_list]; exact h), a] at b
  exact (Option.some.inj b).symm
theorem tw_more (l tl : List UInt8) {p : UInt8 → Bool} (hp : p 32 = false) : (l ++ 32 :: tl).takeWhile p = l.takeWhile p := by
  induction l with
  | nil => simp [hp]
  | cons a l ih => simp only [List.cons_append, List.takeWhile_cons, ih]
theorem More.run {r r' : ByteArray} {tl : List UInt8} (m : More r r' tl) : runN r'.data.toList = runN r.data.toList := by
  unfold runN; rw [m.list, tw_more _ _ (by decide)]
theorem More.ext {r r' : ByteArray} {tl : List UInt8} (m : More r r' tl) {k : Nat} (hk : k ≤ r.size) : r'.extract 0 k = r.extract 0 k := by
  apply ba_ext
  rw [take_list, take_list, m.list, List.take_append_of_le_length (by rw [bsize_list]; exact hk)]
theorem rd_more : ∀ (l tl s : List UInt8) (n : Nat), rd l = some (s, n) → rd (l ++ tl) = some (s, n) := by
  intro l
  induction hn : l.length using Nat.strongRecOn generalizing l with
  | ind m ih =>
    intro tl s n h
    cases l with
    | nil => simp [rd] at h
    | cons c r =>
      simp only [List.length_cons] at hn
      rw [rd_cons] at h
      rw [List.cons_append, rd_cons]
      split at h
      · rename_i hc; rw [if_pos hc]; exact h
      · rename_i h34
        rw [if_neg h34]
        split at h
        · rename_i hc
          rw [if_pos hc]
          cases r with
          | nil => cases h
          | cons d r' =>
            simp only [List.cons_append] at h ⊢
            cases he : esc d with
            | none => rw [he] at h; cases h
            | some x =>
              rw [he] at h
              obtain ⟨⟨s', n'⟩, h1, h2⟩ := Option.map_eq_some_iff.1 h
              simp only [List.length_cons] at hn
              simp only [ih r'.length (by omega) r' rfl tl s' n' h1, Option.map_some, h2]
        · rename_i h92
          rw [if_neg h92]
          split at h
          · rename_i hp
            rw [if_pos hp]
            obtain ⟨⟨s', n'⟩, h1, h2⟩ := Option.map_eq_some_iff.1 h
            simp only [ih r.length (by omega) r rfl tl s' n' h1, Option.map_some, h2]
          · cases h
theorem rq_more {l tl : List UInt8} {p : List UInt8 × Nat} (h : rq l = some p) : rq (l ++ tl) = some p := by
  cases l with
  | nil => simp [rq] at h
  | cons c r =>
    simp only [rq, List.cons_append] at h ⊢
    split at h
    · rename_i hc
      rw [if_pos hc]
      obtain ⟨⟨s, n⟩, h1, h2⟩ := Option.bind_eq_some_iff.1 h
      rw [rd_more r tl s n h1]
      exact h2
    · cases h
theorem sgn_blank (c : UInt8) {s : ByteArray} (h : s.data.toList = [c, 32]) : sgnB s = false := by
  rw [sgnB_of, ByteArray.toList_eq, h]; simp
theorem More.sgn {r r' : ByteArray} {tl : List UInt8} (m : More r r' tl) (h : 0 < r.size) : sgnN r' = sgnN r := by
  have hz : r'.size = r.size + 1 + tl.length := by have := congrArg List.length m.list; simp only [bsize_list, List.length_append, List.length_cons] at this; omega
  unfold sgnN
  rw [m.ext (k := 1) (by omega)]
  by_cases h2 : 2 ≤ r.size
  · rw [m.ext (k := 2) h2]
    have e1 : (2 ≤ r'.size ∧ sgnB (r.extract 0 2) = true) = (2 ≤ r.size ∧ sgnB (r.extract 0 2) = true) := by simp [h2, show 2 ≤ r'.size by omega]
    simp only [e1]
  · have hl : ∃ c, r.data.toList = [c] := by
      have := bsize_list r
      match hh : r.data.toList with
      | [] => rw [hh] at this; simp at this; omega
      | [c] => exact ⟨c, rfl⟩
      | a :: b :: t => rw [hh] at this; simp at this; omega
    obtain ⟨c, hc⟩ := hl
    have e2 : sgnB (r'.extract 0 2) = false := sgn_blank c (by rw [take_list, m.list, hc]; rfl)
    have e3 : ¬ (2 ≤ r.size ∧ sgnB (r.extract 0 2) = true) := fun x => h2 x.1
    have e4 : ¬ (2 ≤ r'.size ∧ sgnB (r'.extract 0 2) = true) := fun x => by rw [e2] at x; exact Bool.noConfusion x.2
    rw [if_neg e3, if_neg e4]
theorem fs_le {r : ByteArray} (h : 0 < r.size) (he : (fsT r h).2.2 = 0) : (fsT r h).2.1.toNat ≤ r.size := by
  obtain ⟨n, h1, _, h3⟩ := fsT_ok r h he
  rw [h1]; exact h3
/-- The first token is the same. -/
theorem More.first {r r' : ByteArray} {tl : List UInt8} (m : More r r' tl) (h : 0 < r.size) (h' : 0 < r'.size) (he : (fsT r h).2.2 = 0) : fsT r' h' = fsT r h := by
  have hr := runN_le r.data.toList
  rw [bsize_list] at hr
  unfold fsT at he ⊢
  rw [m.get h h', m.run, m.ext hr]
  split
  · rfl
  · rename_i h1
    rw [if_neg h1] at he
    split
    · rfl
    · rename_i h2
      rw [if_neg h2] at he
      split
      · rename_i h3
        rw [if_pos h3] at he
        unfold txT rqE rqN at he ⊢
        rw [m.list]
        cases hq : rq r.data.toList with
        | none => rw [hq] at he; simp at he
        | some p => rw [rq_more hq]
      · split
        · rfl
        · unfold sgT; rw [m.sgn h]
theorem More.pre {r r' : ByteArray} {tl : List UInt8} (m : More r r' tl) (h : 0 < r.size) : Lib.hasPrefix r'.data.toList [47, 47] = Lib.hasPrefix r.data.toList [47, 47] := by
  rw [m.list]
  have := bsize_list r
  match hh : r.data.toList with
  | [] => rw [hh] at this; simp at this; omega
  | [c] => simp [Lib.hasPrefix, List.isPrefixOf]
  | a :: b :: t => simp [Lib.hasPrefix, List.isPrefixOf]
theorem tw_all {p : UInt8 → Bool} : ∀ {l : List UInt8}, (∀ c ∈ l, p c = true) → l.takeWhile p = l
  | [], _ => rfl
  | a :: l, h => by rw [List.takeWhile_cons, if_pos (h a (by simp)), tw_all (fun c hc => h c (by simp [hc]))]
theorem ln_more (l m : List UInt8) (hm : ∀ c ∈ m, c ≠ 10) : (lnN l = l.length ∧ lnN (l ++ m) = l.length + m.length) ∨ lnN (l ++ m) = lnN l := by
  unfold lnN
  induction l with
  | nil =>
    left
    refine ⟨rfl, ?_⟩
    rw [List.nil_append, tw_all (fun c hc => by simpa using hm c hc)]
    simp
  | cons a l ih =>
    simp only [List.cons_append, List.takeWhile_cons]
    split
    · rcases ih with ⟨h1, h2⟩ | h2
      · left; simp only [List.length_cons, h1, h2]; exact ⟨trivial, by omega⟩
      · right; simp only [List.length_cons, h2]
    · right; rfl
/-- The same tokens, but for their places. -/
def SameT (a b : List Tk) : Prop := a.map (fun t => (t.kind, t.text)) = b.map (fun t => (t.kind, t.text))
theorem close_same {s s2 e : Sc} (ht : s2.ts = s.ts) (h : s.closeR = .ok e) : ∃ e', s2.closeR = .ok e' ∧ SameT e.ts e'.ts := by
  unfold Sc.closeR at h ⊢
  rw [ht]
  split at h
  · cases h; exact ⟨s2, rfl, by rw [ht]; rfl⟩
  · rename_i t hl
    split at h
    · rename_i hm
      rw [if_pos hm]
      unfold Sc.addR at h ⊢
      rw [ht]
      split at h
      · cases h
      · rename_i hn
        rw [if_neg hn]
        cases h
        exact ⟨_, rfl, by simp [SameT, Sc.put, ht]⟩
    · rename_i hm
      rw [if_neg hm]
      cases h
      exact ⟨s2, rfl, by rw [ht]; rfl⟩
theorem stp_blank (s : Sc) {r : ByteArray} (h : 0 < r.size) {t : List UInt8} (e : r.data.toList = 32 :: t) : s.stepR r h = .ok { s with pos := s.pos + 1 } := by
  have := get0_of h e
  unfold Sc.stepR
  rw [if_neg (by rw [this]; decide), if_pos (.inl this)]
theorem stp_rem (s : Sc) {r : ByteArray} (h : 0 < r.size) {t : List UInt8} (e : r.data.toList = 47 :: 47 :: t) : s.stepR r h = .ok { s with pos := s.pos + lnN r.data.toList } := by
  have := get0_of h e
  unfold Sc.stepR
  rw [if_neg (by rw [this]; decide), if_neg (by rw [this]; decide), if_pos (by rw [e]; simp [Lib.hasPrefix, List.isPrefixOf])]
/-- The end: a blank and a remark go by. -/
theorem end_more {src src' : ByteArray} {m : List UInt8} (hl : src'.data.toList = src.data.toList ++ 32 :: 47 :: 47 :: m) (hm : ∀ c ∈ m, c ≠ 10) {s : Sc} (hp : s.pos = src.size) {f : Nat} (hf : src'.size < f + s.pos) :
    ∃ s2 : Sc, runR src' f s = s2.closeR ∧ s2.ts = s.ts := by
  have hz : src'.size = src.size + (m.length + 3) := by have := congrArg List.length hl; simp only [bsize_list, List.length_append, List.length_cons] at this; omega
  have hd : ∀ k, src'.data.toList.drop (src.size + k) = (32 :: 47 :: 47 :: m).drop k := fun k => by rw [hl, ← bsize_list src, List.drop_append, List.drop_eq_nil_of_le (by omega)]; simp
  have h1 : s.pos < src'.size := by omega
  obtain ⟨g, rfl, e1⟩ := runR_step h1 hf
  have d0 : (src'.extract s.pos src'.size).data.toList = 32 :: 47 :: 47 :: m := by rw [drop_list, hp]; exact hd 0
  rw [stp_blank s _ d0] at e1
  simp only at e1
  have h2 : ({ s with pos := s.pos + 1 } : Sc).pos < src'.size := by show s.pos + 1 < _; omega
  obtain ⟨g', rfl, e2⟩ := runR_step (f := g) h2 (by show _ < g + (s.pos + 1); omega)
  have d1 : (src'.extract ({ s with pos := s.pos + 1 } : Sc).pos src'.size).data.toList = 47 :: 47 :: m := by rw [drop_list]; show src'.data.toList.drop (s.pos + 1) = _; rw [hp]; exact hd 1
  rw [stp_rem _ _ d1] at e2
  simp only at e2
  have hln : lnN (src'.extract (s.pos + 1) src'.size).data.toList = m.length + 2 := by
    have d1' : (src'.extract (s.pos + 1) src'.size).data.toList = 47 :: 47 :: m := d1
    rw [d1']
    unfold lnN
    rw [tw_all (fun c hc => by
      simp only [List.mem_cons] at hc
      rcases hc with rfl | rfl | hc
      · decide
      · decide
      · simpa using hm c hc)]
    rfl
  refine ⟨{ s with pos := s.pos + 1 + lnN (src'.extract (s.pos + 1) src'.size).data.toList }, ?_, rfl⟩
  rw [e1, e2]
  rw [hln]
  exact runR_end (by show ¬ (s.pos + 1 + (m.length + 2) < _); omega) (by show s.pos + 1 + (m.length + 2) ≤ _; omega) (by show _ < g' + (s.pos + 1 + (m.length + 2)); omega)
theorem step_more {s s1 : Sc} {r r' : ByteArray} {tl : List UInt8} (m : More r r' tl) (hm : ∀ c ∈ tl, c ≠ 10) (h0 : 0 < r.size) (h0' : 0 < r'.size) (h : s.stepR r h0 = .ok s1) :
    s.stepR r' h0' = .ok s1 ∨ (s1.ts = s.ts ∧ s1.pos = s.pos + r.size ∧ ∃ s2 : Sc, s.stepR r' h0' = .ok s2 ∧ s2.ts = s.ts ∧ s2.pos = s.pos + r'.size) := by
  unfold Sc.stepR at h ⊢
  rw [m.get h0 h0', m.pre h0]
  split at h
  · rename_i h1; left; rw [if_pos h1]; exact h
  rename_i h1
  split at h
  · rename_i h2; left; rw [if_neg h1, if_pos h2]; exact h
  rename_i h2
  split at h
  · rename_i h3
    rw [if_neg h1, if_neg h2, if_pos h3]
    cases h
    rcases ln_more r.data.toList (32 :: tl) (fun c hc => by
      simp only [List.mem_cons] at hc
      rcases hc with rfl | hc
      · decide
      · exact hm c hc) with ⟨e1, e2⟩ | e2
    · right
      refine ⟨rfl, by rw [e1, bsize_list], _, rfl, rfl, ?_⟩
      show s.pos + lnN r'.data.toList = _
      rw [m.list, e2, ← bsize_list r', m.list, List.length_append]
    · left; rw [m.list, e2]
  rename_i h3
  split at h
  · rename_i h4
    left
    rw [if_neg h1, if_neg h2, if_neg h3, m.first h0 h0' h4, if_pos h4, m.ext (fs_le h0 h4)]
    exact h
  · cases h
theorem more_rest {src src' : ByteArray} {tl : List UInt8} (hl : src'.data.toList = src.data.toList ++ 32 :: tl) {p : Nat} (hp : p < src.size) : More (src.extract p src.size) (src'.extract p src'.size) tl :=
  ⟨by rw [drop_list, drop_list, hl, List.drop_append_of_le_length (by rw [bsize_list]; omega)]⟩
/-- The whole run. -/
theorem run_more {src src' : ByteArray} {m : List UInt8} (hl : src'.data.toList = src.data.toList ++ 32 :: 47 :: 47 :: m) (hm : ∀ c ∈ m, c ≠ 10) {e : Sc} :
    ∀ (f : Nat) (s : Sc), s.Ok src → src.size < f + s.pos → runR src f s = .ok e → ∀ f', src'.size < f' + s.pos → ∃ e', runR src' f' s = .ok e' ∧ SameT e.ts e'.ts := by
  have hz : src'.size = src.size + (m.length + 3) := by have := congrArg List.length hl; simp only [bsize_list, List.length_append, List.length_cons] at this; omega
  intro f
  induction f with
  | zero => intro s ho hf; have := ho.pos; omega
  | succ f ih =>
    intro s ho hf h f' hf'
    by_cases hp : s.pos < src.size
    · have hp' : s.pos < src'.size := by omega
      obtain ⟨g', rfl, e1⟩ := runR_step hp' hf'
      rw [runR, dif_pos hp] at h
      cases hs : s.stepR (src.extract s.pos src.size) (rest_pos hp) with
      | bad c ln cl => rw [hs] at h; cases h
      | ok s1 =>
        rw [hs] at h
        simp only at h
        obtain ⟨ho1, hlt⟩ := step_ok ho hp hs
        rcases step_more (more_rest hl hp) (fun c hc => by
          simp only [List.mem_cons] at hc
          rcases hc with rfl | rfl | hc
          · decide
          · decide
          · exact hm c hc) (rest_pos hp) (rest_pos hp') hs with h2 | ⟨t1, p1, s2, h2, t2, p2⟩
        · rw [h2] at e1
          obtain ⟨e', a, b⟩ := ih s1 ho1 (by omega) h g' (by omega)
          exact ⟨e', by rw [e1]; exact a, b⟩
        · rw [h2] at e1
          rw [ByteArray.size_extract] at p1 p2
          have q1 : s1.pos = src.size := by omega
          have q2 : s2.pos = src'.size := by omega
          rw [runR_end (by omega) (by omega) (by omega)] at h
          obtain ⟨e', a, b⟩ := close_same (s2 := s2) (by rw [t1, t2]) h
          refine ⟨e', ?_, b⟩
          rw [e1]
          simp only
          rw [runR_end (by omega) (by omega) (by omega)]
          exact a
    · have := ho.pos
      rw [runR, dif_neg hp] at h
      obtain ⟨s2, e1, e2⟩ := end_more hl hm (by omega) hf'
      obtain ⟨e', a, b⟩ := close_same e2 h
      exact ⟨e', by rw [e1]; exact a, b⟩
/-- A remark of one line at the end changes no token. -/
theorem tok_remark {src src' : ByteArray} {m : List UInt8} (hl : src'.data.toList = src.data.toList ++ 32 :: 47 :: 47 :: m) (hm : ∀ c ∈ m, c ≠ 10) (hz : src'.size ≤ 8000) {e : Sc} (h : tokR src = .ok e) : ∃ e', tokR src' = .ok e' ∧ SameT e.ts e'.ts := by
  have hz' : src'.size = src.size + (m.length + 3) := by have := congrArg List.length hl; simp only [bsize_list, List.length_append, List.length_cons] at this; omega
  unfold tokR at h ⊢
  rw [if_neg (by omega)] at h
  rw [if_neg (by omega)]
  exact run_more hl hm _ sc0 (sc0_ok (by omega)) (by simp [sc0]) h _ (by simp [sc0])
end Go.Proofs.YtljdfaoplenloaaDoor
