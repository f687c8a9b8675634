/- Types as texts: how the document's reader goes through them. -/
import Derived.Test.YtmcechcigehjbaaTyplain2
namespace Go.Proofs.Ytmcechcigehjbaa

/-- Behind a parameter: the bracket, or a comma and more; k may come. -/
def cont (f : Tx → Nat) (k : Nat) (l : Tx) : Nat :=
  match l with
  | [] => 0
  | c :: r => if c = 41 then 1 else if c = 44 then fin 1 (pars f k r) else 0
theorem pars_cont {f : Tx → Nat} {k : Nat} {l : Tx} (h : f l ≠ 0) : pars f (k + 1) l = fin (f l) (cont f k (l.drop (f l))) := by
  rw [pars, if_neg h]
  have e : l.drop (f l + 1) = (l.drop (f l)).drop 1 := by rw [List.drop_drop]
  rw [e]
  cases l.drop (f l) with
  | nil => rfl
  | cons c r =>
    simp only [cont, List.drop_succ_cons, List.drop_zero]
    split
    · rw [fin_pos (by omega)]
    · split
      · unfold fin
        split
        · rfl
        · rw [if_neg (by omega)]; omega
      · rfl
theorem fin_add (a b m : Nat) : fin a (fin b m) = fin (a + b) m := by
  by_cases h : m = 0
  · subst h; rfl
  · by_cases hb : b + m = 0
    · omega
    · rw [fin_pos h, fin_pos hb, fin_pos h]; omega
/-- Where the document's reader stands: at a, j parameters read. -/
structure At2 (f : Tx → Nat) (l : Tx) (j a : Nat) : Prop where
  few : j ≤ 4
  from5 : 5 ≤ a
  inside : a < l.length
  first : j = 0 → a = 5
  long : params f (l.drop 5) = fin (a - 5) (if j = 0 then params f (l.drop a) else cont f (4 - j) (l.drop a))
theorem at2_start {f : Tx → Nat} {l : Tx} (h : 5 < l.length) : At2 f l 0 5 := ⟨by omega, by omega, h, fun _ => rfl, by
  rw [if_pos rfl, Nat.sub_self]; unfold fin; split
  · next h => exact h
  · omega⟩
theorem at2_close {f : Tx → Nat} {l : Tx} {j a : Nat} (h : At2 f l j a) {r : Tx} (e : l.drop a = 41 :: r) : params f (l.drop 5) = a - 5 + 1 := by
  have h5 := h.from5
  rw [h.long, e]
  split
  · rw [(params_close rfl).1, fin_pos (by omega)]
  · rw [show cont f (4 - j) (41 :: r) = 1 from rfl, fin_pos (by omega)]
theorem at2_first {f : Tx → Nat} (hf : ∀ l, f l ≤ l.length) {l : Tx} {a : Nat} (h : At2 f l 0 a) (e : ∀ r, l.drop a ≠ 41 :: r) : params f (l.drop 5) = pars f 4 (l.drop a) := by
  have h5 := h.first rfl
  subst h5
  exact (params_else hf e).1
theorem at2_other {f : Tx → Nat} {l : Tx} {j a : Nat} (h : At2 f l j a) (hj : j ≠ 0) (e1 : ∀ r, l.drop a ≠ 41 :: r) (e2 : ∀ r, l.drop a ≠ 44 :: r) : params f (l.drop 5) = 0 := by
  rw [h.long, if_neg hj]
  cases hd : l.drop a with
  | nil => rfl
  | cons c r =>
    have g1 : c ≠ 41 := fun h => e1 r (by rw [hd, h])
    have g2 : c ≠ 44 := fun h => e2 r (by rw [hd, h])
    simp [cont, g1, g2, fin]
theorem at2_comma {f : Tx → Nat} {l : Tx} {j a : Nat} (h : At2 f l j a) (hj : j ≠ 0) {r : Tx} (e : l.drop a = 44 :: r) : params f (l.drop 5) = fin (a + 1 - 5) (pars f (4 - j) (l.drop (a + 1))) := by
  have h5 := h.from5
  have e2 : l.drop (a + 1) = r := by
    have : (l.drop a).drop 1 = l.drop (a + 1) := by rw [List.drop_drop]
    rw [← this, e]; rfl
  rw [h.long, if_neg hj, e, e2]
  have : cont f (4 - j) (44 :: r) = fin 1 (pars f (4 - j) r) := by simp [cont]
  rw [this, fin_add, show a - 5 + 1 = a + 1 - 5 by omega]
/-- A parameter more, from b on. -/
theorem at2_next {f : Tx → Nat} {l : Tx} {j b : Nat} (hj : j < 4) (h5 : 5 ≤ b) (h : params f (l.drop 5) = fin (b - 5) (pars f (4 - j) (l.drop b))) (hm : f (l.drop b) ≠ 0) (hi : b + f (l.drop b) < l.length) : At2 f l (j + 1) (b + f (l.drop b)) := by
  refine ⟨by omega, by omega, hi, fun h => by omega, ?_⟩
  rw [h, show 4 - j = (4 - (j + 1)) + 1 by omega, pars_cont hm, fin_add, List.drop_drop, if_neg (by omega), show b - 5 + f (l.drop b) = b + f (l.drop b) - 5 by omega]
theorem at2_zero {f : Tx → Nat} {l : Tx} {b k : Nat} (h : params f (l.drop 5) = fin (b - 5) (pars f k (l.drop b))) (hm : f (l.drop b) = 0) : params f (l.drop 5) = 0 := by
  rw [h, pars_none hm]; rfl
theorem at2_out {f : Tx → Nat} {l : Tx} {b k : Nat} (h : params f (l.drop 5) = fin (b - 5) (pars f k (l.drop b))) (hi : l.length ≤ b + f (l.drop b)) : params f (l.drop 5) = 0 := by
  rw [h]
  cases k with
  | zero => rfl
  | succ k =>
    rw [pars_else]
    · rfl
    · intro r e; have : ((l.drop b).drop (f (l.drop b))).length = r.length + 1 := by rw [e]; rfl
      rw [List.drop_drop, List.length_drop] at this; omega
    · intro r e; have : ((l.drop b).drop (f (l.drop b))).length = r.length + 1 := by rw [e]; rfl
      rw [List.drop_drop, List.length_drop] at this; omega
theorem tail_none {f : Tx → Nat} {l : Tx} (h : params f l = 0) : tail f l = 0 := by rw [tail, if_pos h]
theorem tail_some {f : Tx → Nat} {l : Tx} {m : Nat} (h : params f l = m) (hm : m ≠ 0) : tail f l = match res f (l.drop m) with | none => 0 | some r => m + r := by rw [tail, h, if_neg hm]; cases res f (l.drop m) <;> rfl
theorem tl_none {n : Nat} {l : Tx} (hw : wordLen l = 0) (hf : wFunc.isPrefixOf l = false) : tl (n + 1) l = 0 := by
  rw [tl, if_neg (by simp [hw]), if_neg (by simp [hf])]
theorem tl_func {n : Nat} {l : Tx} (hw : wordLen l = 0) (hf : wFunc.isPrefixOf l = true) : tl (n + 1) l = fin 5 (tail (tl n) (l.drop 5)) := by
  rw [tl, if_neg (by simp [hw]), if_pos hf]; rfl
theorem tl_word {n : Nat} {l : Tx} (hw : wordLen l ≠ 0) : tl (n + 1) l = wordLen l := by rw [tl, if_pos hw]
theorem tl_short {n : Nat} {l : Tx} (hw : wordLen l = 0) (h : l.length ≤ 5) : tl (n + 1) l = 0 := by
  cases hf : wFunc.isPrefixOf l with
  | false => exact tl_none hw hf
  | true =>
    rw [tl_func hw hf]
    have : l.drop 5 = [] := by rw [List.drop_eq_nil_iff]; exact h
    rw [this]
    rfl
/-- The words, in their order. -/
def tyWords : List ByteArray := [⟨#[105, 110, 116]⟩, ⟨#[98, 111, 111, 108]⟩, ⟨#[115, 116, 114, 105, 110, 103]⟩, ⟨#[97, 110, 121]⟩, ⟨#[91, 93, 105, 110, 116]⟩, ⟨#[42, 105, 110, 116]⟩]
theorem words_none {l : Tx} (h : ∀ (k : Nat) (t : ByteArray), tyWords[k]? = some t → t.data.toList.isPrefixOf l = false) : wordLen l = 0 := by
  have h0 : wInt.isPrefixOf l = false := h 0 _ rfl
  have h1 : wBool.isPrefixOf l = false := h 1 _ rfl
  have h2 : wString.isPrefixOf l = false := h 2 _ rfl
  have h3 : wAny.isPrefixOf l = false := h 3 _ rfl
  have h4 : wInts.isPrefixOf l = false := h 4 _ rfl
  have h5 : wPtr.isPrefixOf l = false := h 5 _ rfl
  unfold wordLen
  simp [h0, h1, h2, h3, h4, h5]
theorem words_some {l : Tx} {k : Nat} {t : ByteArray} (hk : tyWords[k]? = some t) (h : ∀ (j : Nat) (u : ByteArray), j < k → tyWords[j]? = some u → u.data.toList.isPrefixOf l = false) (hp : t.data.toList.isPrefixOf l = true) : wordLen l = t.size := by
  have hlt : k < 6 := (List.getElem?_eq_some_iff.1 hk).1
  have e0 : 0 < k → wInt.isPrefixOf l = false := fun g => h 0 _ g rfl
  have e1 : 1 < k → wBool.isPrefixOf l = false := fun g => h 1 _ g rfl
  have e2 : 2 < k → wString.isPrefixOf l = false := fun g => h 2 _ g rfl
  have e3 : 3 < k → wAny.isPrefixOf l = false := fun g => h 3 _ g rfl
  have e4 : 4 < k → wInts.isPrefixOf l = false := fun g => h 4 _ g rfl
  unfold wordLen
  match k, hlt with
  | 0, _ =>
    cases hk
    have : wInt.isPrefixOf l = true := hp
    simp [this]; rfl
  | 1, _ =>
    cases hk
    have : wBool.isPrefixOf l = true := hp
    simp [this, e0]; rfl
  | 2, _ =>
    cases hk
    have : wString.isPrefixOf l = true := hp
    simp [this, e0, e1]; rfl
  | 3, _ =>
    cases hk
    have : wAny.isPrefixOf l = true := hp
    simp [this, e0, e1, e2]; rfl
  | 4, _ =>
    cases hk
    have : wInts.isPrefixOf l = true := hp
    simp [this, e0, e1, e2, e3]; rfl
  | 5, _ =>
    cases hk
    have : wPtr.isPrefixOf l = true := hp
    simp [this, e0, e1, e2, e3, e4]; rfl
theorem words_get (k : Nat) (h : k < 6) : ∃ t, tyWords[k]? = some t ∧ t.size ≤ 6 ∧ 0 < t.size :=
  match k, h with
  | 0, _ => ⟨_, rfl, by decide, by decide⟩
  | 1, _ => ⟨_, rfl, by decide, by decide⟩
  | 2, _ => ⟨_, rfl, by decide, by decide⟩
  | 3, _ => ⟨_, rfl, by decide, by decide⟩
  | 4, _ => ⟨_, rfl, by decide, by decide⟩
  | 5, _ => ⟨_, rfl, by decide, by decide⟩
end Go.Proofs.Ytmcechcigehjbaa
