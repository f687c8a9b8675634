/- Types as texts: the parts of a function's type, and how a walk goes through them. -/
import Derived.Test.YtmcechcigehjbaaTyplain
namespace Go.Proofs.Ytmcechcigehjbaa

def fin (d m : Nat) : Nat := if m = 0 then 0 else d + m
theorem fin_zero (d : Nat) : fin d 0 = 0 := rfl
theorem fin_pos {d m : Nat} (h : m ≠ 0) : fin d m = d + m := if_neg h
theorem fin_fin (a b m : Nat) : fin a (fin (b + 1) m) = fin (a + b + 1) m := by
  by_cases h : m = 0
  · subst h; rfl
  · rw [fin_pos h, fin_pos (by omega), fin_pos h]; omega
/-- Parameters from here on, each with its place: from i on, at most k. -/
def parsP (f : Tx → Nat) : Nat → Nat → Tx → List (Nat × ByteArray)
  | _, 0, _ => []
  | i, k + 1, l =>
    if f l = 0 then []
    else (i, ⟨(l.take (f l)).toArray⟩) :: match l.drop (f l) with
      | [] => []
      | c :: _ => if c = 44 then parsP f (i + 1) k (l.drop (f l + 1)) else []
def paramsP (f : Tx → Nat) (l : Tx) : List (Nat × ByteArray) :=
  match l with
  | [] => []
  | c :: _ => if c = 41 then [] else parsP f 0 4 l
def resP (f : Tx → Nat) (l : Tx) : List (Nat × ByteArray) :=
  match l with
  | [] => []
  | c :: _ => if c = 44 ∨ c = 41 then [] else if f l = 0 then [] else [(4, ⟨(l.take (f l)).toArray⟩)]
def tailP (f : Tx → Nat) (l : Tx) : List (Nat × ByteArray) := paramsP f l ++ resP f (l.drop (params f l))

theorem pars_none {f : Tx → Nat} {k : Nat} {l : Tx} (h : f l = 0) : pars f k l = 0 := by
  cases k with
  | zero => rfl
  | succ k => rw [pars, if_pos h]
theorem pars_close {f : Tx → Nat} {k : Nat} {l r : Tx} (h : f l ≠ 0) (e : l.drop (f l) = 41 :: r) : pars f (k + 1) l = f l + 1 := by
  rw [pars, if_neg h, e]; simp
theorem pars_comma {f : Tx → Nat} {k : Nat} {l r : Tx} (h : f l ≠ 0) (e : l.drop (f l) = 44 :: r) : pars f (k + 1) l = fin (f l + 1) (pars f k (l.drop (f l + 1))) := by
  rw [pars, if_neg h, e]; simp [fin]
theorem pars_else {f : Tx → Nat} {k : Nat} {l : Tx} (e1 : ∀ r, l.drop (f l) ≠ 41 :: r) (e2 : ∀ r, l.drop (f l) ≠ 44 :: r) : pars f (k + 1) l = 0 := by
  rw [pars]
  split; rfl
  split
  · rfl
  · next c r e =>
    rw [if_neg (fun h => e1 r (by rw [e, h])), if_neg (fun h => e2 r (by rw [e, h]))]
theorem parsP_close {f : Tx → Nat} {i k : Nat} {l r : Tx} (h : f l ≠ 0) (e : l.drop (f l) = 41 :: r) : parsP f i (k + 1) l = [(i, ⟨(l.take (f l)).toArray⟩)] := by
  rw [parsP, if_neg h, e]; simp
theorem parsP_comma {f : Tx → Nat} {i k : Nat} {l r : Tx} (h : f l ≠ 0) (e : l.drop (f l) = 44 :: r) : parsP f i (k + 1) l = (i, ⟨(l.take (f l)).toArray⟩) :: parsP f (i + 1) k (l.drop (f l + 1)) := by
  rw [parsP, if_neg h, e]; simp
theorem params_close {f : Tx → Nat} {l r : Tx} (e : l = 41 :: r) : params f l = 1 ∧ paramsP f l = [] := by
  subst e; simp [params, paramsP]
theorem params_else {f : Tx → Nat} (hf : ∀ l, f l ≤ l.length) {l : Tx} (e : ∀ r, l ≠ 41 :: r) : params f l = pars f 4 l ∧ paramsP f l = parsP f 0 4 l := by
  unfold params paramsP
  cases l with
  | nil =>
    have h0 : f [] = 0 := by have := hf []; simpa using this
    rw [pars_none h0, parsP, if_pos h0]
    exact ⟨rfl, rfl⟩
  | cons c r =>
    have hc : c ≠ 41 := fun h => e r (by rw [h])
    simp [hc]
/-- Where a walk over the parameters of l from p on stands: at q, i of them read, ps told. -/
structure Going (f : Tx → Nat) (l : Tx) (p i k q : Nat) (ps : List (Nat × ByteArray)) : Prop where
  many : i + k = 4
  here : ps.length = i
  ahead : p ≤ q
  long : pars f 4 (l.drop p) = fin (q - p) (pars f k (l.drop q))
  told : parsP f 0 4 (l.drop p) = ps ++ parsP f i k (l.drop q)
theorem going_start (f : Tx → Nat) (l : Tx) (p : Nat) : Going f l p 0 4 p [] := ⟨rfl, rfl, Nat.le_refl _, by
  rw [Nat.sub_self]; unfold fin; split
  · next h => exact h
  · omega, rfl⟩
theorem going_end {f : Tx → Nat} {l : Tx} {p i q : Nat} {ps : List (Nat × ByteArray)} (h : Going f l p i 0 q ps) : pars f 4 (l.drop p) = 0 := by
  rw [h.long]; rfl
theorem going_none {f : Tx → Nat} {l : Tx} {p i k q : Nat} {ps : List (Nat × ByteArray)} (h : Going f l p i k q ps) (hf : f (l.drop q) = 0) : pars f 4 (l.drop p) = 0 := by
  rw [h.long, pars_none hf]; rfl
theorem going_else {f : Tx → Nat} {l : Tx} {p i k q : Nat} {ps : List (Nat × ByteArray)} (h : Going f l p i (k + 1) q ps) (e1 : ∀ r, l.drop (q + f (l.drop q)) ≠ 41 :: r) (e2 : ∀ r, l.drop (q + f (l.drop q)) ≠ 44 :: r) : pars f 4 (l.drop p) = 0 := by
  rw [h.long, pars_else (by rw [List.drop_drop]; exact e1) (by rw [List.drop_drop]; exact e2)]; rfl
theorem going_close {f : Tx → Nat} {l : Tx} {p i k q : Nat} {ps : List (Nat × ByteArray)} (h : Going f l p i (k + 1) q ps) (hf : f (l.drop q) ≠ 0) {r : Tx} (e : l.drop (q + f (l.drop q)) = 41 :: r) :
    pars f 4 (l.drop p) = q - p + f (l.drop q) + 1 ∧ parsP f 0 4 (l.drop p) = ps ++ [(i, ⟨((l.drop q).take (f (l.drop q))).toArray⟩)] := by
  have e' : (l.drop q).drop (f (l.drop q)) = 41 :: r := by rw [List.drop_drop]; exact e
  refine ⟨?_, ?_⟩
  · rw [h.long, pars_close hf e', fin_pos (by omega)]; omega
  · rw [h.told, parsP_close hf e']
theorem going_comma {f : Tx → Nat} {l : Tx} {p i k q : Nat} {ps : List (Nat × ByteArray)} (h : Going f l p i (k + 1) q ps) (hf : f (l.drop q) ≠ 0) {r : Tx} (e : l.drop (q + f (l.drop q)) = 44 :: r) :
    Going f l p (i + 1) k (q + f (l.drop q) + 1) (ps ++ [(i, ⟨((l.drop q).take (f (l.drop q))).toArray⟩)]) := by
  have e' : (l.drop q).drop (f (l.drop q)) = 44 :: r := by rw [List.drop_drop]; exact e
  have e2 : (l.drop q).drop (f (l.drop q) + 1) = l.drop (q + f (l.drop q) + 1) := by rw [List.drop_drop]; rfl
  refine ⟨by have := h.many; omega, by rw [List.length_append, h.here]; rfl, by have := h.ahead; omega, ?_, ?_⟩
  · rw [h.long, pars_comma hf e', fin_fin, e2]
    have := h.ahead
    rw [show q - p + f (l.drop q) + 1 = q + f (l.drop q) + 1 - p by omega]
  · rw [h.told, parsP_comma hf e', e2]; simp
theorem head_of (c : UInt8) (l : Tx) : ([c].isPrefixOf l = true ∧ ∃ r, l = c :: r) ∨ ([c].isPrefixOf l = false ∧ ∀ r, l ≠ c :: r) := by
  cases l with
  | nil => right; exact ⟨rfl, fun r h => by cases h⟩
  | cons a r =>
    by_cases h : c = a
    · subst h; left; exact ⟨by simp [List.isPrefixOf], r, rfl⟩
    · right; exact ⟨by simp [List.isPrefixOf, h], fun r' e => h (by cases e; rfl)⟩
theorem parsP_len (f : Tx → Nat) : ∀ k i l, (parsP f i k l).length ≤ k
  | 0, _, _ => by simp [parsP]
  | k + 1, i, l => by
    rw [parsP]
    split; simp
    rw [List.length_cons]
    split
    · simp
    · split
      · have := parsP_len f k (i + 1) (l.drop (f l + 1)); omega
      · simp
theorem paramsP_len (f : Tx → Nat) (l : Tx) : (paramsP f l).length ≤ 4 := by
  unfold paramsP
  split
  · simp
  · split
    · simp
    · exact parsP_len f 4 0 _
theorem res_free {f : Tx → Nat} {l : Tx} (h : l = [] ∨ (∃ r, l = 44 :: r) ∨ ∃ r, l = 41 :: r) : res f l = some 0 ∧ resP f l = [] := by
  rcases h with rfl | ⟨r, rfl⟩ | ⟨r, rfl⟩ <;> simp [res, resP]
theorem res_else {f : Tx → Nat} {l : Tx} (h0 : l ≠ []) (h1 : ∀ r, l ≠ 44 :: r) (h2 : ∀ r, l ≠ 41 :: r) : res f l = (if f l = 0 then none else some (f l)) ∧ resP f l = if f l = 0 then [] else [(4, ⟨(l.take (f l)).toArray⟩)] := by
  cases l with
  | nil => exact absurd rfl h0
  | cons c r =>
    have g1 : c ≠ 44 := fun h => h1 r (by rw [h])
    have g2 : c ≠ 41 := fun h => h2 r (by rw [h])
    simp [res, resP, g1, g2]
end Go.Proofs.Ytmcechcigehjbaa
