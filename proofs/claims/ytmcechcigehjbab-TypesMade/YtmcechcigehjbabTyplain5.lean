/- Types as texts: a function's type is made of its parts, and its parts make it. -/
import Derived.Test.YtmcechcigehjbabTyplain4
namespace Go.Proofs.Ytmcechcigehjbab

def texts (ps : List (Nat × ByteArray)) : List Tx := ps.map fun x => x.2.data.toList
theorem texts_snd (ps : List (Nat × ByteArray)) : (ps.map (·.2)).map (·.data.toList) = texts ps := by simp [texts]
theorem join_two (x y : Tx) (ys : List Tx) : Lib.join (x :: y :: ys) [44] = x ++ 44 :: Lib.join (y :: ys) [44] := by
  rw [Lib.join_cons, Lib.join_cons]
  simp [Lib.joinTail]
/-- The parameters, with their commas and the bracket. -/
theorem pars_text (f : Tx → Nat) : ∀ k i l, pars f k l ≠ 0 → parsP f i k l ≠ [] ∧ l.take (pars f k l) = Lib.join (texts (parsP f i k l)) [44] ++ [41]
  | 0, _, _, h => absurd rfl h
  | k + 1, i, l, h => by
    by_cases hf : f l = 0
    · exact absurd (pars_none hf) h
    · cases hd : l.drop (f l) with
      | nil => exact absurd (pars_else (by rw [hd]; intro r e; cases e) (by rw [hd]; intro r e; cases e)) h
      | cons c r =>
        by_cases hc : c = 41
        · subst hc
          rw [pars_close hf hd, parsP_close hf hd]
          refine ⟨by simp, ?_⟩
          rw [show texts [(i, (⟨(l.take (f l)).toArray⟩ : ByteArray))] = [l.take (f l)] from rfl, Lib.join_one, List.take_add, hd]
          rfl
        · by_cases hc2 : c = 44
          · subst hc2
            have e := pars_comma (k := k) hf hd
            have hp : pars f k (l.drop (f l + 1)) ≠ 0 := fun h0 => h (by rw [e, h0]; rfl)
            obtain ⟨hne, ih⟩ := pars_text f k (i + 1) _ hp
            rw [e, fin_pos hp, parsP_comma hf hd]
            refine ⟨by simp, ?_⟩
            have et : texts ((i, (⟨(l.take (f l)).toArray⟩ : ByteArray)) :: parsP f (i + 1) k (l.drop (f l + 1))) = l.take (f l) :: texts (parsP f (i + 1) k (l.drop (f l + 1))) := rfl
            rw [et]
            cases hx : texts (parsP f (i + 1) k (l.drop (f l + 1))) with
            | nil => exact absurd (List.map_eq_nil_iff.1 hx) hne
            | cons y ys =>
              rw [join_two, ← hx, List.take_add, ih, List.take_add, hd]
              simp
          · exact absurd (pars_else (fun r' e => hc (by rw [hd] at e; cases e; rfl)) (fun r' e => hc2 (by rw [hd] at e; cases e; rfl))) h
theorem params_text {f : Tx → Nat} (hf : ∀ l, f l ≤ l.length) {l : Tx} (h : params f l ≠ 0) : l.take (params f l) = Lib.join (texts (paramsP f l)) [44] ++ [41] := by
  by_cases hc : ∃ r, l = 41 :: r
  · obtain ⟨r, rfl⟩ := hc
    rw [(params_close rfl).1, (params_close rfl).2]
    rfl
  · have e := params_else hf (l := l) (fun r e => hc ⟨r, e⟩)
    rw [e.1] at h ⊢
    rw [e.2]
    exact (pars_text f 4 0 l h).2
/-- Each part is a type. -/
theorem pars_each : ∀ k i l, l.length ≤ 100 → ∀ x ∈ parsP (tl 100) i k l, valid x.2.data.toList = true
  | 0, _, _, _ => fun x hx => by cases hx
  | k + 1, i, l, hl => fun x hx => by
    rw [parsP] at hx
    split at hx
    · cases hx
    · next hf =>
      rw [List.mem_cons] at hx
      rcases hx with rfl | hx
      · exact piece_valid rfl hf (Nat.le_trans (tl_le 100 l) hl)
      · split at hx
        · cases hx
        · split at hx
          · exact pars_each k (i + 1) _ (by rw [List.length_drop]; omega) x hx
          · cases hx
theorem params_each {l : Tx} (hl : l.length ≤ 100) : ∀ x ∈ paramsP (tl 100) l, valid x.2.data.toList = true := by
  unfold paramsP
  split
  · intro x hx; cases hx
  · split
    · intro x hx; cases hx
    · exact pars_each 4 0 _ hl
/-- A function's type is made of its parts. -/
theorem func_back {l : Tx} (h : validF l = true) : partsOk (parT l) = true ∧ (resT l = [] ∨ valid (resT l) = true) ∧ funcT (parT l) (resT l) = l ∧ (parT l).length ≤ 4 ∧ l.length ≤ 100 := by
  obtain ⟨hw, hf, hlen, hp, r, hr, hrl, h5⟩ := validF_parts h
  have ep : parT l = (paramsP (tl 100) (l.drop 5)).map (·.2) := by unfold parT; rw [if_pos h]
  refine ⟨?_, ?_, ?_, parT_len l, hlen⟩
  · rw [ep]
    unfold partsOk
    rw [List.all_eq_true]
    intro x hx
    obtain ⟨y, hy, rfl⟩ := List.mem_map.1 hx
    exact params_each (by rw [List.length_drop]; omega) y hy
  · cases hd : resT l with
    | nil => exact .inl rfl
    | cons c q =>
      right
      rw [hd] at hr hrl
      unfold res at hr
      simp only at hr
      split at hr
      · cases hr; simp at hrl
      · split at hr
        · cases hr
        · next hne =>
          have hr' : tl 100 (c :: q) = r := by cases hr; rfl
          have := piece_valid hr' (by rw [← hr']; exact hne) (by rw [hrl, ← hd]; unfold resT; rw [List.length_drop]; omega)
          rwa [hrl, List.take_length] at this
  · have h1 := params_text (tl_le 100) hp
    have e5 : l.take 5 = wFunc := by
      rw [List.isPrefixOf_iff_prefix] at hf
      obtain ⟨z, e⟩ := hf
      rw [← e]; rfl
    unfold funcT resT
    rw [ep, texts_snd]
    have e1 : l = l.take 5 ++ ((l.drop 5).take (params (tl 100) (l.drop 5)) ++ (l.drop 5).drop (params (tl 100) (l.drop 5))) := by rw [List.take_append_drop, List.take_append_drop]
    rw [List.drop_drop] at e1
    conv => rhs; rw [e1, e5, h1]
    simp
theorem pars_congr {f g : Tx → Nat} {L : Nat} (h : ∀ x : Tx, x.length ≤ L → f x = g x) : ∀ k (l : Tx), l.length ≤ L → pars f k l = pars g k l
  | 0, _, _ => rfl
  | k + 1, l, hl => by
    rw [pars, pars, h l hl]
    have ih := pars_congr h k (l.drop (g l + 1)) (by rw [List.length_drop]; omega)
    rw [ih]
theorem params_congr {f g : Tx → Nat} {L : Nat} (h : ∀ x : Tx, x.length ≤ L → f x = g x) (l : Tx) (hl : l.length ≤ L) : params f l = params g l := by
  unfold params
  cases l with
  | nil => rfl
  | cons c r => simp only; rw [pars_congr h 4 _ hl]
theorem res_congr {f g : Tx → Nat} {L : Nat} (h : ∀ x : Tx, x.length ≤ L → f x = g x) (l : Tx) (hl : l.length ≤ L) : res f l = res g l := by
  unfold res
  cases l with
  | nil => rfl
  | cons c r => simp only; rw [h _ hl]
theorem tail_congr {f g : Tx → Nat} {L : Nat} (h : ∀ x : Tx, x.length ≤ L → f x = g x) (l : Tx) (hl : l.length ≤ L) : tail f l = tail g l := by
  unfold tail
  rw [params_congr h l hl, res_congr h (l.drop (params g l)) (by rw [List.length_drop]; omega)]
/-- As deep as the text is long is deep enough. -/
theorem tl_enough : ∀ n m (l : Tx), l.length ≤ n → n ≤ m → tl m l = tl n l
  | 0, m, l, h, _ => by
    have e : l = [] := List.length_eq_zero_iff.1 (by omega)
    subst e
    cases m <;> rfl
  | n + 1, 0, _, _, h => absurd h (by omega)
  | n + 1, m + 1, l, hl, h => by
    rw [tl, tl]
    split; rfl
    split
    · next hf =>
      have h5 := pre_le hf
      simp [wFunc] at h5
      rw [tail_congr (L := n) (fun x hx => tl_enough n m x hx (by omega)) (l.drop 5) (by rw [List.length_drop]; omega)]
    · rfl
theorem valid_tl {x : Tx} (h : valid x = true) (hl : x.length ≤ 100) : tl 100 x = x.length ∧ x.length ≠ 0 := by
  unfold valid at h
  obtain ⟨_, h2, h3⟩ := of_decide_eq_true h
  rw [tl_enough 100 101 x hl (by omega)] at h2 h3
  exact ⟨h3, by rw [← h3]; exact h2⟩
theorem found_more {x z : Tx} (h : valid x = true) (hl : x.length ≤ 100) (hz : Stop z) : tl 100 (x ++ z) = x.length := by
  obtain ⟨h1, h2⟩ := valid_tl h hl
  exact tl_agree 100 100 (by omega) x (x ++ z) x.length h1 h2 ⟨by simp, .inl (by simpa using hz)⟩
theorem valid_head {x : Tx} (h : valid x = true) (hl : x.length ≤ 100) : ∃ c q, x = c :: q ∧ c ≠ 44 ∧ c ≠ 41 := by
  obtain ⟨h1, h2⟩ := valid_tl h hl
  cases x with
  | nil => exact absurd rfl h2
  | cons c q =>
    refine ⟨c, q, rfl, ?_, ?_⟩
    · rintro rfl
      rw [show tl 100 (44 :: q) = 0 from tl_none rfl rfl] at h1
      exact h2 h1.symm
    · rintro rfl
      rw [show tl 100 (41 :: q) = 0 from tl_none rfl rfl] at h1
      exact h2 h1.symm
theorem pars_made : ∀ (xs : List ByteArray) (k i : Nat) (r : Tx), xs ≠ [] → xs.length ≤ k → (∀ x ∈ xs, valid x.data.toList = true ∧ x.data.toList.length ≤ 100) →
    pars (tl 100) k (Lib.join (xs.map (·.data.toList)) [44] ++ 41 :: r) = (Lib.join (xs.map (·.data.toList)) [44]).length + 1 ∧ (parsP (tl 100) i k (Lib.join (xs.map (·.data.toList)) [44] ++ 41 :: r)).map (·.2) = xs
  | [], _, _, _, h, _, _ => absurd rfl h
  | _ :: _, 0, _, _, _, h, _ => absurd h (by simp)
  | [x], k + 1, i, r, _, _, ha => by
    obtain ⟨hv, hl⟩ := ha x (by simp)
    have e : tl 100 (x.data.toList ++ 41 :: r) = x.data.toList.length := found_more hv hl (.inr (.inr ⟨r, rfl⟩))
    have h0 := (valid_tl hv hl).2
    have hd : (x.data.toList ++ 41 :: r).drop (tl 100 (x.data.toList ++ 41 :: r)) = 41 :: r := by rw [e]; simp
    rw [List.map_singleton, Lib.join_one, pars_close (by rw [e]; exact h0) hd, parsP_close (by rw [e]; exact h0) hd, e]
    refine ⟨rfl, ?_⟩
    simp
  | x :: y :: ys, k + 1, i, r, _, hk, ha => by
    obtain ⟨hv, hl⟩ := ha x (by simp)
    obtain ⟨ih1, ih2⟩ := pars_made (y :: ys) k (i + 1) r (by simp) (by simp at hk ⊢; omega) (fun z hz => ha z (by simp at hz ⊢; exact .inr hz))
    have ej : Lib.join ((x :: y :: ys).map (·.data.toList)) [44] = x.data.toList ++ 44 :: Lib.join ((y :: ys).map (·.data.toList)) [44] := join_two _ _ _
    rw [ej, List.append_assoc, List.cons_append]
    generalize Lib.join ((y :: ys).map (·.data.toList)) [44] = J at *
    have e : tl 100 (x.data.toList ++ 44 :: (J ++ 41 :: r)) = x.data.toList.length := found_more hv hl (.inr (.inl ⟨_, rfl⟩))
    have h0 := (valid_tl hv hl).2
    have hd : (x.data.toList ++ 44 :: (J ++ 41 :: r)).drop (tl 100 (x.data.toList ++ 44 :: (J ++ 41 :: r))) = 44 :: (J ++ 41 :: r) := by rw [e]; simp
    have hd2 : (x.data.toList ++ 44 :: (J ++ 41 :: r)).drop (tl 100 (x.data.toList ++ 44 :: (J ++ 41 :: r)) + 1) = J ++ 41 :: r := by
      rw [← List.drop_drop, hd]; rfl
    rw [pars_comma (by rw [e]; exact h0) hd, parsP_comma (by rw [e]; exact h0) hd, hd2, ih1, List.map_cons, ih2, e, fin_pos (by omega)]
    refine ⟨?_, ?_⟩
    · simp; omega
    · simp
/-- Parts make a function's type that has just these. -/
theorem func_made {xs : List ByteArray} {r : Tx} (h4 : xs.length ≤ 4) (hp : partsOk xs = true) (hr : r = [] ∨ valid r = true) (hl : (funcT xs r).length ≤ 100) : validF (funcT xs r) = true ∧ parT (funcT xs r) = xs ∧ resT (funcT xs r) = r := by
  have hlen : 5 + ((Lib.join (xs.map (·.data.toList)) [44]).length + (r.length + 1)) ≤ 100 := by
    unfold funcT at hl
    rw [List.length_append, List.length_append, List.length_cons] at hl
    exact hl
  have hd5 : (funcT xs r).drop 5 = Lib.join (xs.map (·.data.toList)) [44] ++ 41 :: r := rfl
  have hpar : params (tl 100) ((funcT xs r).drop 5) = (Lib.join (xs.map (·.data.toList)) [44]).length + 1 ∧ (paramsP (tl 100) ((funcT xs r).drop 5)).map (·.2) = xs := by
    rw [hd5]
    cases xs with
    | nil => exact ⟨rfl, rfl⟩
    | cons x ys =>
      have hall : ∀ z ∈ x :: ys, valid z.data.toList = true ∧ z.data.toList.length ≤ 100 := fun z hz => ⟨ok_all hp z hz, by rw [bsize_list]; exact valid_le (ok_all hp z hz)⟩
      obtain ⟨c, q, e, _, hc⟩ := valid_head (hall x (by simp)).1 (hall x (by simp)).2
      have hne : ∀ r', Lib.join ((x :: ys).map (·.data.toList)) [44] ++ 41 :: r ≠ 41 :: r' := by
        intro r' e'
        rw [List.map_cons, Lib.join_cons, e] at e'
        cases e'
        exact hc rfl
      obtain ⟨e1, e2⟩ := params_else (tl_le 100) hne
      rw [e1, e2]
      exact pars_made (x :: ys) 4 0 r (by simp) h4 hall
  have hres : resT (funcT xs r) = r := by
    unfold resT
    rw [hpar.1, ← List.drop_drop, hd5]
    rw [← List.drop_drop]
    simp
  have hr2 : res (tl 100) r = some r.length := by
    rcases hr with rfl | hv
    · rfl
    · have hrl : r.length ≤ 100 := by omega
      obtain ⟨c, q, e, h1, h2⟩ := valid_head hv hrl
      obtain ⟨h3, h5⟩ := valid_tl hv hrl
      have := (res_else (f := tl 100) (l := r) (by rw [e]; simp) (fun r' e' => h1 (by rw [e] at e'; cases e'; rfl)) (fun r' e' => h2 (by rw [e] at e'; cases e'; rfl))).1
      rw [this, h3, if_neg h5]
  have hf : wFunc.isPrefixOf (funcT xs r) = true := by
    rw [List.isPrefixOf_iff_prefix]
    exact ⟨_, rfl⟩
  have hv : valid (funcT xs r) = true := by
    unfold valid
    have ht : tail (tl 100) ((funcT xs r).drop 5) = (Lib.join (xs.map (·.data.toList)) [44]).length + 1 + r.length := by
      rw [tail_some hpar.1 (by omega)]
      have : ((funcT xs r).drop 5).drop ((Lib.join (xs.map (·.data.toList)) [44]).length + 1) = r := by
        rw [hd5, ← List.drop_drop]; simp
      rw [this, hr2]
    have e : tl 101 (funcT xs r) = (funcT xs r).length := by
      rw [tl_func (func_noword hf) hf, ht, fin_pos (by omega)]
      unfold funcT
      rw [List.length_append, List.length_append, List.length_cons]
      simp [wFunc]
      omega
    refine decide_eq_true ⟨hl, ?_, e⟩
    rw [e]
    unfold funcT
    simp [wFunc]
  have hvF : validF (funcT xs r) = true := by unfold validF; rw [hf, hv]; rfl
  refine ⟨hvF, ?_, hres⟩
  unfold parT
  rw [if_pos hvF]
  exact hpar.2
end Go.Proofs.Ytmcechcigehjbab
