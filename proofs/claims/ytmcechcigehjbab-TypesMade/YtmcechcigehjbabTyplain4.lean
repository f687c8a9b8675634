/- Types as texts: what is alike up to its end has the same type; a function's type and its parts. -/
import Derived.Test.YtmcechcigehjbabOwnfunc
import Derived.Test.YtmcechcigehjbabTyplain3
namespace Go.Proofs.Ytmcechcigehjbab

/-- Where a type may end. -/
def Stop (x : Tx) : Prop := x = [] ∨ (∃ r, x = 44 :: r) ∨ ∃ r, x = 41 :: r
/-- Alike for k bytes, and behind them. -/
def Agree (k : Nat) (l l' : Tx) : Prop := l'.take k = l.take k ∧ (Stop (l'.drop k) ∨ (l'.drop k).head? = (l.drop k).head?)
/-- What f finds g finds in all that is alike. -/
def Finds (f g : Tx → Nat) : Prop := ∀ l l' k, f l = k → k ≠ 0 → Agree k l l' → g l' = k
theorem head_take {l l' : Tx} {k : Nat} (h : l'.take k = l.take k) (hk : 0 < k) : l'.head? = l.head? := by
  have := congrArg List.head? h
  rwa [List.head?_take, List.head?_take, if_neg (by omega), if_neg (by omega)] at this
theorem take_drop_eq {l l' : Tx} {k n : Nat} (h : l'.take k = l.take k) (_hn : n ≤ k) : (l'.drop n).take (k - n) = (l.drop n).take (k - n) := by
  have := congrArg (List.drop n) h
  rw [List.drop_take, List.drop_take] at this
  exact this
theorem take_less {l l' : Tx} {k n : Nat} (h : l'.take k = l.take k) (hn : n ≤ k) : l'.take n = l.take n := by
  have := congrArg (List.take n) h
  rwa [List.take_take, List.take_take, Nat.min_eq_left hn] at this
theorem agree_in {l l' : Tx} {k n : Nat} (h : l'.take k = l.take k) (hn : n < k) : Agree n l l' :=
  ⟨take_less h (by omega), .inr (head_take (take_drop_eq h (by omega)) (by omega))⟩
theorem drop_head {l l' : Tx} {k n : Nat} (h : l'.take k = l.take k) (hn : n < k) {c : UInt8} {r : Tx} (e : l.drop n = c :: r) : ∃ r', l'.drop n = c :: r' := by
  have := head_take (take_drop_eq h (by omega)) (show 0 < k - n by omega)
  rw [e] at this
  cases hd : l'.drop n with
  | nil => rw [hd] at this; cases this
  | cons c' r' => rw [hd] at this; simp at this; exact ⟨r', by rw [this]⟩
theorem pars_agree {f g : Tx → Nat} (hfg : Finds f g) : ∀ k l l', pars f k l ≠ 0 → l'.take (pars f k l) = l.take (pars f k l) → pars g k l' = pars f k l
  | 0, _, _, h, _ => absurd rfl h
  | k + 1, l, l', h, ht => by
    by_cases hf : f l = 0
    · exact absurd (pars_none hf) h
    · cases hd : l.drop (f l) with
      | nil => exact absurd (pars_else (by rw [hd]; intro r e; cases e) (by rw [hd]; intro r e; cases e)) h
      | cons c r =>
        by_cases hc : c = 41
        · subst hc
          have e := pars_close (k := k) hf hd
          rw [e] at ht
          have eg := hfg l l' (f l) rfl hf (agree_in ht (by omega))
          obtain ⟨r', hd'⟩ := drop_head ht (by omega) hd
          rw [e, pars_close (by rw [eg]; exact hf) (by rw [eg]; exact hd'), eg]
        · by_cases hc2 : c = 44
          · subst hc2
            have e := pars_comma (k := k) hf hd
            have hp : pars f k (l.drop (f l + 1)) ≠ 0 := fun h0 => h (by rw [e, h0]; rfl)
            rw [fin_pos hp] at e
            rw [e] at ht
            have eg := hfg l l' (f l) rfl hf (agree_in ht (by omega))
            obtain ⟨r', hd'⟩ := drop_head ht (by omega) hd
            have ht2 := take_drop_eq ht (show f l + 1 ≤ _ by omega)
            rw [show f l + 1 + pars f k (l.drop (f l + 1)) - (f l + 1) = pars f k (l.drop (f l + 1)) by omega] at ht2
            have ih := pars_agree hfg k _ _ hp ht2
            rw [e, pars_comma (by rw [eg]; exact hf) (by rw [eg]; exact hd'), eg, ih, fin_pos hp]
          · exact absurd (pars_else (fun r' e => hc (by rw [hd] at e; cases e; rfl)) (fun r' e => hc2 (by rw [hd] at e; cases e; rfl))) h
theorem params_agree {f g : Tx → Nat} (hf : ∀ l, f l ≤ l.length) (hg : ∀ l, g l ≤ l.length) (hfg : Finds f g) {l l' : Tx} (h : params f l ≠ 0) (ht : l'.take (params f l) = l.take (params f l)) : params g l' = params f l := by
  cases l with
  | nil => exact absurd rfl h
  | cons c r =>
    by_cases hc : c = 41
    · subst hc
      have e := (params_close (f := f) (l := 41 :: r) rfl).1
      rw [e] at ht
      obtain ⟨r', hd⟩ := drop_head (n := 0) ht (by omega) (c := 41) (r := r) rfl
      rw [e, (params_close (f := g) (by rw [List.drop_zero] at hd; exact hd)).1]
    · have e := (params_else hf (l := c :: r) (fun r' e => hc (by cases e; rfl))).1
      rw [e] at h ht
      obtain ⟨r', hd⟩ := drop_head (n := 0) ht (by omega) (c := c) (r := r) rfl
      rw [List.drop_zero] at hd
      rw [e, (params_else hg (l := l') (fun r'' e => hc (by rw [hd] at e; cases e; rfl))).1]
      exact pars_agree hfg 4 _ _ h ht
theorem res_agree {f g : Tx → Nat} (hfg : Finds f g) {l l' : Tx} {r : Nat} (h : res f l = some r) (ha : Agree r l l') : res g l' = some r := by
  by_cases hs : l = [] ∨ (∃ r, l = 44 :: r) ∨ ∃ r, l = 41 :: r
  · have h0 := (res_free (f := f) hs).1
    rw [h] at h0
    cases h0
    refine (res_free (f := g) (l := l') ?_).1
    rcases ha.2 with h1 | h1
    · exact h1
    · rw [List.drop_zero, List.drop_zero] at h1
      rcases hs with rfl | ⟨q, rfl⟩ | ⟨q, rfl⟩
      · cases l' with
        | nil => exact .inl rfl
        | cons c q => cases h1
      · cases l' with
        | nil => cases h1
        | cons c q' => simp at h1; rw [h1]; exact .inr (.inl ⟨q', rfl⟩)
      · cases l' with
        | nil => cases h1
        | cons c q' => simp at h1; rw [h1]; exact .inr (.inr ⟨q', rfl⟩)
  · have g0 : l ≠ [] := fun e => hs (.inl e)
    have g1 : ∀ q, l ≠ 44 :: q := fun q e => hs (.inr (.inl ⟨q, e⟩))
    have g2 : ∀ q, l ≠ 41 :: q := fun q e => hs (.inr (.inr ⟨q, e⟩))
    have e := (res_else (f := f) g0 g1 g2).1
    rw [h] at e
    by_cases hf : f l = 0
    · rw [if_pos hf] at e; cases e
    · rw [if_neg hf] at e
      have er : r = f l := by cases e; rfl
      subst er
      have hg := hfg l l' (f l) rfl hf ha
      cases l with
      | nil => exact absurd rfl g0
      | cons c q =>
        obtain ⟨q', hd⟩ := drop_head (n := 0) ha.1 (by omega) (c := c) (r := q) rfl
        rw [List.drop_zero] at hd
        have e2 := (res_else (f := g) (l := l') (by rw [hd]; simp) (fun q2 e => g1 q (by rw [hd] at e; cases e; rfl)) (fun q2 e => g2 q (by rw [hd] at e; cases e; rfl))).1
        rw [e2, hg, if_neg hf]
theorem tail_agree {f g : Tx → Nat} (hf : ∀ l, f l ≤ l.length) (hg : ∀ l, g l ≤ l.length) (hfg : Finds f g) {l l' : Tx} {k : Nat} (h : tail f l = k) (hk : k ≠ 0) (ha : Agree k l l') : tail g l' = k := by
  by_cases hp : params f l = 0
  · rw [tail_none hp] at h; exact absurd h.symm hk
  · rw [tail_some rfl hp] at h
    cases hr : res f (l.drop (params f l)) with
    | none => rw [hr] at h; exact absurd h.symm hk
    | some r =>
      rw [hr] at h
      simp only at h
      have hple : params f l ≤ k := by omega
      have ep := params_agree hf hg hfg hp (take_less ha.1 hple)
      have er := res_agree hfg hr (l' := l'.drop (params f l)) ⟨by have := take_drop_eq ha.1 hple; rwa [show k - params f l = r by omega] at this, by rw [List.drop_drop, List.drop_drop, h]; exact ha.2⟩
      rw [tail_some ep hp, er]
      exact h
theorem word_agree {l l' : Tx} {k : Nat} (h : wordLen l = k) (hk : k ≠ 0) (ht : l'.take k = l.take k) : wordLen l' = k := by
  have key : ∀ {p : Tx}, p.isPrefixOf l = true → p.length = k → l' = p ++ l'.drop k := fun {p} hp hl => by
    rw [List.isPrefixOf_iff_prefix] at hp
    obtain ⟨z, e⟩ := hp
    have : l.take k = p := by rw [← e, ← hl, List.take_left']; rfl
    rw [this] at ht
    have := List.take_append_drop k l'
    rw [ht] at this
    exact this.symm
  unfold wordLen at h
  split at h
  · next hp => subst h; rw [key hp rfl]; rfl
  split at h
  · next hp => subst h; rw [key hp rfl]; rfl
  split at h
  · next hp => subst h; rw [key hp rfl]; rfl
  split at h
  · next hp => subst h; rw [key hp rfl]; rfl
  split at h
  · next hp => subst h; rw [key hp rfl]; rfl
  split at h
  · next hp => subst h; rw [key hp rfl]; rfl
  · exact absurd h.symm hk
theorem tl_agree : ∀ n m, n ≤ m → Finds (tl n) (tl m)
  | 0, _, _ => fun l l' k h hk _ => absurd h.symm hk
  | n + 1, 0, h => absurd h (by omega)
  | n + 1, m + 1, h => fun l l' k hl hk ha => by
    by_cases hw : wordLen l ≠ 0
    · rw [tl_word hw] at hl
      have e := word_agree hl hk ha.1
      rw [tl_word (by rw [e]; exact hk), e]
    · have hw0 : wordLen l = 0 := by simpa using hw
      cases hf : wFunc.isPrefixOf l with
      | false => rw [tl_none hw0 hf] at hl; exact absurd hl.symm hk
      | true =>
        rw [tl_func hw0 hf] at hl
        have ht : tail (tl n) (l.drop 5) ≠ 0 := fun h0 => hk (by rw [← hl, h0]; rfl)
        rw [fin_pos ht] at hl
        have hf' : wFunc.isPrefixOf l' = true := by
          rw [List.isPrefixOf_iff_prefix] at hf ⊢
          obtain ⟨z, e⟩ := hf
          have h5 := take_less ha.1 (show 5 ≤ k by omega)
          rw [← e] at h5
          have : (wFunc ++ z).take 5 = wFunc := rfl
          rw [this] at h5
          exact ⟨l'.drop 5, by rw [← h5]; exact List.take_append_drop 5 l'⟩
        have hw' := func_noword hf'
        have ea : Agree (k - 5) (l.drop 5) (l'.drop 5) := ⟨take_drop_eq ha.1 (by omega), by rw [List.drop_drop, List.drop_drop, show 5 + (k - 5) = k by omega]; exact ha.2⟩
        have et := tail_agree (tl_le n) (tl_le m) (tl_agree n m (by omega)) (show tail (tl n) (l.drop 5) = k - 5 by omega) (by omega) ea
        rw [tl_func hw' hf', et, fin_pos (by omega)]
        omega
/-- What f finds, cut out, is a whole type. -/
theorem piece_valid {l : Tx} {k : Nat} (h : tl 100 l = k) (hk : k ≠ 0) (hl : k ≤ 100) : valid (l.take k) = true := by
  have hle := tl_le 100 l
  have e := tl_agree 100 101 (by omega) l (l.take k) k h hk ⟨by rw [List.take_take, Nat.min_self], .inl (.inl (by rw [List.drop_eq_nil_iff, List.length_take]; omega))⟩
  unfold valid
  rw [e, List.length_take, Nat.min_eq_left (by omega)]
  exact decide_eq_true ⟨by omega, hk, rfl⟩
end Go.Proofs.Ytmcechcigehjbab
