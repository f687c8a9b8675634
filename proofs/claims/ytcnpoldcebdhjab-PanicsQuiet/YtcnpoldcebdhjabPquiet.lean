/- Events without a panic: nothing is in flight, nothing crashes. -/
import Derived.Test.YtcnpoldcebdhjabPcrash
namespace Go.Proofs.Ytcnpoldcebdhjab
open Go.ChangeShapes Go.WideShapes Go.ChangeAt Go.RowKit
set_option linter.unusedSimpArgs false
set_option linter.unusedVariables false
/-- An event, a return in a panic's place. -/
def q1 (e : Eo) : Eo := if e.x.k = 4 then { e with x := { e.x with k := 2 } } else e
def qz (k : Nat) (es : List Eo) : List Eo := (es.take k).map q1 ++ es.drop k
theorem qz_zero (es : List Eo) : qz 0 es = es := by simp [qz]
theorem qz_len (k : Nat) (es : List Eo) : (qz k es).length = es.length := by simp [qz]; omega
theorem qz_get {k : Nat} {es : List Eo} {e : Eo} (h : es[k]? = some e) : (qz k es)[k]? = some e := by
  have hk := (List.getElem?_eq_some_iff.1 h).1
  unfold qz
  rw [List.getElem?_append_right (by simp; omega)]
  simp [Nat.min_eq_left (Nat.le_of_lt hk), h]
theorem qz_step {k : Nat} {es : List Eo} {e : Eo} (h : es[k]? = some e) : (qz k es).set k (q1 e) = qz (k + 1) es := by
  have hk := (List.getElem?_eq_some_iff.1 h).1
  have hl : ((es.take k).map q1).length = k := by simp; omega
  unfold qz
  have he := (List.getElem?_eq_some_iff.1 h).2
  rw [List.set_append_right _ _ (by omega), hl, Nat.sub_self, List.drop_eq_getElem_cons hk, List.set_cons_zero, List.take_add_one, h]
  simp
theorem qz_same {k : Nat} {es : List Eo} {e : Eo} (h : es[k]? = some e) (h4 : e.x.k ≠ 4) : qz k es = qz (k + 1) es := by
  rw [← qz_step h]
  have : q1 e = e := by unfold q1; rw [if_neg h4]
  rw [this]
  have h1 := qz_get h
  apply List.ext_getElem?
  intro j
  by_cases hj : k = j
  · subst hj; rw [List.getElem?_set_self (List.getElem?_eq_some_iff.1 h1).1, h1]
  · rw [List.getElem?_set_ne hj]
theorem qz_full (es : List Eo) : qz es.length es = es.map q1 := by simp [qz]
theorem q1_norm {e : Eo} (h : Norm e.x) : Norm (q1 e).x ∧ (q1 e).x.k ≠ 4 := by
  unfold q1
  split
  · exact ⟨⟨⟨by show (1 : Int) ≤ 2; decide, by show (2 : Int) ≤ 6; decide⟩, fun h2 => by cases h2⟩, by show (2 : Int) ≠ 4; decide⟩
  · rename_i h4; exact ⟨h, h4⟩
/-- Nothing is in flight. -/
structure Qt (st : St) : Prop where
  ps : st.ps = []
  fr : ∀ f ∈ st.fr, f.mark ≠ 2 ∧ (f.ph = 0 ∨ f.ph = 1)
  fin : st.fin ≠ 2
def qb (t : Tl) : Bool := t.k != 5 && t.k != 4 && !(t.n == 2 && t.k == 7)
theorem unwind_quiet : ∀ (n : Nat) (st : St) (td : List Tl), Qt st → (∀ t ∈ td, qb t = true) → Qt (unwind n st td).1 ∧ ∀ t ∈ (unwind n st td).2, qb t = true
  | 0, st, td, h, hb => ⟨h, hb⟩
  | n + 1, st, td, h, hb => by
    unfold unwind
    by_cases hm : st.more = true
    · rw [if_pos hm]
      obtain ⟨h0, f, r, hf, hp⟩ := more_is hm
      have hff := h.fr f (by rw [hf]; simp)
      have hp1 : f.ph = 1 := by rcases hff.2 with h2 | h2; exact absurd h2 hp; exact h2
      have hr : ∀ g ∈ r, g.mark ≠ 2 ∧ (g.ph = 0 ∨ g.ph = 1) := fun g hg => h.fr g (by rw [hf]; simp [hg])
      rcases hd : f.df with _ | ⟨d, ds⟩
      · have hu : st.unw1 = st.dropS f r := by unfold St.unw1; rw [hf]; simp only [hd]
        rw [hu]
        have : Qt (st.dropS f r).1 ∧ ∀ t ∈ (st.dropS f r).2, qb t = true := by
          unfold St.dropS
          rw [if_pos hp1]
          unfold St.leftS
          cases r with
          | nil => exact ⟨⟨h.ps, fun g hg => by simp [St.done] at hg, by simp [St.done]⟩, by intro t ht; simp [tEnd] at ht; rcases ht with rfl | rfl <;> simp [qb]⟩
          | cons g r =>
            simp only
            rw [if_neg (fun hh => hff.1 hh.1)]
            exact ⟨⟨h.ps, hr, h.fin⟩, by intro t ht; simp at ht; subst ht; simp [qb]⟩
        exact unwind_quiet n _ _ this.1 (fun t ht => by rcases List.mem_append.1 ht with h1 | h1; exact hb t h1; exact this.2 t h1)
      · have hu : st.unw1 = st.startS f r d ds := by unfold St.unw1; rw [hf]; simp only [hd]
        rw [hu]
        have : Qt (st.startS f r d ds).1 ∧ ∀ t ∈ (st.startS f r d ds).2, qb t = true := by
          unfold St.startS
          split
          · exact ⟨⟨h.ps, h.fr, by simp [St.done]⟩, by intro t ht; simp [tEnd] at ht; subst ht; simp [qb]⟩
          · refine ⟨⟨h.ps, fun g hg => ?_, h.fin⟩, by intro t ht; simp at ht; subst ht; simp [qb]⟩
            simp only [List.mem_cons] at hg
            rcases hg with rfl | rfl | hg
            · exact ⟨by simp [hp1], .inl rfl⟩
            · exact hff
            · exact hr g hg
        exact unwind_quiet n _ _ this.1 (fun t ht => by rcases List.mem_append.1 ht with h1 | h1; exact hb t h1; exact this.2 t h1)
    · rw [if_neg hm]; exact ⟨h, hb⟩
theorem step_quiet {st : St} {e : Ev} (h : Qt st) (h4 : e.k ≠ 4) : Qt (st.step [] e).1 ∧ ∀ t ∈ (st.step [] e).2, qb t = true := by
  unfold St.step
  cases hf : st.fr with
  | nil => exact ⟨h, fun t ht => by cases ht⟩
  | cons f r =>
    have hff := h.fr f (by rw [hf]; simp)
    have hr : ∀ g ∈ r, g.mark ≠ 2 ∧ (g.ph = 0 ∨ g.ph = 1) := fun g hg => h.fr g (by rw [hf]; simp [hg])
    simp only
    by_cases k1 : e.k = 1
    · rw [if_pos k1]
      unfold St.callS
      split
      · exact ⟨⟨h.ps, h.fr, by simp [St.done]⟩, by intro t ht; simp [tEnd] at ht; subst ht; simp [qb]⟩
      · refine ⟨⟨h.ps, fun g hg => ?_, h.fin⟩, by intro t ht; simp at ht; subst ht; simp [qb]⟩
        simp only [St.push, List.mem_cons] at hg
        rcases hg with rfl | hg
        · exact ⟨by show (0 : Int) ≠ 2; decide, .inl rfl⟩
        · exact h.fr g hg
    rw [if_neg k1]
    by_cases k2 : e.k = 2
    · rw [if_pos k2]
      refine unwind_quiet _ _ _ ⟨h.ps, fun g hg => ?_, h.fin⟩ (fun t ht => by cases ht)
      simp only [List.mem_cons] at hg
      rcases hg with rfl | hg
      · exact ⟨hff.1, .inr rfl⟩
      · exact hr g hg
    rw [if_neg k2]
    by_cases k3 : e.k = 3
    · rw [if_pos k3]
      refine ⟨⟨h.ps, fun g hg => ?_, h.fin⟩, fun t ht => by cases ht⟩
      simp only [List.mem_cons] at hg
      rcases hg with rfl | hg
      · exact hff
      · exact hr g hg
    rw [if_neg k3, if_neg h4]
    by_cases k5 : e.k = 5
    · rw [if_pos k5]
      unfold St.recS
      rw [h.ps]
      exact ⟨h, by intro t ht; simp [tNo] at ht; subst ht; simp [qb]⟩
    · rw [if_neg k5]
      exact ⟨⟨h.ps, h.fr, by simp [St.done]⟩, by intro t ht; simp [tEnd] at ht; subst ht; simp [qb]⟩
theorem trace_quiet : ∀ (l : List Ev) (st : St), Qt st → (∀ e ∈ l, e.k ≠ 4) → ∀ x ∈ trace st l, Qt x.1 ∧ ∀ t ∈ x.2, qb t = true
  | [], st, h, hn, x, hx => by simp [trace] at hx
  | e :: r, st, h, hn, x, hx => by
    by_cases h0 : st.fin = 0
    · have hs := step_quiet (e := e) h (hn e (by simp))
      unfold trace at hx
      rw [if_pos h0] at hx
      rcases List.mem_cons.1 hx with rfl | hx
      · exact hs
      · exact trace_quiet r _ hs.1 (fun y hy => hn y (by simp [hy])) x hx
    · rw [trace_end h0] at hx
      cases hx
theorem Qt.start : Qt bSt := ⟨rfl, fun f hf => by simp [bSt] at hf; subst hf; exact ⟨by decide, .inl rfl⟩, by decide⟩
theorem Played.quiet {w : World} {S Al : Value} {l : List Ev} {ss : List So} {ts : List To} (h : Played w S Al l ss ts) (hn : ∀ e ∈ l, e.k ≠ 4) : (∀ t ∈ ts, ∀ x ∈ t.td, qb x = true) ∧ ∀ (k : Nat) s, ss[k + 1]? = some s → s.st.ps = [] := by
  have hq := trace_quiet l bSt Qt.start hn
  refine ⟨fun t ht x hx => ?_, fun k s hs => ?_⟩
  · have h1 : t.td ∈ ts.map (·.td) := List.mem_map.2 ⟨t, ht, rfl⟩
    rw [h.td] at h1
    obtain ⟨y, hy, hye⟩ := List.mem_map.1 h1
    have hy2 : y.2 = t.td := hye
    exact (hq y hy).2 x (by rw [hy2]; exact hx)
  · have h2 : (ss.map (·.st))[k + 1]? = some s.st := by simp [hs]
    rw [h.st, List.getElem?_cons_succ, List.getElem?_map] at h2
    obtain ⟨y, hy, hye⟩ := Option.map_eq_some_iff.1 h2
    have := (hq y (List.mem_of_getElem? hy)).1.ps
    have hye2 : y.1 = s.st := hye
    rw [hye2] at this
    exact this
end Go.Proofs.Ytcnpoldcebdhjab
