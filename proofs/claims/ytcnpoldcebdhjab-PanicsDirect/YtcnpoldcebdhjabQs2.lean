/- What comes of each event that was played. -/
import Derived.Test.YtcnpoldcebdhjabQs1
namespace Go.Proofs.Ytcnpoldcebdhjab
open Go.ChangeShapes Go.WideShapes Go.ChangeAt Go.RowKit
set_option linter.unusedSimpArgs false
set_option linter.unusedVariables false
theorem trace_at : ∀ (l : List Ev) (st : St) (k : Nat) (x : St × List Tl), (trace st l)[k]? = some x → ∃ s e, (st :: (trace st l).map (·.1))[k]? = some s ∧ l[k]? = some e ∧ s.fin = 0 ∧ x = s.step [] e
  | [], st, k, x, h => by simp [trace] at h
  | e :: r, st, k, x, h => by
    by_cases h0 : st.fin = 0
    · unfold trace at h ⊢
      rw [if_pos h0] at h ⊢
      rcases k with _ | k
      · simp at h
        exact ⟨st, e, rfl, rfl, h0, h.symm⟩
      · simp only [List.getElem?_cons_succ] at h
        obtain ⟨s, e2, h1, h2, h3, h4⟩ := trace_at r _ k x h
        exact ⟨s, e2, by simpa using h1, by simpa using h2, h3, h4⟩
    · rw [trace_end h0] at h
      simp at h
theorem Played.came {w : World} {S Al : Value} {l : List Ev} {ss : List So} {ts : List To} (h : Played w S Al l ss ts) {k : Nat} {s : So} {t : To} (hs : ss[k]? = some s) (ht : ts[k]? = some t) : ∃ e f r, l[k]? = some e ∧ s.st.fin = 0 ∧ t.td = (s.st.step [] e).2 ∧ s.st.fr = f :: r := by
  have h1 : (ts.map (·.td))[k]? = some t.td := by simp [ht]
  rw [h.td] at h1
  simp only [List.getElem?_map, Option.map_eq_some_iff] at h1
  obtain ⟨x, hx, hxe⟩ := h1
  obtain ⟨s1, e, g1, g2, g3, g4⟩ := trace_at l bSt k x hx
  have h2 : (ss.map (·.st))[k]? = some s.st := by simp [hs]
  rw [h.st] at h2
  rw [h2] at g1
  cases g1
  obtain ⟨j, -, hf⟩ := h.fit s (List.mem_of_getElem? hs)
  have hne := hf.ok.u.ne g3
  cases hfr : s.st.fr with
  | nil => exact absurd hfr hne
  | cons f r => exact ⟨e, f, r, g2, g3, by rw [← hxe, g4], rfl⟩
theorem step_rec {st : St} {e : Ev} {f : Fr} {r : List Fr} (hf : st.fr = f :: r) (h5 : e.k = 5) : (st.step [] e).2 = (st.recS f).2 := by
  unfold St.step
  rw [hf]
  simp [h5]
theorem FRow.top {B : Nat} {w : World} {F : Value} {fes : List Fe} {f : Fr} {r : List Fr} (h : FRow B w F fes (f :: r).reverse) : ∃ L, fes[r.length]? = some ⟨f, L⟩ ∧ fes.length = r.length + 1 := by
  have hl := h.len
  simp at hl
  have h1 : (fes.map (·.x))[r.length]? = some f := by rw [h.xs, List.reverse_cons, List.getElem?_append_right (by simp)]; simp
  simp only [List.getElem?_map, Option.map_eq_some_iff] at h1
  obtain ⟨fe, h2, h3⟩ := h1
  exact ⟨fe.L, by rw [h2, ← h3], hl⟩
end Go.Proofs.Ytcnpoldcebdhjab
