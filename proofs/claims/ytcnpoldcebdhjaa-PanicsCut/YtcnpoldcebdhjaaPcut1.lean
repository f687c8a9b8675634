/- Events played whole, plainly. -/
import Derived.Test.YtcnpoldcebdhjaaPcrash
namespace Go.Proofs.Ytcnpoldcebdhjaa
set_option linter.unusedSimpArgs false
set_option linter.unusedVariables false
theorem unwind_td : ∀ (n : Nat) (st : St) (a b : List Tl), unwind n st (a ++ b) = ((unwind n st b).1, a ++ (unwind n st b).2)
  | 0, st, a, b => rfl
  | n + 1, st, a, b => by
    unfold unwind
    by_cases hm : st.more = true
    · rw [if_pos hm, if_pos hm, List.append_assoc]; exact unwind_td n _ a _
    · rw [if_neg hm, if_neg hm]
theorem unwind_td0 (n : Nat) (st : St) (a : List Tl) : unwind n st a = ((unwind n st []).1, a ++ (unwind n st []).2) := by
  have h := unwind_td n st a []
  rwa [List.append_nil] at h
theorem step_td (st : St) (td : List Tl) (e : Ev) : st.step td e = ((st.step [] e).1, td ++ (st.step [] e).2) := by
  unfold St.step
  cases st.fr with
  | nil => simp
  | cons f r =>
    simp only
    split
    · simp
    · split
      · exact unwind_td0 _ _ _
      · split
        · simp
        · split
          · exact unwind_td0 _ _ _
          · split
            · simp
            · simp
def runE : St → List Tl → List Ev → St × List Tl
  | st, td, [] => (st, td)
  | st, td, e :: r => if st.fin = 0 then runE (st.step td e).1 (st.step td e).2 r else (st, td)
theorem runE_end {st : St} {td : List Tl} {l : List Ev} (h : st.fin ≠ 0) : runE st td l = (st, td) := by
  cases l with
  | nil => rfl
  | cons e r => simp [runE, h]
theorem runE_step {st : St} {td : List Tl} {l : List Ev} {k : Nat} {e : Ev} (h0 : st.fin = 0) (hk : l[k]? = some e) : runE st td (l.drop k) = runE (st.step td e).1 (st.step td e).2 (l.drop (k + 1)) := by
  have hkl := (List.getElem?_eq_some_iff.1 hk).1
  rw [List.drop_eq_getElem_cons hkl, (List.getElem?_eq_some_iff.1 hk).2]
  simp [runE, h0]
theorem runE_trace : ∀ (l : List Ev) (st : St) (td : List Tl), runE st td l = ((st :: (trace st l).map (·.1)).getLast (by simp), td ++ (trace st l).flatMap (·.2))
  | [], st, td => by simp [runE, trace]
  | e :: r, st, td => by
    by_cases h0 : st.fin = 0
    · have h1 : trace st (e :: r) = st.step [] e :: trace (st.step [] e).1 r := by simp [trace, h0]
      have h2 : runE st td (e :: r) = runE (st.step td e).1 (st.step td e).2 r := by simp [runE, h0]
      rw [h2, runE_trace r, step_td st td e]
      simp only [h1, List.map_cons, List.flatMap_cons, List.append_assoc, List.getLast_cons_cons]
    · simp [runE, trace, h0]
theorem startS_phi (st : St) (f : Fr) (r : List Fr) (d : Int) (ds : List Int) (hf : st.fr = f :: r) : (st.startS f r d ds).2.length + 2 * (st.startS f r d ds).1.fr.length ≤ 2 * st.fr.length + 3 := by
  unfold St.startS
  split
  · simp [St.done]; omega
  · rw [hf]; simp; omega
theorem unwind_phi : ∀ (n : Nat) (st : St) (td : List Tl), (unwind n st td).2.length + 2 * (unwind n st td).1.fr.length ≤ td.length + 2 * st.fr.length + 3
  | 0, st, td => by simp [unwind]
  | n + 1, st, td => by
    unfold unwind
    by_cases hm : st.more = true
    · rw [if_pos hm]
      obtain ⟨h0, f, r, hf, hp⟩ := more_is hm
      rcases hd : f.df with _ | ⟨d, ds⟩
      · have hu : st.unw1 = st.dropS f r := by unfold St.unw1; rw [hf]; simp only [hd]
        rw [hu]
        obtain ⟨l1, l2, -, -⟩ := dropS_len st f r
        have := unwind_phi n (st.dropS f r).1 (td ++ (st.dropS f r).2)
        rw [List.length_append] at this
        rw [hf]
        simp only [List.length_cons]
        omega
      · have hu : st.unw1 = st.startS f r d ds := by unfold St.unw1; rw [hf]; simp only [hd]
        rw [hu, unwind_stop (startS_stops _ _ _ _ _)]
        have := startS_phi st f r d ds hf
        simp only [List.length_append]
        omega
    · rw [if_neg hm]; simp only; omega
theorem step_phi (st : St) (td : List Tl) (e : Ev) : (st.step td e).2.length + 2 * (st.step td e).1.fr.length ≤ td.length + 2 * st.fr.length + 3 := by
  unfold St.step
  cases hf : st.fr with
  | nil => simp [hf]
  | cons f r =>
    simp only
    split
    · unfold St.callS
      split
      · simp [St.done, hf]; omega
      · simp [St.push, hf]; omega
    · split
      · have := unwind_phi (r.length + 2) { st with fr := { f with ph := 1 } :: r } td
        simpa using this
      · split
        · simp
        · split
          · have := unwind_phi (r.length + 2) (st.panicS (Pv.of e.vk e.vn e.vs) f r) td
            simpa [St.panicS] using this
          · split
            · unfold St.recS
              cases st.ps with
              | nil => simp [hf]; omega
              | cons q ps => simp only; split <;> simp [hf] <;> omega
            · simp [St.done, hf]; omega
theorem evOf_same (e : Ev) : evOf (evOf e) = evOf e := by
  obtain ⟨⟨h1, h2⟩, h3⟩ := norm_evOf e
  generalize hx : evOf e = x at *
  have hw : Go.RowKit.wrap64 (x.k - 1) = x.k - 1 := by unfold Go.RowKit.wrap64; omega
  have hs : spotI (x.k - 1) 6 = x.k - 1 := by
    unfold spotI
    rw [Int.tmod_eq_emod_of_nonneg (by omega), if_neg (by omega)]
    omega
  have hk : kOf x = x.k := by unfold kOf; rw [hw, hs]; omega
  have hv1 : vk1 x = x.vk := by
    unfold vk1
    rw [if_neg]
    rintro ⟨a, b, c, d⟩
    have := h3 a
    omega
  have hv2 : vk2 x = x.vk := by
    unfold vk2
    rw [hk, hv1]
    split
    · rename_i h
      have := h3 h.1
      omega
    · rfl
  unfold evOf
  rw [hk, hv2]
end Go.Proofs.Ytcnpoldcebdhjaa
