/- Of states that have ended, and of the last of a trace. -/
import Derived.Test.YtcnpoldcebdhjaaQe3
namespace Go.Proofs.Ytcnpoldcebdhjaa
set_option linter.unusedSimpArgs false
set_option linter.unusedVariables false
def rmS (st : St) : Prop := ∀ f r, st.fr = f :: r → f.mark = 2 → st.ps ≠ []
theorem U.rm {st : St} (h : U st) (h0 : st.fin = 0) : rmS st := fun f r hf hm hps => by
  by_cases hp : f.ph = 2
  · obtain ⟨q, ps, hq, -, -⟩ := h.lv2 h0 f r hf hp
    rw [hps] at hq; cases hq
  · have hl := h.lv h0 f r hf hp
    rw [hf, pans_two f r hm, hps] at hl
    simp [live] at hl
theorem unwind_rm {n : Nat} {st : St} {td : List Tl} (hU : U st) (h0 : st.fin = 0) : rmS (unwind n st td).1 := by
  have := unwind_ind (fun st => U st ∧ rmS st) (fun st f r h hm hf hd => ?_) (fun st f r d ds h hm hf hd => ?_) n st td ⟨hU, hU.rm h0⟩
  · exact this.2
  · obtain ⟨h0, f', r', hf', hp⟩ := more_is hm
    rw [hf] at hf'
    simp only [List.cons.injEq] at hf'
    obtain ⟨rfl, rfl⟩ := hf'
    have hU2 : U (st.dropS f r).1 := by
      have hph := h.1.ph h0 f r hf
      unfold St.dropS
      by_cases h2 : f.ph = 1
      · rw [if_pos h2]; exact h.1.left h0 hf h2
      · rw [if_neg h2]; exact h.1.passed h0 hf (by omega)
    refine ⟨hU2, ?_⟩
    by_cases h1 : (st.dropS f r).1.fin = 0
    · exact hU2.rm h1
    · intro f' r' hf'
      exfalso
      unfold St.dropS at hf' h1
      split at hf'
      · rename_i hp1
        rw [if_pos hp1] at h1
        unfold St.leftS at hf' h1
        cases r with
        | nil => simp [St.done] at hf'
        | cons g r => simp only at h1; split at h1 <;> exact h1 h0
      · rename_i hp1
        rw [if_neg hp1] at h1
        unfold St.passedS at hf' h1
        cases r with
        | nil => simp [St.done] at hf'
        | cons g r => exact h1 h0
  · obtain ⟨h0, f', r', hf', hp⟩ := more_is hm
    rw [hf] at hf'
    simp only [List.cons.injEq] at hf'
    obtain ⟨rfl, rfl⟩ := hf'
    have hU2 : U (st.startS f r d ds).1 := h.1.start h0 hf (by have := h.1.ph h0 f r hf; omega)
    refine ⟨hU2, ?_⟩
    by_cases h1 : (st.startS f r d ds).1.fin = 0
    · exact hU2.rm h1
    · unfold St.startS at h1 ⊢
      split
      · exact h.2
      · rename_i hlt
        rw [if_neg hlt] at h1
        exact absurd h0 h1
theorem Ok.rm {i : Nat} {st : St} {e : Ev} (h : Ok i st) (h0 : st.fin = 0) (hn : Norm e) : rmS (st.step [] e).1 := by
  by_cases h1 : (st.step [] e).1.fin = 0
  · exact (h.step h0 hn).u.rm h1
  · obtain ⟨f, r, hf⟩ : ∃ f r, st.fr = f :: r := by
      cases hc : st.fr with
      | nil => exact absurd hc (h.u.ne h0)
      | cons f r => exact ⟨f, r, rfl⟩
    have hp := h.run h0 f r hf
    have hc := h.u.chain h0
    have hl := h.u.lv h0 f r hf (by omega)
    rw [hf] at hc hl
    unfold St.step at h1 ⊢
    rw [hf] at h1 ⊢
    simp only at h1 ⊢
    split
    · unfold St.callS; split
      · exact h.u.rm h0
      · rename_i hk hlt
        rw [if_pos hk] at h1
        unfold St.callS at h1
        rw [if_neg hlt] at h1
        exact absurd h0 h1
    · split
      · refine unwind_rm ?_ h0
        refine ⟨h.u.sorted, h.u.lt, h.u.head, fun _ => chain_ph hc 1, fun _ => by simp, fun _ f' r' hfr => ?_, fun _ f' r' hfr h3 => ?_, fun _ f' r' hfr h3 => ?_, fun h2 => ?_, h.u.nx⟩
        · simp only [List.cons.injEq] at hfr; rw [← hfr.1]; exact .inr (.inl rfl)
        · show live st.ps = pans ({ f with ph := 1 } :: r); rw [pans_ph f r 1]; exact hl
        · simp only [List.cons.injEq] at hfr; rw [← hfr.1] at h3; cases h3
        · simp only at h2; rw [h0] at h2; cases h2
      · split
        · intro f' r' hf' hm
          simp only [List.cons.injEq] at hf'
          exact h.u.rm h0 f r hf (by rw [← hf'.1] at hm; exact hm)
        · split
          · refine unwind_rm ?_ h0
            refine ⟨?_, fun q hq => ?_, ?_, fun _ => chain_ph hc 2, fun _ => by simp [St.panicS], fun _ f' r' hfr => ?_, fun _ f' r' hfr h3 => ?_, fun _ f' r' hfr h3 => ⟨_, _, rfl, rfl, ?_⟩, fun h2 => ?_, h.u.nx⟩
            · exact List.pairwise_cons.2 ⟨fun q hq => (h.u.lt q hq).2, h.u.sorted⟩
            · rcases List.mem_cons.1 hq with rfl | hq
              · exact ⟨h.bd.s0, by show st.ser < st.ser + 1; omega⟩
              · have := h.u.lt q hq; exact ⟨this.1, by show q.ser < st.ser + 1; omega⟩
            · intro q r' hq; cases hq; rfl
            · simp only [St.panicS, List.cons.injEq] at hfr; rw [← hfr.1]; exact .inr (.inr rfl)
            · simp only [St.panicS, List.cons.injEq] at hfr; rw [← hfr.1] at h3; exact absurd rfl h3
            · show live (⟨st.ser, Pv.of e.vk e.vn e.vs, false, false⟩ :: st.ps) = st.ser :: pans ({ f with ph := 2 } :: r)
              rw [live_cons _ _ rfl, hl, pans_ph f r 2]
            · have h2' : st.fin = 2 := h2
              rw [h0] at h2'; cases h2'
          · split
            · unfold St.recS
              cases hps : st.ps with
              | nil => exact fun f' r' hf' hm => absurd hps (h.u.rm h0 f' r' hf' hm)
              | cons q ps =>
                simp only
                split
                · intro f' r' hf' hm hh; cases hh
                · exact h.u.rm h0
            · exact h.u.rm h0
/-- All states of a trace. -/
theorem trace_all (P : Nat → St → Prop) (hs : ∀ i st e, P i st → st.fin = 0 → Norm e → P (i + 1) (st.step [] e).1) : ∀ (l : List Ev) (i : Nat) (st : St), P i st → (∀ e ∈ l, Norm e) → ∀ s ∈ st :: (trace st l).map (·.1), ∃ j, j ≤ i + l.length ∧ P j s
  | [], i, st, h, hn, s, hm => by
    simp [trace] at hm; subst hm; exact ⟨i, by omega, h⟩
  | e :: r, i, st, h, hn, s, hm => by
    rcases List.mem_cons.1 hm with rfl | hm
    · exact ⟨i, by omega, h⟩
    · unfold trace at hm
      by_cases h0 : st.fin = 0
      · rw [if_pos h0] at hm
        simp only [List.map_cons] at hm
        obtain ⟨j, hj, hp⟩ := trace_all P hs r (i + 1) _ (hs i st e h h0 (hn e (by simp))) (fun x hx => hn x (by simp [hx])) s hm
        exact ⟨j, by simp; omega, hp⟩
      · rw [if_neg h0] at hm; simp at hm
/-- A state of a trace is fit for a step. -/
structure Fit (i : Nat) (st : St) : Prop where
  ok : Ok i st
  rm : rmS st
theorem Fit.take {i : Nat} {st : St} (h : Fit i st) (hi : i ≤ 500000) : TakeOk st [] := by
  have hb := h.ok.bd
  exact ⟨by have := hb.fr; omega, fun f hf => by have := hb.df f hf; omega, by have := hb.ps; omega, by have := hb.fr; simp; omega, by have := h.ok.u.nx; omega, by have := hb.nx; omega, hb.s0, by have := hb.sr; omega, h.rm⟩
theorem fit_trace {l : List Ev} (hn : ∀ e ∈ l, Norm e) : ∀ s ∈ bSt :: (trace bSt l).map (·.1), ∃ j, j ≤ l.length ∧ Fit j s := fun s hs => by
  obtain ⟨j, hj, hp⟩ := trace_all Fit (fun i st e h h0 hn => ⟨h.ok.step h0 hn, h.ok.rm h0 hn⟩) l 0 bSt ⟨Ok.start, fun f r hf hm => by simp only [bSt, List.cons.injEq] at hf; rw [← hf.1] at hm; cases hm⟩ hn s hs
  exact ⟨j, by omega, hp⟩
end Go.Proofs.Ytcnpoldcebdhjaa
