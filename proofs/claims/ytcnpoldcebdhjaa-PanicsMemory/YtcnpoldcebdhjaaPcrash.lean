/- A run crashes just when a panic leaves main. -/
import Derived.Test.YtcnpoldcebdhjaaPl3
namespace Go.Proofs.Ytcnpoldcebdhjaa
set_option linter.unusedSimpArgs false
set_option linter.unusedVariables false
theorem row_max {w : Go.World} {B e s n : Nat} {v : Go.Value} {xs : List Go.Value} (h : w.ownsRow B e s v n xs) : n ≤ 9223372036854775807 := by
  rcases h.2 with ⟨-, h0⟩ | ⟨g, cap, cur, -, -, -, hcap, hmax, -⟩
  · omega
  · have : Go.maxLen ≤ 9223372036854775807 := by decide
    omega
def isB (t : Tl) : Bool := t.k == 4 && t.n == 0
def bad (td : List Tl) : Bool := td.any isB
theorem bad_app (a b : List Tl) : bad (a ++ b) = (bad a || bad b) := by unfold bad; rw [List.any_append]
theorem bad_drop {st : St} {f : Fr} {r : List Fr} (h : U st) (h0 : st.fin = 0) (hf : st.fr = f :: r) (hp : f.ph ≠ 0) : bad (st.dropS f r).2 = decide ((st.dropS f r).1.fin = 2) := by
  have hph := h.ph h0 f r hf
  have hc := h.chain h0
  rw [hf] at hc
  unfold St.dropS
  by_cases h1 : f.ph = 1
  · rw [if_pos h1]
    unfold St.leftS
    cases r with
    | nil => simp [St.done, bad, isB, tEnd]
    | cons g r =>
      simp only
      split <;> simp [bad, isB, h0]
  · rw [if_neg h1]
    unfold St.passedS
    cases r with
    | nil =>
      have : f.id = 0 := hc.2
      simp [St.done, bad, isB, tEnd, this]
    | cons g r =>
      have : 0 < f.id := hc.1
      have h2 : (f.id == 0) = false := by simp; omega
      simp [bad, isB, h0, h2]
theorem bad_start (st : St) (f : Fr) (r : List Fr) (d : Int) (ds : List Int) (h0 : st.fin = 0) : bad (st.startS f r d ds).2 = decide ((st.startS f r d ds).1.fin = 2) := by
  unfold St.startS
  split
  · simp [St.done, bad, isB, tEnd]
  · simp [bad, isB, h0]
theorem unwind_bad : ∀ (n : Nat) (st : St) (td : List Tl), U st → bad td = decide (st.fin = 2) → bad (unwind n st td).2 = decide ((unwind n st td).1.fin = 2)
  | 0, st, td, h, hb => hb
  | n + 1, st, td, h, hb => by
    unfold unwind
    by_cases hm : st.more = true
    · rw [if_pos hm]
      obtain ⟨h0, f, r, hf, hp⟩ := more_is hm
      have hph := h.ph h0 f r hf
      have hb0 : bad td = false := by rw [hb, h0]; rfl
      rcases hd : f.df with _ | ⟨d, ds⟩
      · have hu : st.unw1 = st.dropS f r := by unfold St.unw1; rw [hf]; simp only [hd]
        rw [hu]
        refine unwind_bad n _ _ ?_ ?_
        · unfold St.dropS
          by_cases h2 : f.ph = 1
          · rw [if_pos h2]; exact h.left h0 hf h2
          · rw [if_neg h2]; exact h.passed h0 hf (by omega)
        · rw [bad_app, hb0, Bool.false_or, bad_drop h h0 hf hp]
      · have hu : st.unw1 = st.startS f r d ds := by unfold St.unw1; rw [hf]; simp only [hd]
        rw [hu]
        refine unwind_bad n _ _ (h.start h0 hf (by omega)) ?_
        rw [bad_app, hb0, Bool.false_or, bad_start _ _ _ _ _ h0]
    · rw [if_neg hm]; exact hb
theorem step_bad {i : Nat} {st : St} {e : Ev} (h : Ok i st) (h0 : st.fin = 0) (hn : Norm e) : bad (st.step [] e).2 = decide ((st.step [] e).1.fin = 2) := by
  obtain ⟨f, r, hf⟩ : ∃ f r, st.fr = f :: r := by
    cases hc : st.fr with
    | nil => exact absurd hc (h.u.ne h0)
    | cons f r => exact ⟨f, r, rfl⟩
  have hp := h.run h0 f r hf
  have hc := h.u.chain h0
  have hl := h.u.lv h0 f r hf (by omega)
  rw [hf] at hc hl
  unfold St.step
  rw [hf]
  simp only
  split
  · unfold St.callS
    split
    · simp [St.done, bad, isB, tEnd]
    · simp [St.push, bad, isB, h0]
  · split
    · refine unwind_bad _ _ _ ?_ (by show bad [] = decide (st.fin = 2); rw [h0]; rfl)
      refine ⟨h.u.sorted, h.u.lt, h.u.head, fun _ => chain_ph hc 1, fun _ => by simp, fun _ f' r' hfr => ?_, fun _ f' r' hfr h3 => ?_, fun _ f' r' hfr h3 => ?_, fun h2 => ?_, h.u.nx⟩
      · simp only [List.cons.injEq] at hfr; rw [← hfr.1]; exact .inr (.inl rfl)
      · show live st.ps = pans ({ f with ph := 1 } :: r); rw [pans_ph f r 1]; exact hl
      · simp only [List.cons.injEq] at hfr; rw [← hfr.1] at h3; cases h3
      · simp only at h2; rw [h0] at h2; cases h2
    · split
      · simp [bad, h0]
      · split
        · refine unwind_bad _ _ _ ?_ (by show bad [] = decide (st.fin = 2); rw [h0]; rfl)
          refine ⟨?_, fun q hq => ?_, ?_, fun _ => chain_ph hc 2, fun _ => by simp [St.panicS], fun _ f' r' hfr => ?_, fun _ f' r' hfr h3 => ?_, fun _ f' r' hfr h3 => ⟨_, _, rfl, rfl, ?_⟩, fun h2 => ?_, h.u.nx⟩
          · exact List.pairwise_cons.2 ⟨fun q hq => (h.u.lt q hq).2, h.u.sorted⟩
          · rcases List.mem_cons.1 hq with rfl | hq
            · exact ⟨h.bd.s0, by show st.ser < st.ser + 1; omega⟩
            · have := h.u.lt q hq; exact ⟨this.1, by show q.ser < st.ser + 1; omega⟩
          · intro q r' hq; cases hq; rfl
          · simp only [St.panicS, List.cons.injEq] at hfr; rw [← hfr.1]; exact .inr (.inr rfl)
          · simp only [St.panicS, List.cons.injEq] at hfr; rw [← hfr.1] at h3; exact absurd rfl h3
          · show live (⟨st.ser, Pv.of e.vk e.vn e.vs, false, false⟩ :: st.ps) = st.ser :: pans ({ f with ph := 2 } :: r)
            rw [live_cons _ _ rfl, hl, pans_ph f r 2]
          · have h2' : st.fin = 2 := h2
            rw [h0] at h2'; cases h2'
        · split
          · unfold St.recS
            cases st.ps with
            | nil => simp [bad, isB, tNo, h0]
            | cons q ps => simp only; split <;> simp [bad, isB, tNo, h0]
          · simp [St.done, bad, isB, tEnd]
theorem trace_bad : ∀ (l : List Ev) (i : Nat) (st s : St), Ok i st → st.fin ≠ 2 → (∀ e ∈ l, Norm e) → (st :: (trace st l).map (·.1)).getLast? = some s → (trace st l).any (fun q => bad q.2) = decide (s.fin = 2)
  | [], i, st, s, h, h2, hn, hs => by
    simp [trace] at hs ⊢
    subst hs; simpa using h2
  | e :: r, i, st, s, h, h2, hn, hs => by
    by_cases h0 : st.fin = 0
    · have hb := step_bad h h0 (hn e (by simp))
      have hk := h.step h0 (hn e (by simp))
      unfold trace at hs ⊢
      rw [if_pos h0] at hs ⊢
      simp only [List.map_cons, List.any_cons] at hs ⊢
      rw [List.getLast?_cons_cons] at hs
      by_cases h3 : (st.step [] e).1.fin = 2
      · have ht : trace (st.step [] e).1 r = [] := trace_end (by rw [h3]; decide)
        rw [ht] at hs ⊢
        simp at hs
        subst hs
        rw [hb]; simp [h3]
      · rw [hb]
        have := trace_bad r (i + 1) _ s hk h3 (fun x hx => hn x (by simp [hx])) hs
        rw [this]; simp [h3]
    · have ht : trace st (e :: r) = [] := trace_end h0
      rw [ht] at hs ⊢
      simp at hs ⊢
      subst hs; simpa using h2
theorem Played.crash {w : World} {S Al : Value} {l : List Ev} {ss : List So} {ts : List To} {s : So} (h : Played w S Al l ss ts) (hs : ss[ts.length]? = some s) : ts.any (fun t => bad t.td) = decide (s.st.fin = 2) := by
  have h1 : (bSt :: (trace bSt l).map (·.1)).getLast? = some s.st := by
    rw [← h.st, List.getLast?_eq_getElem?, List.length_map, h.len, Nat.add_sub_cancel, List.getElem?_map, hs]
    rfl
  have h2 := trace_bad l 0 bSt s.st Ok.start (by decide) h.norm h1
  rw [← h2]
  have h3 : ts.any (fun t => bad t.td) = (ts.map (·.td)).any bad := by rw [List.any_map]; rfl
  rw [h3, h.td, List.any_map]
  rfl
end Go.Proofs.Ytcnpoldcebdhjaa
