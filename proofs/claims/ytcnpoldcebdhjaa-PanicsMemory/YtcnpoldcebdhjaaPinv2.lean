/- What holds of every state that events come to: step by step. -/
import Derived.Test.YtcnpoldcebdhjaaPinv
import Derived.Test.YtcnpoldcebdhjaaQe1
namespace Go.Proofs.Ytcnpoldcebdhjaa
set_option linter.unusedSimpArgs false
set_option linter.unusedVariables false
def Norm (e : Ev) : Prop := (1 ≤ e.k ∧ e.k ≤ 6) ∧ (e.k = 4 → e.vk = 1 ∨ e.vk = 3 ∨ e.vk = 5)
theorem norm_evOf (e : Ev) : Norm (evOf e) := by
  have h := spotI_range (Go.RowKit.wrap64 (e.k - 1)) 6 (by decide)
  refine ⟨by show 1 ≤ kOf e ∧ kOf e ≤ 6; unfold kOf; omega, fun h4 => ?_⟩
  show vk2 e = 1 ∨ vk2 e = 3 ∨ vk2 e = 5
  have h4' : kOf e = 4 := h4
  unfold vk2
  by_cases h3 : vk1 e = 3
  · simp [h3]
  · by_cases h5 : vk1 e = 5
    · simp [h5]
    · simp [h3, h5, h4']
theorem code_norm {st : St} {e : Ev} (h0 : st.fin = 0) (hne : st.fr ≠ []) (hn : Norm e) : st.code e = 0 := by
  unfold St.code
  rw [if_neg (by simp [h0, hne]), if_pos]
  obtain ⟨⟨h1, h2⟩, h3⟩ := hn
  by_cases h4 : e.k = 4
  · have := h3 h4; omega
  · omega
theorem more_is {st : St} (hm : st.more = true) : st.fin = 0 ∧ ∃ f r, st.fr = f :: r ∧ f.ph ≠ 0 := by
  unfold St.more at hm
  simp only [Bool.and_eq_true, beq_iff_eq] at hm
  obtain ⟨h0, h1⟩ := hm
  cases hf : st.fr with
  | nil => rw [hf] at h1; cases h1
  | cons f r => rw [hf] at h1; exact ⟨h0, f, r, rfl, by simpa using h1⟩
theorem unwind_ind (P : St → Prop) (hd : ∀ st f r, P st → st.more = true → st.fr = f :: r → f.df = [] → P (st.dropS f r).1) (hs : ∀ st f r d ds, P st → st.more = true → st.fr = f :: r → f.df = d :: ds → P (st.startS f r d ds).1) :
    ∀ (n : Nat) (st : St) (td : List Tl), P st → P (unwind n st td).1
  | 0, st, td, h => h
  | n + 1, st, td, h => by
    unfold unwind
    by_cases hm : st.more = true
    · rw [if_pos hm]
      refine unwind_ind P hd hs n _ _ ?_
      obtain ⟨h0, f, r, hf, hp⟩ := more_is hm
      unfold St.unw1
      rw [hf]
      simp only
      cases hdf : f.df with
      | nil => exact hd st f r h hm hf hdf
      | cons d ds => exact hs st f r d ds h hm hf hdf
    · rw [if_neg hm]; exact h
theorem unwind_stops : ∀ (n : Nat) (st : St) (td : List Tl), st.fr.length < n → (unwind n st td).1.more = false
  | 0, st, td, h => by omega
  | n + 1, st, td, h => by
    unfold unwind
    by_cases hm : st.more = true
    · rw [if_pos hm]
      obtain ⟨h0, f, r, hf, hp⟩ := more_is hm
      unfold St.unw1
      rw [hf]
      simp only
      cases hdf : f.df with
      | nil =>
        simp only
        refine unwind_stops n _ _ ?_
        rw [(dropS_len st f r).1]
        rw [hf] at h; simp at h; omega
      | cons d ds =>
        simp only
        rw [unwind_stop (startS_stops _ _ _ _ _)]
        exact startS_stops _ _ _ _ _
    · rw [if_neg hm]; simpa using hm
/-- Nothing is more than so much. -/
structure Bd (i : Nat) (st : St) : Prop where
  fr : st.fr.length ≤ 30
  df : ∀ f ∈ st.fr, f.df.length ≤ i
  ps : st.ps.length ≤ i
  nx : st.next ≤ i + 1
  sr : st.ser ≤ i
  s0 : 0 ≤ st.ser
theorem unwind_bd {n : Nat} {st : St} {td : List Tl} {i : Nat} (hfr : st.fr.length ≤ 30) (hdf : ∀ f ∈ st.fr, f.df.length ≤ i) (hps : st.ps.length ≤ i) : (unwind n st td).1.fr.length ≤ 30 ∧ (∀ f ∈ (unwind n st td).1.fr, f.df.length ≤ i) ∧ (unwind n st td).1.ps.length ≤ i := by
  refine unwind_ind (fun st => st.fr.length ≤ 30 ∧ (∀ f ∈ st.fr, f.df.length ≤ i) ∧ st.ps.length ≤ i) (fun st f r h hm hf hd => ?_) (fun st f r d ds h hm hf hd => ?_) n st td ⟨hfr, hdf, hps⟩
  · obtain ⟨h1, h2, h3⟩ := h
    obtain ⟨l1, -, -, l4⟩ := dropS_len st f r
    rw [hf] at h1 h2
    simp at h1
    exact ⟨by omega, dropS_df st f r (fun l => l.length ≤ i) (fun x hx => h2 x (by simp [hx])), by omega⟩
  · obtain ⟨h1, h2, h3⟩ := h
    unfold St.startS
    split
    · exact ⟨h1, h2, h3⟩
    · rename_i hlt
      rw [hf] at h2 hlt
      refine ⟨by simp at hlt ⊢; omega, fun x hx => ?_, h3⟩
      rcases List.mem_cons.1 hx with rfl | hx
      · simp
      · rcases List.mem_cons.1 hx with rfl | hx
        · have := h2 f (by simp); rw [hd] at this; simp at this ⊢; omega
        · exact h2 x (by simp [hx])
theorem unwind_next {n : Nat} {st : St} {td : List Tl} {b s : Int} (h : st.next ≤ b) (hs : st.ser = s) : (unwind n st td).1.next ≤ b + 1 ∧ (unwind n st td).1.ser = s := by
  have := unwind_ind (fun st => st.next ≤ b + 1 ∧ (st.more = true → st.next ≤ b) ∧ st.ser = s) (fun st f r h hm hf hd => ?_) (fun st f r d ds h hm hf hd => ?_) n st td ⟨by omega, fun _ => h, hs⟩
  · exact ⟨this.1, this.2.2⟩
  · obtain ⟨h1, h2, h3⟩ := h
    obtain ⟨-, -, l3, -⟩ := dropS_len st f r
    rw [l3]
    refine ⟨h1, fun _ => h2 hm, ?_⟩
    rw [← h3]
    unfold St.dropS
    split
    · unfold St.leftS; cases r with
      | nil => rfl
      | cons g r => simp only; split <;> rfl
    · unfold St.passedS; cases r with
      | nil => rfl
      | cons g r => rfl
  · obtain ⟨h1, h2, h3⟩ := h
    have h4 := h2 hm
    refine ⟨?_, (fun hh => by rw [startS_stops] at hh; cases hh), ?_⟩
    · unfold St.startS; split
      · simp only [St.done]; omega
      · simp only; omega
    · rw [← h3]; unfold St.startS; split <;> rfl
/-- A state that a step has come to. -/
structure Ok (i : Nat) (st : St) : Prop where
  u : U st
  bd : Bd i st
  run : st.fin = 0 → ∀ f r, st.fr = f :: r → f.ph = 0
theorem Ok.start : Ok 0 ⟨[⟨0, 0, -1, 0, []⟩], [], 1, 0, 0, 0⟩ := by
  refine ⟨⟨by simp, by simp, by simp, fun _ => ⟨rfl, rfl⟩, fun _ => by simp, fun _ f r h => ?_, fun _ f r h _ => rfl, fun _ f r h h2 => ?_, (fun h => by cases h), by decide⟩, ⟨by decide, by simp, by simp, by decide, by decide, by decide⟩, fun _ f r h => ?_⟩
  · simp only [List.cons.injEq] at h; rw [← h.1]; exact .inl rfl
  · simp only [List.cons.injEq] at h; rw [← h.1] at h2; cases h2
  · simp only [List.cons.injEq] at h; rw [← h.1]
theorem run_of {st : St} (h : st.more = false) (h0 : st.fin = 0) : ∀ f r, st.fr = f :: r → f.ph = 0 := by
  intro f r hf
  unfold St.more at h
  rw [hf, h0] at h
  simpa using h
theorem Ok.take {i : Nat} {st : St} (h : Ok i st) (h0 : st.fin = 0) (hi : i ≤ 500000) : TakeOk st [] := by
  refine ⟨by have := h.bd.fr; omega, fun f hf => by have := h.bd.df f hf; omega, by have := h.bd.ps; omega, by have := h.bd.fr; simp; omega, by have := h.u.nx; omega, by have := h.bd.nx; omega, h.bd.s0, by have := h.bd.sr; omega, fun f r hf hm => ?_⟩
  have hp := h.run h0 f r hf
  have hl := h.u.lv h0 f r hf (by omega)
  rw [hf, pans_two f r hm] at hl
  intro hps
  rw [hps] at hl
  simp [live] at hl
theorem Ok.step {i : Nat} {st : St} {e : Ev} (h : Ok i st) (h0 : st.fin = 0) (hn : Norm e) : Ok (i + 1) (st.step [] e).1 := by
  obtain ⟨f, r, hf⟩ : ∃ f r, st.fr = f :: r := by
    cases hc : st.fr with
    | nil => exact absurd hc (h.u.ne h0)
    | cons f r => exact ⟨f, r, rfl⟩
  have hp := h.run h0 f r hf
  have hc := h.u.chain h0
  have hl := h.u.lv h0 f r hf (by omega)
  have hb := h.bd
  have hbf := hb.fr; have hbd := hb.df; have hbp := hb.ps; have hbn := hb.nx; have hbs := hb.sr; have hb0 := hb.s0
  rw [hf] at hc hl hbf hbd
  simp only [List.length_cons] at hbf
  have hul := h.u.lt
  unfold St.step
  rw [hf]
  simp only
  split
  · -- call
    unfold St.callS
    split
    · exact ⟨h.u.done 6 0 (by decide) (by decide), ⟨hb.fr, fun x hx => by have := hb.df x hx; omega, by show st.ps.length ≤ i + 1; omega, by show st.next ≤ _; omega, by show st.ser ≤ _; omega, hb0⟩, fun hh => by cases hh⟩
    · rename_i hlt
      rw [hf] at hlt
      simp only [List.length_cons] at hlt
      refine ⟨⟨h.u.sorted, h.u.lt, h.u.head, fun _ => ?_, fun _ => by simp [St.push], fun _ f' r' hfr => ?_, fun _ f' r' hfr h3 => ?_, fun _ f' r' hfr h3 => ?_, fun h2 => ?_, by show 0 < st.next + 1; have := h.u.nx; omega⟩, ⟨?_, fun x hx => ?_, by show st.ps.length ≤ i + 1; omega, by show st.next + 1 ≤ _; omega, by show st.ser ≤ _; omega, hb0⟩, fun _ f' r' hfr => ?_⟩
      · show chainF (_ :: st.fr); rw [hf]; exact ⟨h.u.nx, .inl ⟨rfl, hp⟩, hc⟩
      · have hfr' : (⟨st.next, 0, -1, 0, []⟩ : Fr) :: st.fr = f' :: r' := hfr
        simp only [List.cons.injEq] at hfr'; rw [← hfr'.1]; exact .inl rfl
      · show live st.ps = pans ((⟨st.next, 0, -1, 0, []⟩ : Fr) :: st.fr); rw [pans_skip _ _ (by simp), hf]; exact hl
      · have hfr' : (⟨st.next, 0, -1, 0, []⟩ : Fr) :: st.fr = f' :: r' := hfr
        simp only [List.cons.injEq] at hfr'; rw [← hfr'.1] at h3; cases h3
      · have h2' : st.fin = 2 := h2
        rw [h0] at h2'; cases h2'
      · show (_ :: st.fr).length ≤ 30; rw [hf]; simp; omega
      · have hx' : x ∈ (⟨st.next, 0, -1, 0, []⟩ : Fr) :: st.fr := hx
        rcases List.mem_cons.1 hx' with rfl | hx'
        · simp
        · have := hb.df x hx'; omega
      · have hfr' : (⟨st.next, 0, -1, 0, []⟩ : Fr) :: st.fr = f' :: r' := hfr
        simp only [List.cons.injEq] at hfr'; rw [← hfr'.1]
  · split
    · -- return
      have hU : U { st with fr := { f with ph := 1 } :: r } := by
        refine ⟨h.u.sorted, h.u.lt, h.u.head, fun _ => chain_ph hc 1, fun _ => by simp, fun _ f' r' hfr => ?_, fun _ f' r' hfr h3 => ?_, fun _ f' r' hfr h3 => ?_, fun h2 => ?_, h.u.nx⟩
        · simp only [List.cons.injEq] at hfr; rw [← hfr.1]; exact .inr (.inl rfl)
        · show live st.ps = pans ({ f with ph := 1 } :: r); rw [pans_ph f r 1]; exact hl
        · simp only [List.cons.injEq] at hfr; rw [← hfr.1] at h3; cases h3
        · simp only at h2; rw [h0] at h2; cases h2
      have hd : ∀ x ∈ ({ f with ph := 1 } :: r : List Fr), x.df.length ≤ i + 1 := fun x hx => by
        rcases List.mem_cons.1 hx with rfl | hx
        · have := hbd f (by simp); show f.df.length ≤ _; omega
        · have := hbd x (by simp [hx]); omega
      obtain ⟨b1, b2, b3⟩ := unwind_bd (n := r.length + 2) (st := { st with fr := { f with ph := 1 } :: r }) (td := []) (i := i + 1) (by simp; omega) hd (by show st.ps.length ≤ _; omega)
      obtain ⟨b4, b5⟩ := unwind_next (n := r.length + 2) (st := { st with fr := { f with ph := 1 } :: r }) (td := []) (b := i + 1) (s := st.ser) hbn rfl
      have hst := unwind_stops (r.length + 2) { st with fr := { f with ph := 1 } :: r } [] (by simp)
      exact ⟨hU.unwind _ _ _, ⟨b1, b2, b3, by omega, by rw [b5]; omega, by rw [b5]; exact hb0⟩, fun hh => run_of hst hh⟩
    · split
      · -- defer
        refine ⟨⟨h.u.sorted, h.u.lt, h.u.head, fun _ => chain_df hc _, fun _ => by simp, fun _ f' r' hfr => ?_, fun _ f' r' hfr h3 => ?_, fun _ f' r' hfr h3 => ?_, fun h2 => ?_, h.u.nx⟩, ⟨by simp; omega, fun x hx => ?_, by show st.ps.length ≤ _; omega, by show st.next ≤ _; omega, by show st.ser ≤ _; omega, hb0⟩, fun _ f' r' hfr => ?_⟩
        · simp only [List.cons.injEq] at hfr; rw [← hfr.1]; exact .inl hp
        · show live st.ps = pans ({ f with df := e.n :: f.df } :: r); rw [pans_df f r _]; exact hl
        · simp only [List.cons.injEq] at hfr; rw [← hfr.1] at h3; simp only at h3; omega
        · simp only at h2; rw [h0] at h2; cases h2
        · rcases List.mem_cons.1 hx with rfl | hx
          · have := hbd f (by simp); simp; omega
          · have := hbd x (by simp [hx]); omega
        · simp only [List.cons.injEq] at hfr; rw [← hfr.1]; exact hp
      · split
        · -- panic
          have hU : U (st.panicS (Pv.of e.vk e.vn e.vs) f r) := by
            refine ⟨?_, fun q hq => ?_, ?_, fun _ => chain_ph hc 2, fun _ => by simp [St.panicS], fun _ f' r' hfr => ?_, fun _ f' r' hfr h3 => ?_, fun _ f' r' hfr h3 => ⟨_, _, rfl, rfl, ?_⟩, fun h2 => ?_, h.u.nx⟩
            · exact List.pairwise_cons.2 ⟨fun q hq => (hul q hq).2, h.u.sorted⟩
            · rcases List.mem_cons.1 hq with rfl | hq
              · exact ⟨hb0, by show st.ser < st.ser + 1; omega⟩
              · have := hul q hq; exact ⟨this.1, by show q.ser < st.ser + 1; omega⟩
            · intro q r' hq; cases hq; rfl
            · simp only [St.panicS, List.cons.injEq] at hfr; rw [← hfr.1]; exact .inr (.inr rfl)
            · simp only [St.panicS, List.cons.injEq] at hfr; rw [← hfr.1] at h3; exact absurd rfl h3
            · show live (⟨st.ser, Pv.of e.vk e.vn e.vs, false, false⟩ :: st.ps) = st.ser :: pans ({ f with ph := 2 } :: r)
              rw [live_cons _ _ rfl, hl, pans_ph f r 2]
            · have h2' : st.fin = 2 := h2
              rw [h0] at h2'; cases h2'
          have hd : ∀ x ∈ ({ f with ph := 2 } :: r : List Fr), x.df.length ≤ i + 1 := fun x hx => by
            rcases List.mem_cons.1 hx with rfl | hx
            · have := hbd f (by simp); show f.df.length ≤ _; omega
            · have := hbd x (by simp [hx]); omega
          obtain ⟨b1, b2, b3⟩ := unwind_bd (n := r.length + 2) (st := st.panicS (Pv.of e.vk e.vn e.vs) f r) (td := []) (i := i + 1) (by simp [St.panicS]; omega) hd (by simp [St.panicS]; omega)
          obtain ⟨b4, b5⟩ := unwind_next (n := r.length + 2) (st := st.panicS (Pv.of e.vk e.vn e.vs) f r) (td := []) (b := i + 1) (s := st.ser + 1) hbn rfl
          have hst := unwind_stops (r.length + 2) (st.panicS (Pv.of e.vk e.vn e.vs) f r) [] (by simp [St.panicS])
          exact ⟨hU.unwind _ _ _, ⟨b1, b2, b3, by omega, by rw [b5]; omega, by rw [b5]; omega⟩, fun hh => run_of hst hh⟩
        · split
          · -- recover
            unfold St.recS
            have hsame : Ok (i + 1) st := ⟨h.u, ⟨hb.fr, fun x hx => by have := hb.df x hx; omega, by omega, by omega, by omega, hb0⟩, h.run⟩
            cases hps : st.ps with
            | nil => exact hsame
            | cons q ps =>
              simp only
              split
              · have hq := h.u.head q ps hps
                have hlv : live ({ q with rc := true } :: ps) = live (q :: ps) := by rw [live_cons _ _ hq, live_cons _ _ (by exact hq)]
                have hs := h.u.sorted
                rw [hps] at hs hl hul hbp
                refine ⟨⟨?_, fun p hp' => ?_, ?_, h.u.chain, h.u.ne, h.u.ph, fun _ f' r' hfr h3 => ?_, fun _ f' r' hfr h3 => ?_, fun h2 => ?_, h.u.nx⟩, ⟨hb.fr, fun x hx => by have := hb.df x hx; omega, by simp at hbp ⊢; omega, by show st.next ≤ _; omega, by show st.ser ≤ _; omega, hb0⟩, h.run⟩
                · rw [List.pairwise_cons] at hs ⊢; exact hs
                · rcases List.mem_cons.1 hp' with rfl | hp'
                  · exact hul q (by simp)
                  · exact hul p (by simp [hp'])
                · intro p r' hpr; cases hpr; exact hq
                · show live ({ q with rc := true } :: ps) = pans st.fr; rw [hlv, hf]; exact hl
                · have := h.run h0 f' r' hfr; omega
                · simp only at h2; rw [h0] at h2; cases h2
              · exact hsame
          · -- exit
            exact ⟨h.u.done 3 _ (by decide) (by decide), ⟨hb.fr, fun x hx => by have := hb.df x hx; omega, by show st.ps.length ≤ i + 1; omega, by show st.next ≤ _; omega, by show st.ser ≤ _; omega, hb0⟩, fun hh => by cases hh⟩
end Go.Proofs.Ytcnpoldcebdhjaa
