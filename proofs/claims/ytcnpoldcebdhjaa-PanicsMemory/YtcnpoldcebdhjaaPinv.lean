/- What holds of every state that events come to. -/
import Derived.Test.YtcnpoldcebdhjaaQw13
namespace Go.Proofs.Ytcnpoldcebdhjaa
set_option linter.unusedSimpArgs false
set_option linter.unusedVariables false
def live (ps : List Pn) : List Int := (ps.filter (fun q => !q.ab)).map (·.ser)
def pans (fr : List Fr) : List Int := (fr.filter (fun f => decide (f.mark = 2))).map (·.pan)
/-- How activations stand on one another. -/
def chainF : List Fr → Prop
  | [] => True
  | [f] => f.mark = 0 ∧ f.id = 0
  | y :: x :: r => 0 < y.id ∧ ((y.mark = 0 ∧ x.ph = 0) ∨ (y.mark = 1 ∧ x.ph = 1) ∨ (y.mark = 2 ∧ x.ph = 2)) ∧ chainF (x :: r)
structure U (st : St) : Prop where
  sorted : st.ps.Pairwise (fun a b => b.ser < a.ser)
  lt : ∀ q ∈ st.ps, 0 ≤ q.ser ∧ q.ser < st.ser
  head : ∀ q r, st.ps = q :: r → q.ab = false
  chain : st.fin = 0 → chainF st.fr
  ne : st.fin = 0 → st.fr ≠ []
  ph : st.fin = 0 → ∀ f r, st.fr = f :: r → f.ph = 0 ∨ f.ph = 1 ∨ f.ph = 2
  lv : st.fin = 0 → ∀ f r, st.fr = f :: r → f.ph ≠ 2 → live st.ps = pans st.fr
  lv2 : st.fin = 0 → ∀ f r, st.fr = f :: r → f.ph = 2 → ∃ q ps', st.ps = q :: ps' ∧ q.rc = false ∧ live st.ps = q.ser :: pans st.fr
  crash : st.fin = 2 → st.stat = 2 ∧ st.fr = [] ∧ ∃ q ps', st.ps = q :: ps' ∧ q.rc = false
  nx : 0 < st.next
theorem pans_ph (f : Fr) (r : List Fr) (x : Int) : pans ({ f with ph := x } :: r) = pans (f :: r) := by
  unfold pans
  by_cases h : f.mark = 2 <;> simp [List.filter_cons, h]
theorem pans_df (f : Fr) (r : List Fr) (x : List Int) : pans ({ f with df := x } :: r) = pans (f :: r) := by
  unfold pans
  by_cases h : f.mark = 2 <;> simp [List.filter_cons, h]
theorem pans_skip (f : Fr) (r : List Fr) (h : f.mark ≠ 2) : pans (f :: r) = pans r := by
  unfold pans; simp [List.filter_cons, h]
theorem pans_two (f : Fr) (r : List Fr) (h : f.mark = 2) : pans (f :: r) = f.pan :: pans r := by
  unfold pans; simp [List.filter_cons, h]
theorem live_cons (q : Pn) (r : List Pn) (h : q.ab = false) : live (q :: r) = q.ser :: live r := by
  unfold live; simp [List.filter_cons, h]
theorem live_drop : ∀ ps : List Pn, live (ps.dropWhile (·.ab)) = live ps
  | [] => rfl
  | q :: r => by
    rw [List.dropWhile_cons]
    cases h : q.ab with
    | true => simp only [if_true]; rw [live_drop r]; unfold live; simp [List.filter_cons, h]
    | false => simp
theorem drop_head : ∀ (ps : List Pn) q r, ps.dropWhile (·.ab) = q :: r → q.ab = false
  | [], q, r, h => by simp at h
  | p :: ps, q, r, h => by
    rw [List.dropWhile_cons] at h
    cases hp : p.ab with
    | true => rw [hp] at h; simp only [if_true] at h; exact drop_head ps q r h
    | false => rw [hp] at h; simp at h; rw [← h.1]; exact hp
theorem live_mem {ps : List Pn} {s : Int} (h : s ∈ live ps) : ∃ q ∈ ps, q.ser = s := by
  unfold live at h
  obtain ⟨q, hq, rfl⟩ := List.mem_map.1 h
  exact ⟨q, (List.mem_filter.1 hq).1, rfl⟩
theorem live_if (q : Pn) (r : List Pn) : live (q :: r) = if q.ab = true then live r else q.ser :: live r := by
  unfold live
  cases h : q.ab <;> simp [List.filter_cons, h]
theorem live_abort : ∀ (s : Int) (ps : List Pn), live (abortP s ps) = (live ps).filter (fun x => decide (x ≠ s))
  | s, [] => rfl
  | s, q :: r => by
    have ih := live_abort s r
    rw [show abortP s (q :: r) = fab s q :: abortP s r from rfl, live_if, live_if, ih]
    unfold fab
    by_cases h : q.ser = s
    · rw [if_pos h]
      cases hab : q.ab with
      | true => simp
      | false => simp [h]
    · rw [if_neg h]
      cases hab : q.ab with
      | true => simp
      | false => simp [h]
theorem chain_ph {f : Fr} {r : List Fr} (h : chainF (f :: r)) (x : Int) : chainF ({ f with ph := x } :: r) := by
  cases r with
  | nil => exact h
  | cons g r => exact h
theorem chain_df {f : Fr} {r : List Fr} (h : chainF (f :: r)) (x : List Int) : chainF ({ f with df := x } :: r) := by
  cases r with
  | nil => exact h
  | cons g r => exact h
/-- A panic's number is above those that began earlier. -/
theorem lv_sorted {q : Pn} {ps : List Pn} (hs : (q :: ps).Pairwise (fun a b => b.ser < a.ser)) {s : Int} (h : s ∈ live ps) : s < q.ser := by
  obtain ⟨p, hp, rfl⟩ := live_mem h
  exact (List.pairwise_cons.1 hs).1 p hp
theorem live_pair {ps : List Pn} (hs : ps.Pairwise (fun a b => b.ser < a.ser)) : (live ps).Pairwise (fun a b => b < a) := by
  unfold live
  rw [List.pairwise_map]
  exact hs.filter _
theorem filter_ne_all {l : List Int} {s : Int} (h : ∀ x ∈ l, x ≠ s) : l.filter (fun x => decide (x ≠ s)) = l := List.filter_eq_self.2 fun x hx => by simpa using h x hx
theorem abort_pair {s : Int} {ps : List Pn} (hs : ps.Pairwise (fun a b => b.ser < a.ser)) : (abortP s ps).Pairwise (fun a b => b.ser < a.ser) := by
  unfold abortP
  rw [List.pairwise_map]
  refine hs.imp fun {a b} h => ?_
  unfold fab
  split <;> split <;> exact h
theorem fab_ser (s : Int) (q : Pn) : (fab s q).ser = q.ser := by unfold fab; split <;> rfl
theorem fab_rc (s : Int) (q : Pn) : (fab s q).rc = q.rc := by unfold fab; split <;> rfl
theorem U.done {st : St} (h : U st) (e s : Int) (he : e ≠ 0) (h2 : e ≠ 2) : U (st.done e s) :=
  ⟨h.sorted, h.lt, h.head, fun h0 => absurd h0 he, fun h0 => absurd h0 he, fun h0 => absurd h0 he, fun h0 => absurd h0 he, fun h0 => absurd h0 he, fun h0 => absurd h0 h2, h.nx⟩
theorem U.left {st : St} {f : Fr} {r : List Fr} (h : U st) (h0 : st.fin = 0) (hf : st.fr = f :: r) (hp : f.ph = 1) : U (({ st with fr := r } : St).leftS f).1 := by
  have hc := h.chain h0
  have hl := h.lv h0 f r hf (by omega)
  rw [hf] at hc hl
  unfold St.leftS
  cases r with
  | nil => exact ⟨h.sorted, h.lt, h.head, (fun h => by cases h), (fun h => by cases h), (fun h => by cases h), (fun h => by cases h), (fun h => by cases h), (fun h => by cases h), h.nx⟩
  | cons g r =>
    obtain ⟨hid, hm, hc2⟩ := hc
    simp only
    by_cases hm2 : f.mark = 2
    · have hg : g.ph = 2 := by omega
      rw [pans_two f _ hm2] at hl
      obtain ⟨q, ps, hq⟩ : ∃ q ps, st.ps = q :: ps := by
        cases hps : st.ps with
        | nil => rw [hps] at hl; simp [live] at hl
        | cons q ps => exact ⟨q, ps, rfl⟩
      have hab := h.head q ps hq
      have hl' := hl
      rw [hq, live_cons q ps hab] at hl'
      obtain ⟨e1, e2⟩ := List.cons.inj hl'
      by_cases hrc : lastRc st.ps = true
      · rw [if_pos ⟨hm2, hrc⟩]
        have he : endP st.ps = ps.dropWhile (·.ab) := by unfold endP; rw [hq]; rfl
        have hsub : (endP st.ps).Sublist st.ps := by rw [he, hq]; exact (List.dropWhile_sublist _).trans (List.sublist_cons_self _ _)
        refine ⟨h.sorted.sublist hsub, fun p hp => h.lt p (hsub.subset hp), ?_, fun _ => chain_ph hc2 1, fun _ => by simp, fun _ f' r' hfr => ?_, fun _ f' r' hfr h3 => ?_, fun _ f' r' hfr h3 => ?_, fun h2 => ?_, h.nx⟩
        · intro p r' hpr; simp only at hpr; rw [he] at hpr; exact drop_head ps p r' hpr
        · simp only [List.cons.injEq] at hfr; rw [← hfr.1]; exact .inr (.inl rfl)
        · simp only
          rw [he, live_drop, pans_ph, e2]
        · simp only [List.cons.injEq] at hfr; rw [← hfr.1] at h3; cases h3
        · simp only at h2; rw [h0] at h2; cases h2
      · rw [if_neg (fun hh => hrc hh.2)]
        have hrcq : q.rc = false := by
          rw [hq] at hrc; simp only [lastRc] at hrc
          cases hh : q.rc with
          | false => rfl
          | true => exact absurd hh hrc
        refine ⟨h.sorted, h.lt, h.head, fun _ => hc2, fun _ => by simp, fun _ f' r' hfr => ?_, fun _ f' r' hfr h3 => ?_, fun _ f' r' hfr h3 => ⟨q, ps, hq, hrcq, ?_⟩, fun h2 => ?_, h.nx⟩
        · simp only [List.cons.injEq] at hfr; rw [← hfr.1]; exact .inr (.inr hg)
        · simp only [List.cons.injEq] at hfr; rw [← hfr.1] at h3; exact absurd hg h3
        · simp only; rw [hl, e1]
        · simp only at h2; rw [h0] at h2; cases h2
    · rw [if_neg (fun hh => hm2 hh.1)]
      rw [pans_skip f _ hm2] at hl
      have hg : g.ph ≠ 2 := by omega
      refine ⟨h.sorted, h.lt, h.head, fun _ => hc2, fun _ => by simp, fun _ f' r' hfr => ?_, fun _ f' r' hfr h3 => hl, fun _ f' r' hfr h3 => ?_, fun h2 => ?_, h.nx⟩
      · simp only [List.cons.injEq] at hfr; rw [← hfr.1]; omega
      · simp only [List.cons.injEq] at hfr; rw [← hfr.1] at h3; exact absurd h3 hg
      · simp only at h2; rw [h0] at h2; cases h2
theorem U.passed {st : St} {f : Fr} {r : List Fr} (h : U st) (h0 : st.fin = 0) (hf : st.fr = f :: r) (hp : f.ph = 2) : U (({ st with fr := r } : St).passedS f).1 := by
  have hc := h.chain h0
  obtain ⟨q, ps, hq, hrc, hl⟩ := h.lv2 h0 f r hf hp
  rw [hf] at hc hl
  have hab := h.head q ps hq
  unfold St.passedS
  cases r with
  | nil =>
    exact ⟨h.sorted, h.lt, h.head, (fun h => by cases h), (fun h => by cases h), (fun h => by cases h), (fun h => by cases h), (fun h => by cases h), (fun _ => ⟨rfl, rfl, q, ps, hq, hrc⟩), h.nx⟩
  | cons g r =>
    obtain ⟨hid, hm, hc2⟩ := hc
    simp only
    by_cases hm2 : f.mark = 2
    · rw [if_pos hm2]
      rw [pans_two f _ hm2] at hl
      have hlp := live_pair h.sorted
      rw [hl, List.pairwise_cons, List.pairwise_cons] at hlp
      have hqf : f.pan < q.ser := hlp.1 f.pan (by simp)
      have hfq : fab f.pan q = q := by unfold fab; rw [if_neg (by omega)]
      have hab2 : abortP f.pan st.ps = q :: abortP f.pan ps := by rw [hq]; unfold abortP; rw [List.map_cons, hfq]
      have hl2 : live (abortP f.pan st.ps) = q.ser :: pans (g :: r) := by
        rw [live_abort, hl, List.filter_cons, if_pos (by simp; omega), List.filter_cons, if_neg (by simp), filter_ne_all (fun x hx => by have := hlp.2.1 x hx; omega)]
      refine ⟨abort_pair h.sorted, fun p hp => ?_, ?_, fun _ => chain_ph hc2 2, fun _ => by simp, fun _ f' r' hfr => ?_, fun _ f' r' hfr h3 => ?_, fun _ f' r' hfr h3 => ⟨q, _, hab2, hrc, ?_⟩, fun h2 => ?_, h.nx⟩
      · unfold abortP at hp
        obtain ⟨p', hp', rfl⟩ := List.mem_map.1 hp
        rw [fab_ser]; exact h.lt p' hp'
      · intro p r' hpr; simp only at hpr; rw [hab2] at hpr; cases hpr; exact hab
      · simp only [List.cons.injEq] at hfr; rw [← hfr.1]; exact .inr (.inr rfl)
      · simp only [List.cons.injEq] at hfr; rw [← hfr.1] at h3; exact absurd rfl h3
      · show live (abortP f.pan st.ps) = q.ser :: pans ({ g with ph := 2 } :: r)
        rw [hl2, pans_ph g r 2]
      · simp only at h2; rw [h0] at h2; cases h2
    · rw [if_neg hm2]
      rw [pans_skip f _ hm2] at hl
      refine ⟨h.sorted, h.lt, h.head, fun _ => chain_ph hc2 2, fun _ => by simp, fun _ f' r' hfr => ?_, fun _ f' r' hfr h3 => ?_, fun _ f' r' hfr h3 => ⟨q, ps, hq, hrc, ?_⟩, fun h2 => ?_, h.nx⟩
      · simp only [List.cons.injEq] at hfr; rw [← hfr.1]; exact .inr (.inr rfl)
      · simp only [List.cons.injEq] at hfr; rw [← hfr.1] at h3; exact absurd rfl h3
      · show live st.ps = q.ser :: pans ({ g with ph := 2 } :: r)
        rw [hl, pans_ph g r 2]
      · simp only at h2; rw [h0] at h2; cases h2
theorem U.start {st : St} {f : Fr} {r : List Fr} {d : Int} {ds : List Int} (h : U st) (h0 : st.fin = 0) (hf : st.fr = f :: r) (hp : f.ph = 1 ∨ f.ph = 2) : U (st.startS f r d ds).1 := by
  have hc := h.chain h0
  rw [hf] at hc
  unfold St.startS
  split
  · exact h.done 6 0 (by decide) (by decide)
  · rcases hp with hp | hp
    · have hl := h.lv h0 f r hf (by omega)
      refine ⟨h.sorted, h.lt, h.head, fun _ => ⟨h.nx, .inr (.inl ⟨by simp [hp], hp⟩), chain_df hc ds⟩, fun _ => by simp, fun _ f' r' hfr => ?_, fun _ f' r' hfr h3 => ?_, fun _ f' r' hfr h3 => ?_, fun h2 => ?_, by show 0 < st.next + 1; have := h.nx; omega⟩
      · simp only [List.cons.injEq] at hfr; rw [← hfr.1]; exact .inl rfl
      · simp only
        rw [pans_skip _ _ (by simp [hp]), pans_df, hl, hf]
      · simp only [List.cons.injEq] at hfr; rw [← hfr.1] at h3; cases h3
      · simp only at h2; rw [h0] at h2; cases h2
    · obtain ⟨q, ps, hq, hrc, hl⟩ := h.lv2 h0 f r hf hp
      refine ⟨h.sorted, h.lt, h.head, fun _ => ⟨h.nx, .inr (.inr ⟨by simp [hp], hp⟩), chain_df hc ds⟩, fun _ => by simp, fun _ f' r' hfr => ?_, fun _ f' r' hfr h3 => ?_, fun _ f' r' hfr h3 => ?_, fun h2 => ?_, by show 0 < st.next + 1; have := h.nx; omega⟩
      · simp only [List.cons.injEq] at hfr; rw [← hfr.1]; exact .inl rfl
      · simp only
        rw [pans_two _ _ (by simp [hp]), pans_df, hl, hf]
        simp [hp, hq, lastSer]
      · simp only [List.cons.injEq] at hfr; rw [← hfr.1] at h3; cases h3
      · simp only at h2; rw [h0] at h2; cases h2
theorem U.unwind : ∀ (n : Nat) (st : St) (td : List Tl), U st → U (unwind n st td).1
  | 0, st, td, h => h
  | n + 1, st, td, h => by
    unfold Go.Proofs.Ytcnpoldcebdhjaa.unwind
    by_cases hm : st.more = true
    · rw [if_pos hm]
      refine U.unwind n _ _ ?_
      unfold St.more at hm
      simp only [Bool.and_eq_true, beq_iff_eq] at hm
      obtain ⟨h0, h1⟩ := hm
      cases hf : st.fr with
      | nil => rw [hf] at h1; cases h1
      | cons f r =>
        rw [hf] at h1
        simp only [bne_iff_ne, ne_eq] at h1
        have hp := h.ph h0 f r hf
        unfold St.unw1
        rw [hf]
        simp only
        cases hd : f.df with
        | nil =>
          simp only
          unfold St.dropS
          by_cases h2 : f.ph = 1
          · rw [if_pos h2]; exact h.left h0 hf h2
          · rw [if_neg h2]; exact h.passed h0 hf (by omega)
        | cons d ds => simp only; exact h.start h0 hf (by omega)
    · rw [if_neg hm]; exact h
end Go.Proofs.Ytcnpoldcebdhjaa
