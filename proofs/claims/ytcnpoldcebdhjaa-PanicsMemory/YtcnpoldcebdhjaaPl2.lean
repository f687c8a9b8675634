/- What is played, for the laws. -/
import Derived.Test.YtcnpoldcebdhjaaPinv3
namespace Go.Proofs.Ytcnpoldcebdhjaa
open Go.ChangeShapes Go.WideShapes Go.ChangeAt Go.RowKit
set_option linter.unusedSimpArgs false
set_option linter.unusedVariables false
theorem evs_ok {es es' : List Eo} (h : es'.map (·.x) = (es.take 400).map (fun e => evOf e.x)) : es'.length ≤ 400 ∧ ∀ e ∈ es', Norm e.x := by
  refine ⟨?_, fun e he => ?_⟩
  · have := congrArg List.length h
    simp at this
    omega
  · have h1 : e.x ∈ es'.map (·.x) := List.mem_map.2 ⟨e, he, rfl⟩
    rw [h] at h1
    obtain ⟨e2, -, h2⟩ := List.mem_map.1 h1
    rw [← h2]
    exact norm_evOf _
structure Played (w : World) (S Al : Value) (l : List Ev) (ss : List So) (ts : List To) : Prop where
  srow : w.ownsRow 0 26 6 S ss.length (rc So.cells ss)
  own : ∀ s ∈ ss, SOwn w s
  trow : w.ownsRow 0 37 1 Al ts.length (rc To.cells ts)
  told : ∀ t ∈ ts, TOwn w t
  st : ss.map (·.st) = bSt :: (trace bSt l).map (·.1)
  td : ts.map (·.td) = (trace bSt l).map (·.2)
  norm : ∀ e ∈ l, Norm e
  len4 : l.length ≤ 400
theorem Played.below {w w' : World} {S Al : Value} {l : List Ev} {ss : List So} {ts : List To} (h : Played w S Al l ss ts) (hb : Below w.heap.size w w') : Played w' S Al l ss ts :=
  ⟨row_below h.srow hb, fun s hs => (h.own s hs).keeps (Keeps.below (t0 := 26) hb) (by decide) (by decide) (by decide), row_below h.trow hb, fun t ht => row_below (h.told t ht) hb, h.st, h.td, h.norm, h.len4⟩
theorem Played.fit {w : World} {S Al : Value} {l : List Ev} {ss : List So} {ts : List To} (h : Played w S Al l ss ts) : ∀ s ∈ ss, ∃ j, j ≤ 400 ∧ Fit j s.st := fun s hs => by
  have h1 : s.st ∈ ss.map (·.st) := List.mem_map.2 ⟨s, hs, rfl⟩
  rw [h.st] at h1
  obtain ⟨j, hj, hf⟩ := fit_trace h.norm s.st h1
  exact ⟨j, by have := h.len4; omega, hf⟩
theorem Played.len {w : World} {S Al : Value} {l : List Ev} {ss : List So} {ts : List To} (h : Played w S Al l ss ts) : ss.length = ts.length + 1 := by
  have h1 := congrArg List.length h.st
  have h2 := congrArg List.length h.td
  simp at h1 h2
  omega
theorem trace_le : ∀ (l : List Ev) (st : St), (trace st l).length ≤ l.length
  | [], st => by simp [trace]
  | e :: r, st => by
    unfold trace
    split
    · have := trace_le r (st.step [] e).1; simp; omega
    · simp
theorem Played.short {w : World} {S Al : Value} {l : List Ev} {ss : List So} {ts : List To} (h : Played w S Al l ss ts) : ts.length ≤ 400 := by
  have h1 := congrArg List.length h.td
  have h3 := trace_le l bSt
  have h4 := h.len4
  simp at h1
  omega
theorem own_playedE (v : Value) (evs : List Eo) (w : World) (B : Nat) (h : w.ownsRow B 34 6 v evs.length (rc Eo.cells evs)) (hn : evs.length ≤ 400) (hnorm : ∀ e ∈ evs, Norm e.x) :
    Calls Try.prog 20 #[v] w fun x w' => ∃ so sc ao ac ss ts, x = .returned (.tuple #[.slice so (ts.length + 1) sc, .slice ao ts.length ac, .bool true]) ∧ Played w' (.slice so (ts.length + 1) sc) (.slice ao ts.length ac) (evs.map (·.x)) ss ts ∧ Below w.heap.size w w' := by
  refine (own_played v evs w (row_up h (Nat.zero_le _)) hn hnorm).mono ?_
  rintro x w' ⟨S, Al, ss, ts, rfl, h1, h2, h3, h4, -, h6, h7, h8⟩
  have hp : Played w' S Al (evs.map (·.x)) ss ts := ⟨h1, h2, h3, h4, h6, h7, (fun e he => by obtain ⟨e2, he2, rfl⟩ := List.mem_map.1 he; exact hnorm e2 he2), by simpa using hn⟩
  obtain ⟨so, sc, hS⟩ := row_slice h1
  obtain ⟨ao, ac, hA⟩ := row_slice h3
  rw [hp.len] at hS
  subst hS; subst hA
  exact ⟨so, sc, ao, ac, ss, ts, rfl, hp, h8⟩
/-- A state of those played, read. -/
theorem Played.at {w : World} {so : Option Addr} {n sc : Nat} {Al : Value} {l : List Ev} {ss : List So} {ts : List To} (h : Played w (.slice so n sc) Al l ss ts) {k : Nat} {s : So} (hk : ss[k]? = some s) : ∃ g, so = some ⟨g, 0, none⟩ ∧ g < w.heap.size ∧ ∀ u, Below w.heap.size w u → u.cell? ⟨g, k * 6, none⟩ = some (.slice s.fo s.es.length s.fc) ∧ u.cell? ⟨g, k * 6 + 1, none⟩ = some (.slice s.po s.st.ps.length s.pc) ∧ u.cell? ⟨g, k * 6 + 2, none⟩ = some (.int .i64 s.st.next) ∧ u.cell? ⟨g, k * 6 + 3, none⟩ = some (.int .i64 s.st.ser) ∧ u.cell? ⟨g, k * 6 + 4, none⟩ = some (.int .i64 s.st.fin) ∧ u.cell? ⟨g, k * 6 + 5, none⟩ = some (.int .i64 s.st.stat) := by
  obtain ⟨g, cap, hv, -, hg, hc, -, -⟩ := own_at So.len h.srow hk
  simp only [Value.slice.injEq] at hv
  refine ⟨g, hv.1, hg, fun u hu => ?_⟩
  refine ⟨?_, ?_, ?_, ?_, ?_, ?_⟩
  · rw [hu.cell hg]; have := hc 0 _ rfl; simpa using this
  · rw [hu.cell hg]; exact hc 1 _ rfl
  · rw [hu.cell hg]; exact hc 2 _ rfl
  · rw [hu.cell hg]; exact hc 3 _ rfl
  · rw [hu.cell hg]; exact hc 4 _ rfl
  · rw [hu.cell hg]; exact hc 5 _ rfl
end Go.Proofs.Ytcnpoldcebdhjaa
