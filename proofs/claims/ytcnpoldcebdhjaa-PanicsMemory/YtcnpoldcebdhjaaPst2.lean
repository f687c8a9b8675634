/- Turning a state in memory: a cell of an activation, one more, one less. -/
import Derived.Test.YtcnpoldcebdhjaaPst
namespace Go.Proofs.Ytcnpoldcebdhjaa
open Go.ChangeShapes Go.WideShapes Go.ChangeAt Go.RowKit
set_option maxRecDepth 100000
set_option linter.unusedSimpArgs false
set_option linter.unusedVariables false
theorem below_dn (w : World) (n : Nat) : Below w.heap.size w (w.drewN n) := ⟨rfl, rfl, rfl, Nat.le_refl _, fun _ _ => rfl⟩
theorem apart_set : ∀ (xs ys : List Fe) (f f' : Fr) (L L' : Value), (L'.ownBlock = none ∨ L'.ownBlock = L.ownBlock) → (xs ++ ⟨f, L⟩ :: ys).Pairwise noTwo → (xs ++ ⟨f', L'⟩ :: ys).Pairwise noTwo := by
  intro xs ys f f' L L' hL h
  rw [List.pairwise_append] at h ⊢
  obtain ⟨h1, h2, h3⟩ := h
  rw [List.pairwise_cons] at h2 ⊢
  refine ⟨h1, ⟨fun e he => ?_, h2.2⟩, fun a ha b hb => ?_⟩
  · have := h2.1 e he
    simp only [noTwo] at this ⊢
    rcases hL with h | h
    · exact .inl h
    · rw [h]; exact this
  · rcases List.mem_cons.1 hb with rfl | hb
    · have := h3 a ha ⟨f, L⟩ (by simp)
      simp only [noTwo] at this ⊢
      rcases hL with h | h
      · rw [h]
        cases ha' : a.L.ownBlock with
        | none => exact .inl rfl
        | some q => exact .inr (by simp)
      · rw [h]; exact this
    · exact h3 a ha b (List.mem_cons_of_mem _ hb)
/-- A cell of an activation is stored. -/
theorem FRow.set {B g n cap i : Nat} {w : World} {xs ys : List Fe} {f f' : Fr} {L L' u : Value} {frs : List Fr} (h : FRow B w (.slice (some ⟨g, 0, none⟩) n cap) (xs ++ ⟨f, L⟩ :: ys) frs) (hi : i < 5) (hc : Fe.cells ⟨f', L'⟩ = (Fe.cells ⟨f, L⟩).set i u)
    (hL : IOwn B w L' f'.df.reverse) (ha : L'.ownBlock = none ∨ L'.ownBlock = L.ownBlock) :
    FRow B (w.setCell ⟨g, xs.length * 5 + i, none⟩ u) (.slice (some ⟨g, 0, none⟩) n cap) (xs ++ ⟨f', L'⟩ :: ys) (xs.map (·.x) ++ f' :: ys.map (·.x)) := by
  have hk : (xs ++ ⟨f, L⟩ :: ys)[xs.length]? = some ⟨f, L⟩ := by rw [List.getElem?_append_right (Nat.le_refl _)]; simp
  obtain ⟨g', cap', hv, -, -, -, -, cur, hcur⟩ := own_at Fe.len h.row hk
  cases hv
  have hoth : ∀ b, b ≠ g → b < w.heap.size → (w.setCell ⟨g, xs.length * 5 + i, none⟩ u).heap[b]? = w.heap[b]? := fun b hb _ => heap_setCell_other _ _ _ _ (by simpa using hb)
  refine ⟨?_, fun e he => ?_, apart_set _ _ _ _ _ _ ha h.apart, by simp⟩
  · have := own_set Fe.len h.row hk hi hc
    simpa using this
  · rcases List.mem_append.1 he with h1 | h1
    · exact row_far (h.own e (List.mem_append_left _ h1)) hcur (by decide) hoth
    · rcases List.mem_cons.1 h1 with rfl | h1
      · exact row_far hL hcur (by decide) hoth
      · exact row_far (h.own e (List.mem_append_right _ (List.mem_cons_of_mem _ h1))) hcur (by decide) hoth
theorem Wk.frset {B p g n cap i : Nat} {w : World} {P T : Value} {xs ys : List Fe} {f f' : Fr} {L L' u : Value} {st st' : St} {td : List Tl} (h : Wk B p w (.slice (some ⟨g, 0, none⟩) n cap) P T (xs ++ ⟨f, L⟩ :: ys) st td) (hi : i < 5) (hc : Fe.cells ⟨f', L'⟩ = (Fe.cells ⟨f, L⟩).set i u)
    (hL : IOwn B w L' f'.df.reverse) (ha : L'.ownBlock = none ∨ L'.ownBlock = L.ownBlock) (hs : st' = { st with fr := (xs.map (·.x) ++ f' :: ys.map (·.x)).reverse }) :
    Wk B p (w.setCell ⟨g, xs.length * 5 + i, none⟩ u) (.slice (some ⟨g, 0, none⟩) n cap) P T (xs ++ ⟨f', L'⟩ :: ys) st' td ∧ Below B w (w.setCell ⟨g, xs.length * 5 + i, none⟩ u) := by
  subst hs
  have hk : (xs ++ ⟨f, L⟩ :: ys)[xs.length]? = some ⟨f, L⟩ := by rw [List.getElem?_append_right (Nat.le_refl _)]; simp
  obtain ⟨g', cap', hv, hB, -, -, -, cur, hcur⟩ := own_at Fe.len h.fr.row hk
  cases hv
  have hoth : ∀ b, b ≠ g → b < w.heap.size → (w.setCell ⟨g, xs.length * 5 + i, none⟩ u).heap[b]? = w.heap[b]? := fun b hb _ => heap_setCell_other _ _ _ _ (by simpa using hb)
  refine ⟨⟨?_, h.low, ?_, row_far h.ps hcur (by decide) hoth, row_far h.td hcur (by decide) hoth⟩, (Below.refl _ _).setCell hB u⟩
  · rw [hoth p (fun e => by subst e; have := h.box; rw [hcur] at this; simp at this) h.lt]
    exact h.box
  · rw [List.reverse_reverse]
    exact h.fr.set hi hc hL ha
/-- The activation that runs. -/
theorem Wk.top {B p : Nat} {w : World} {F P T : Value} {fes : List Fe} {st : St} {td : List Tl} {f : Fr} {r : List Fr} (h : Wk B p w F P T fes st td) (hf : st.fr = f :: r) :
    ∃ g cap xs L, F = .slice (some ⟨g, 0, none⟩) (r.length + 1) cap ∧ fes = xs ++ [⟨f, L⟩] ∧ xs.length = r.length ∧ xs.map (·.x) = r.reverse ∧ B ≤ g ∧ g < w.heap.size ∧
      (w.cell? ⟨g, r.length * 5, none⟩ = some (.int .i64 f.id) ∧ w.cell? ⟨g, r.length * 5 + 1, none⟩ = some (.int .i64 f.mark) ∧ w.cell? ⟨g, r.length * 5 + 2, none⟩ = some (.int .i64 f.pan) ∧ w.cell? ⟨g, r.length * 5 + 3, none⟩ = some (.int .i64 f.ph) ∧ w.cell? ⟨g, r.length * 5 + 4, none⟩ = some L) ∧ (∀ j, w.frozen? ⟨g, j, none⟩ = false) ∧ IOwn B w L f.df.reverse := by
  have hx := h.fr.xs
  rw [hf, List.reverse_cons] at hx
  obtain ⟨xs, ys, rfl, h1, h2⟩ := List.map_eq_append_iff.1 hx
  obtain ⟨e, es, rfl, h3, h4⟩ := List.map_eq_cons_iff.1 h2
  have h4' : es = [] := List.map_eq_nil_iff.1 h4
  subst h4'
  obtain ⟨x, L⟩ := e
  simp only at h3
  subst h3
  have hl : xs.length = r.length := by have := congrArg List.length h1; simpa using this
  have hk : (xs ++ [⟨x, L⟩] : List Fe)[r.length]? = some ⟨x, L⟩ := by rw [← hl, List.getElem?_append_right (Nat.le_refl _)]; simp
  obtain ⟨g, cap, hv, hB, hg, hc, hz, -⟩ := own_at Fe.len h.fr.row hk
  refine ⟨g, cap, xs, L, ?_, rfl, hl, h1, hB, hg, ⟨?_, ?_, ?_, ?_, ?_⟩, hz, h.fr.own ⟨x, L⟩ (by simp)⟩
  · rw [hv]; simp [hl]
  · have := hc 0 _ rfl; simpa using this
  · exact hc 1 _ rfl
  · exact hc 2 _ rfl
  · exact hc 3 _ rfl
  · exact hc 4 _ rfl
/-- The panic that began last. -/
theorem Wk.last {B p : Nat} {w : World} {F P T : Value} {fes : List Fe} {st : St} {td : List Tl} {q : Pn} {r : List Pn} (h : Wk B p w F P T fes st td) (hf : st.ps = q :: r) :
    ∃ g cap, P = .slice (some ⟨g, 0, none⟩) (r.length + 1) cap ∧ B ≤ g ∧ g < w.heap.size ∧
      (w.cell? ⟨g, r.length * 7, none⟩ = some (.int .i64 q.ser) ∧ w.cell? ⟨g, r.length * 7 + 1, none⟩ = some (.int .i64 q.v.k) ∧ w.cell? ⟨g, r.length * 7 + 2, none⟩ = some (.int .i64 q.v.n) ∧ w.cell? ⟨g, r.length * 7 + 3, none⟩ = some (.string q.v.s) ∧ w.cell? ⟨g, r.length * 7 + 4, none⟩ = some (.slice none 0 0) ∧ w.cell? ⟨g, r.length * 7 + 5, none⟩ = some (.bool q.rc) ∧ w.cell? ⟨g, r.length * 7 + 6, none⟩ = some (.bool q.ab)) ∧ (∀ j, w.frozen? ⟨g, j, none⟩ = false) := by
  have hk : st.ps.reverse[r.length]? = some q := by rw [hf, List.reverse_cons, List.getElem?_append_right (by simp)]; simp
  obtain ⟨g, cap, hv, hB, hg, hc, hz, -⟩ := own_at Pn.len h.ps hk
  refine ⟨g, cap, ?_, hB, hg, ⟨?_, ?_, ?_, ?_, ?_, ?_, ?_⟩, hz⟩
  · rw [hv, List.length_reverse, hf]; rfl
  · have := hc 0 _ rfl; simpa using this
  · exact hc 1 _ rfl
  · exact hc 2 _ rfl
  · exact hc 3 _ rfl
  · exact hc 4 _ rfl
  · exact hc 5 _ rfl
  · exact hc 6 _ rfl
/-- A cell of a panic is stored. -/
theorem Wk.pnset {B p g n cap i k : Nat} {w : World} {F T u : Value} {fes : List Fe} {st st' : St} {td : List Tl} {q q' : Pn} (h : Wk B p w F (.slice (some ⟨g, 0, none⟩) n cap) T fes st td) (hk : st.ps.reverse[k]? = some q) (hi : i < 7) (hc : q'.cells = q.cells.set i u) (hs : st' = { st with ps := (st.ps.reverse.set k q').reverse }) :
    Wk B p (w.setCell ⟨g, k * 7 + i, none⟩ u) F (.slice (some ⟨g, 0, none⟩) n cap) T fes st' td ∧ Below B w (w.setCell ⟨g, k * 7 + i, none⟩ u) := by
  subst hs
  obtain ⟨g', cap', hv, hB, -, -, -, cur, hcur⟩ := own_at Pn.len h.ps hk
  cases hv
  have hoth : ∀ b, b ≠ g → b < w.heap.size → (w.setCell ⟨g, k * 7 + i, none⟩ u).heap[b]? = w.heap[b]? := fun b hb _ => heap_setCell_other _ _ _ _ (by simpa using hb)
  refine ⟨⟨?_, h.low, ⟨row_far h.fr.row hcur (by decide) hoth, fun e he => row_far (h.fr.own e he) hcur (by decide) hoth, h.fr.apart, h.fr.xs⟩, ?_, row_far h.td hcur (by decide) hoth⟩, (Below.refl _ _).setCell hB u⟩
  · rw [hoth p (fun e => by subst e; have := h.box; rw [hcur] at this; simp at this) h.lt]
    exact h.box
  · have := own_set Pn.len h.ps hk hi hc
    simp only [List.reverse_reverse, List.length_set]
    exact this
section app
variable {α : Type} {s : Nat} {c : α → List Value}
/-- Append of one: at an operation. -/
theorem gapp {o : Oper} {a : Act} {K : Act → World → Prop} {Q : Exit → Act → World → Prop} {u : World} {B e t bytes : Nat} {z : Value} {v v2 : Value} {l : List α} {x : α} (sl y : Operand) (hs : ∀ x, (c x).length = s)
    (hinf : (Try.prog.info? e).map (fun i => (i.zero, i.size, i.bytes)) = some (some z, s, bytes)) (hzs : z.cells.size = s) (hs0 : 0 < s) (ht : Try.prog.underlying t = some (.slice e))
    (ho : o.op = .call { callee := .builtin .append, args := #[sl, y], argTypes := #[t, t] }) (hv : a.eval sl = v) (hx : a.eval y = v2) (h : u.ownsRow B e s v l.length (rc c l)) (h2 : u.ownsRow B e s v2 1 (c x)) (h1 : ∀ u ∈ c x, u.oneCell' = true) (hB : B ≤ u.heap.size) (hz : (l.length + 1) * bytes ≤ 140737488355328) (hb8 : 8 ≤ bytes)
    (k : ∀ v' u', u'.ownsRow B e s v' (l ++ [x]).length (rc c (l ++ [x])) → u.grownBy u' v.ownBlock → Below B u u' → K (a.put o.dst v') u') : o.wp Try.prog a u K Q := by
  obtain ⟨i0, hi, hz0, hz1, hz2⟩ := info_parts hinf
  rcases h2.2 with ⟨h0, h1⟩ | ⟨g, cap, cur, rfl, hg1, hg2, hcap, hmax, hcs, htk⟩
  · simp at h1
  · refine wp_append_own u sl y t ho B e i0 _ s bytes ht hi hz0 hz1 hz2 hzs hs0 v l.length (rc c l) hv h ⟨g, 0, none⟩ 1 cap (c x) hx (by rw [hs, Nat.one_mul]) (fun j w hj => ?_) h1 ?_ hz hB ?_
    · have hj3 := (List.getElem?_eq_some_iff.1 hj).1
      rw [add_plain, Nat.zero_add, h2.cellAt j (by rw [hs] at hj3; omega)]
      exact hj
    · have : (l.length + 1) * 8 ≤ (l.length + 1) * bytes := Nat.mul_le_mul_left _ hb8
      unfold maxLen; omega
    · intro v' u' hown hgrow hnil
      refine k v' u' ?_ hgrow ((Below.refl _ _).grown hgrow hB (fun q hq => (h.lt q hq).1))
      rw [List.length_append, List.length_singleton, rc_app, rc_one]
      exact hown
/-- The same, in a list of operations. -/
theorem gappL {o : Oper} {ops : Array Oper} {rest : List Oper} {a : Act} {Q : Exit → Act → World → Prop} {u : World} {B e t bytes : Nat} {z : Value} {v v2 : Value} {l : List α} {x : α} (hgd : o.guard = none) (sl y : Operand) (hs : ∀ x, (c x).length = s)
    (hinf : (Try.prog.info? e).map (fun i => (i.zero, i.size, i.bytes)) = some (some z, s, bytes)) (hzs : z.cells.size = s) (hs0 : 0 < s) (ht : Try.prog.underlying t = some (.slice e))
    (ho : o.op = .call { callee := .builtin .append, args := #[sl, y], argTypes := #[t, t] }) (hv : a.eval sl = v) (hx : a.eval y = v2) (h : u.ownsRow B e s v l.length (rc c l)) (h2 : u.ownsRow B e s v2 1 (c x)) (h1 : ∀ u ∈ c x, u.oneCell' = true) (hB : B ≤ u.heap.size) (hz : (l.length + 1) * bytes ≤ 140737488355328) (hb8 : 8 ≤ bytes)
    (k : ∀ v' u', u'.ownsRow B e s v' (l ++ [x]).length (rc c (l ++ [x])) → u.grownBy u' v.ownBlock → Below B u u' → wpList Try.prog ops Q rest (a.put o.dst v') u') : wpList Try.prog ops Q (o :: rest) a u :=
  wpList_plain hgd fun _ hK => gapp sl y hs hinf hzs hs0 ht ho hv hx h h2 h1 hB hz hb8 fun v' u' h3 h4 h5 => hK _ _ (k v' u' h3 h4 h5)
end app
theorem Fe.one {e : Fe} {lo : Option Addr} {ln lc : Nat} (h : e.L = .slice lo ln lc) : ∀ u ∈ e.cells, u.oneCell' = true := by
  intro u hu
  simp [Fe.cells, h] at hu
  rcases hu with rfl | rfl | rfl | rfl | rfl <;> rfl
theorem Pn.one (e : Pn) : ∀ u ∈ e.cells, u.oneCell' = true := by
  intro u hu
  simp [Pn.cells] at hu
  rcases hu with rfl | rfl | rfl | rfl | rfl | rfl | rfl <;> rfl
theorem Tl.one (e : Tl) : ∀ u ∈ e.cells, u.oneCell' = true := by
  intro u hu
  simp [Tl.cells] at hu
  rcases hu with rfl | rfl | rfl | rfl | rfl | rfl | rfl <;> rfl
/-- A new activation's place. -/
theorem FRow.grownF {B : Nat} {w w' : World} {F F' : Value} {fes : List Fe} {frs : List Fr} {e : Fe} (h : FRow B w F fes frs) (hg : w.grownBy w' F.ownBlock) (hr : w'.ownsRow B 53 5 F' (fes ++ [e]).length (rc Fe.cells (fes ++ [e]))) (hd : e.x.df = []) (hL : e.L = .slice none 0 0) : FRow B w' F' (fes ++ [e]) (frs ++ [e.x]) := by
  have ht := row_typed h.row
  refine ⟨hr, fun a ha => ?_, ?_, by rw [List.map_append, h.xs]; rfl⟩
  · rcases List.mem_append.1 ha with h1 | h1
    · exact row_grown (h.own a h1) hg (fun g hg => by obtain ⟨cs, h2⟩ := ht g hg; exact ⟨_, _, h2⟩) (by decide)
    · simp at h1; subst h1
      rw [hd, hL]; exact IOwn.nil _ _
  · rw [List.pairwise_append]
    refine ⟨h.apart, List.pairwise_singleton _ _, fun a ha b hb => ?_⟩
    simp at hb; subst hb
    have hb0 : b.L.ownBlock = none := by rw [hL]; rfl
    unfold noTwo
    rw [hb0]
    cases a.L.ownBlock with
    | none => exact .inl rfl
    | some q => exact .inr (by simp)
end Go.Proofs.Ytcnpoldcebdhjaa
