/- A copy of a state. -/
import Derived.Test.YtcnpoldcebdhjaaQw13
namespace Go.Proofs.Ytcnpoldcebdhjaa
open Go.ChangeShapes Go.WideShapes Go.ChangeAt Go.RowKit
set_option maxRecDepth 100000
set_option linter.unusedSimpArgs false
set_option linter.unusedVariables false
section
variable {α : Type} {s : Nat} {c : α → List Value}
/-- A copy of a list: append to nothing. -/
theorem gcopy {w : World} {v : Value} {l : List α} {ops : Array Oper} {rest : List Oper} {o : Oper} {a : Act} {Q : Exit → Act → World → Prop} {e t bytes : Nat} {z : Value} (hgd : o.guard = none) (sl x : Operand) (hs : ∀ x, (c x).length = s)
    (hinf : (Try.prog.info? e).map (fun i => (i.zero, i.size, i.bytes)) = some (some z, s, bytes)) (hzs : z.cells.size = s) (hs0 : 0 < s) (ht : Try.prog.underlying t = some (.slice e))
    (ho : o.op = .call { callee := .builtin .append, args := #[sl, x], argTypes := #[t, t] }) (hsl : a.eval sl = .slice none 0 0) (hx : a.eval x = v)
    (hC : RLies s c w v l) (h1 : ∀ x ∈ l, ∀ u ∈ c x, u.oneCell' = true) (hN : l.length * bytes ≤ 140737488355328) (hb8 : 8 ≤ bytes) (B : Nat) (hB : B ≤ w.heap.size)
    (h : ∀ v' w', w'.ownsRow B e s v' l.length (rc c l) → Below w.heap.size w w' → wpList Try.prog ops Q rest (a.put o.dst v') w') : wpList Try.prog ops Q (o :: rest) a w := by
  obtain ⟨i0, hi, hz0, hz1, hz2⟩ := info_parts hinf
  rcases hC with ⟨rfl, rfl⟩ | ⟨ad, cap, rfl, h2, h2', h3, h4⟩
  · refine wpList_append_own_none hgd sl x t ho B e i0 s ht hi (.slice none 0 0) 0 [] hsl (World.ownsRow_nil _ _ _ _) hx (h _ _ (World.ownsRow_nil _ _ _ _) (Below.refl _ _))
  · refine wpList_append_own _ hgd sl x t ho B e i0 _ s bytes ht hi hz0 hz1 hz2 hzs hs0 (.slice none 0 0) 0 [] hsl (World.ownsRow_nil _ _ _ _) ad l.length cap (rc c l) hx (rc_len hs l) (fun j u hu => ?_) (fun u hu => ?_) ?_ (by rw [Nat.zero_add]; exact hN) hB ?_
    · have hj := (List.getElem?_eq_some_iff.1 hu).1
      rw [rc_len hs] at hj
      have hm := Nat.mod_lt j hs0
      have hd : j = j / s * s + j % s := by rw [Nat.mul_comm]; exact (Nat.div_add_mod j s).symm
      have hdl : j / s < l.length := by rw [Nat.div_lt_iff_lt_mul hs0]; exact hj
      rw [hd] at hu ⊢
      rw [rc_get hs l _ _ _ hm (List.getElem?_eq_getElem hdl)] at hu
      exact h4 _ _ (List.getElem?_eq_getElem hdl) _ _ hu
    · simp only [rc, List.mem_flatMap] at hu
      obtain ⟨y, hy, hyu⟩ := hu
      exact h1 y hy u hyu
    · have := Nat.mul_le_mul_left l.length hb8
      unfold maxLen; omega
    · intro v' w' hown hgrow _
      rw [Nat.zero_add, List.nil_append] at hown
      exact h v' w' hown ((Below.refl _ _).grown hgrow (Nat.le_refl _) (fun q hq => by cases hq))
end
theorem icopy {w : World} {v : Value} {l : List Int} {ops : Array Oper} {rest : List Oper} {o : Oper} {a : Act} {Q : Exit → Act → World → Prop} (hgd : o.guard = none) (s x : Operand)
    (ho : o.op = .call { callee := .builtin .append, args := #[s, x], argTypes := #[30, 30] }) (hs : a.eval s = .slice none 0 0) (hx : a.eval x = v)
    (hC : ILies w v l) (hN : l.length * 8 ≤ 140737488355328) (B : Nat) (hB : B ≤ w.heap.size)
    (h : ∀ v' w', IOwn B w' v' l → (v'.ownBlock = none ∨ ∃ q, v'.ownBlock = some q ∧ w.heap.size ≤ q) → Below w.heap.size w w' → wpList Try.prog ops Q rest (a.put o.dst v') w') : wpList Try.prog ops Q (o :: rest) a w := by
  obtain ⟨i0, hi, hz0, hz1, hz2⟩ := info_parts Try.infoIntP
  rcases hC with ⟨rfl, rfl⟩ | ⟨ad, cap, rfl, h2, h2', h3, h4⟩
  · refine wpList_append_own_none hgd s x 30 ho B 3 i0 1 Try.underlying30 hi (.slice none 0 0) 0 [] hs (World.ownsRow_nil _ _ _ _) hx (h _ _ (World.ownsRow_nil _ _ _ _) (.inl rfl) (Below.refl _ _))
  · refine wpList_append_own _ hgd s x 30 ho w.heap.size 3 i0 _ 1 8 Try.underlying30 hi hz0 hz1 hz2 rfl (by decide) (.slice none 0 0) 0 [] hs (World.ownsRow_nil _ _ _ _) ad l.length cap (l.map (Value.int .i64)) hx (by simp) (fun j u hu => ?_) (fun u hu => ?_) ?_ ?_ (Nat.le_refl _) ?_
    · rw [List.getElem?_map] at hu
      cases hk : l[j]? with
      | none => rw [hk] at hu; cases hu
      | some i => rw [hk] at hu; cases hu; exact h4 j i hk
    · obtain ⟨i, _, rfl⟩ := List.mem_map.1 hu; rfl
    · unfold maxLen; omega
    · omega
    · intro v' w' hown hgrow _
      rw [Nat.zero_add, List.nil_append] at hown
      refine h v' w' (row_up hown hB) ?_ ((Below.refl _ _).grown hgrow (Nat.le_refl _) (fun q hq => by cases hq))
      cases hb : v'.ownBlock with
      | none => exact .inl rfl
      | some q => exact .inr ⟨q, rfl, (hown.lt q hb).1⟩
/-- A state that lies somewhere. -/
structure SLies (w : World) (F P : Value) (fes : List Fe) (st : St) : Prop where
  fr : RLies 5 Fe.cells w F fes
  own : ∀ e ∈ fes, ILies w e.L e.x.df.reverse
  xs : fes.map (·.x) = st.fr.reverse
  ps : RLies 7 Pn.cells w P st.ps.reverse
def St.val (st : St) (F P : Value) : Value := .agg #[F, P, .int .i64 st.next, .int .i64 st.ser, .int .i64 st.fin, .int .i64 st.stat]
theorem SLies.below {w w' : World} {F P : Value} {fes : List Fe} {st : St} (h : SLies w F P fes st) (hb : Below w.heap.size w w') : SLies w' F P fes st :=
  ⟨h.fr.below hb (Nat.le_refl _), fun e he => (h.own e he).below hb (Nat.le_refl _), h.xs, h.ps.below hb (Nat.le_refl _)⟩
/-- While activations are copied: the first k have lists of their own. -/
structure Mid (B k : Nat) (w : World) (F : Value) (es fes : List Fe) : Prop where
  row : w.ownsRow B 53 5 F es.length (rc Fe.cells es)
  len : es.length = fes.length
  xs : es.map (·.x) = fes.map (·.x)
  done : ∀ e ∈ es.take k, IOwn B w e.L e.x.df.reverse
  apart : (es.take k).Pairwise noTwo
  rest : es.drop k = fes.drop k
theorem Mid.below {B k : Nat} {w w' : World} {F : Value} {es fes : List Fe} (h : Mid B k w F es fes) (hb : Below w.heap.size w w') : Mid B k w' F es fes :=
  ⟨row_below h.row hb, h.len, h.xs, fun e he => row_below (h.done e he) hb, h.apart, h.rest⟩
theorem Mid.step {B k g n cap : Nat} {w : World} {es fes : List Fe} {e : Fe} {L' : Value} (h : Mid B k w (.slice (some ⟨g, 0, none⟩) n cap) es fes) (hk : es[k]? = some e) (hL : IOwn B w L' e.x.df.reverse) (ha : ∀ a ∈ es.take k, noTwo a ⟨e.x, L'⟩) :
    Mid B (k + 1) (w.setCell ⟨g, k * 5 + 4, none⟩ L') (.slice (some ⟨g, 0, none⟩) n cap) (es.set k ⟨e.x, L'⟩) fes := by
  have hkl := (List.getElem?_eq_some_iff.1 hk).1
  obtain ⟨g', cap', hv, hB, -, -, -, cur, hcur⟩ := own_at Fe.len h.row hk
  have hgg : g = g' := by simp only [Value.slice.injEq, Option.some.injEq, Addr.mk.injEq] at hv; exact hv.1.1
  subst hgg
  have hoth : ∀ b, b ≠ g → b < w.heap.size → (w.setCell ⟨g, k * 5 + 4, none⟩ L').heap[b]? = w.heap[b]? := fun b hb _ => heap_setCell_other _ _ _ _ (by simpa using hb)
  have ht : (es.set k ⟨e.x, L'⟩).take (k + 1) = es.take k ++ [⟨e.x, L'⟩] := by
    rw [List.take_add_one, List.getElem?_set_self hkl, List.take_set_of_le (Nat.le_refl _)]
    rfl
  refine ⟨?_, by simp [h.len], ?_, fun a ha' => ?_, ?_, ?_⟩
  · have := own_set Fe.len h.row (u := L') hk (by decide) (show Fe.cells ⟨e.x, L'⟩ = (Fe.cells e).set 4 L' from rfl)
    rw [List.length_set]
    exact this
  · rw [List.map_set, ← h.xs]
    apply List.ext_getElem?
    intro j
    by_cases hj : j = k
    · subst hj
      rw [List.getElem?_set_self (by simpa using hkl), List.getElem?_map, hk]; rfl
    · rw [List.getElem?_set_ne (Ne.symm hj)]
  · rw [ht] at ha'
    rcases List.mem_append.1 ha' with h1 | h1
    · exact row_far (h.done a h1) hcur (by decide) hoth
    · simp at h1; subst h1
      exact row_far hL hcur (by decide) hoth
  · rw [ht, List.pairwise_append]
    refine ⟨h.apart, List.pairwise_singleton _ _, fun a ha' b hb => ?_⟩
    simp at hb; subst hb
    exact ha a ha'
  · rw [List.drop_set_of_lt (by omega), ← List.drop_drop, h.rest, List.drop_drop]
theorem Mid.all {B : Nat} {w : World} {F : Value} {es fes : List Fe} {frs : List Fr} (h : Mid B fes.length w F es fes) (hx : fes.map (·.x) = frs) : FRow B w F es frs := by
  have ht : es.take fes.length = es := by rw [← h.len, List.take_length]
  have h1 := h.done
  have h2 := h.apart
  rw [ht] at h1 h2
  exact ⟨h.row, h1, h2, by rw [h.xs, hx]⟩
theorem Mid.start {B : Nat} {w : World} {F : Value} {fes : List Fe} (h : w.ownsRow B 53 5 F fes.length (rc Fe.cells fes)) : Mid B 0 w F fes fes := ⟨h, rfl, rfl, (fun e he => by simp at he), by simp, rfl⟩
theorem pnsame {B g n cap k i : Nat} {w : World} {l : List Pn} {q : Pn} {u : Value} (h : w.ownsRow B 55 7 (.slice (some ⟨g, 0, none⟩) n cap) l.length (rc Pn.cells l)) (hk : l[k]? = some q) (hi : i < 7) (hc : q.cells = q.cells.set i u) :
    (w.setCell ⟨g, k * 7 + i, none⟩ u).ownsRow B 55 7 (.slice (some ⟨g, 0, none⟩) n cap) l.length (rc Pn.cells l) := by
  have h2 := own_set Pn.len h hk hi hc
  have e : l.set k q = l := by
    apply List.ext_getElem?
    intro j
    by_cases hj : j = k
    · subst hj; rw [List.getElem?_set_self (List.getElem?_eq_some_iff.1 hk).1, hk]
    · rw [List.getElem?_set_ne (Ne.symm hj)]
  rwa [e] at h2
/-- Is a block of another number. -/
theorem frow_set {B b i : Nat} {w : World} {F : Value} {es : List Fe} {frs : List Fr} {v : Value} {cs : Array Value} {t : TypeId} (h : FRow B w F es frs) (hb : w.heap[b]? = some (.cells cs t (0, 0))) (h1 : t ≠ 53) (h2 : t ≠ 3) : FRow B (w.setCell ⟨b, i, none⟩ v) F es frs := by
  have hoth : ∀ x, x ≠ b → x < w.heap.size → (w.setCell ⟨b, i, none⟩ v).heap[x]? = w.heap[x]? := fun x hx _ => heap_setCell_other _ _ _ _ (by simpa using hx)
  exact ⟨row_far h.row hb (Ne.symm h1) hoth, fun e he => row_far (h.own e he) hb (Ne.symm h2) hoth, h.apart, h.xs⟩
theorem mid_set {B b i k : Nat} {w : World} {F : Value} {es fes : List Fe} {v : Value} {cs : Array Value} {t : TypeId} (h : Mid B k w F es fes) (hb : w.heap[b]? = some (.cells cs t (0, 0))) (h1 : t ≠ 53) (h2 : t ≠ 3) : Mid B k (w.setCell ⟨b, i, none⟩ v) F es fes := by
  have hoth : ∀ x, x ≠ b → x < w.heap.size → (w.setCell ⟨b, i, none⟩ v).heap[x]? = w.heap[x]? := fun x hx _ => heap_setCell_other _ _ _ _ (by simpa using hx)
  exact ⟨row_far h.row hb (Ne.symm h1) hoth, h.len, h.xs, fun e he => row_far (h.done e he) hb (Ne.symm h2) hoth, h.apart, h.rest⟩
/-- Where a copy stands: its two boxes, its activations. -/
structure St0 (n : Nat) (fo : Option Addr) (fc : Nat) (P : Value) (st : St) (u w : World) (es fes : List Fe) (k : Nat) : Prop where
  bx : u.heap[w.heap.size]? = some (.cells #[.slice fo n fc, P, .int .i64 st.next, .int .i64 st.ser, .int .i64 st.fin, .int .i64 st.stat] 26 (0, 0))
  bz : u.heap[w.heap.size + 1]? = some (.cells #[.slice none 0 0, .slice none 0 0, .int .i64 0, .int .i64 0, .int .i64 0, .int .i64 0] 26 (0, 0))
  up : Below w.heap.size w u
  hz : w.heap.size + 1 < u.heap.size
  mid : Mid (w.heap.size + 2) k u (.slice fo n fc) es fes
theorem st0_start {n : Nat} {fo : Option Addr} {fc : Nat} {F0 P : Value} {st : St} {w w1 : World} {fes : List Fe} (hown : w1.ownsRow (w.heap.size + 2) 53 5 (.slice fo n fc) fes.length (rc Fe.cells fes))
    (g1 : w1.heap[w.heap.size]? = some (.cells #[F0, P, .int .i64 st.next, .int .i64 st.ser, .int .i64 st.fin, .int .i64 st.stat] 26 (0, 0)))
    (g2 : w1.heap[w.heap.size + 1]? = some (.cells #[.slice none 0 0, .slice none 0 0, .int .i64 0, .int .i64 0, .int .i64 0, .int .i64 0] 26 (0, 0)))
    (hb : Below w.heap.size w w1) (hz : w.heap.size + 1 < w1.heap.size) : St0 n fo fc P st (w1.setCell ⟨w.heap.size, 0, none⟩ (.slice fo n fc)) w fes fes 0 := by
  refine ⟨?_, ?_, hb.setCell (Nat.le_refl _) _, by simpa [World.setCell] using hz, mid_set (Mid.start hown) g1 (by decide) (by decide)⟩
  · rw [heap_setCell_same w1 w.heap.size 0 _ 26 _ g1]; rfl
  · rw [heap_setCell_other _ _ _ _ (by simp)]; exact g2
theorem St0.below {n : Nat} {fo : Option Addr} {fc : Nat} {P : Value} {st : St} {u u' w : World} {es fes : List Fe} {k : Nat} (h : St0 n fo fc P st u w es fes k) (hb : Below u.heap.size u u') : St0 n fo fc P st u' w es fes k :=
  ⟨by rw [hb.block _ (by have := h.hz; omega)]; exact h.bx, by rw [hb.block _ h.hz]; exact h.bz, h.up.trans (hb.mono h.up.size), Nat.lt_of_lt_of_le h.hz hb.size, h.mid.below hb⟩
theorem St0.step {n g k : Nat} {fc : Nat} {P L' : Value} {st : St} {u w : World} {es fes : List Fe} {e : Fe} (h : St0 n (some ⟨g, 0, none⟩) fc P st u w es fes k) (hk : es[k]? = some e) (hL : IOwn (w.heap.size + 2) u L' e.x.df.reverse) (ha : ∀ a ∈ es.take k, noTwo a ⟨e.x, L'⟩) :
    St0 n (some ⟨g, 0, none⟩) fc P st (u.setCell ⟨g, k * 5 + 4, none⟩ L') w (es.set k ⟨e.x, L'⟩) fes (k + 1) := by
  obtain ⟨g', cap', hv, hB, -, -, -, cur, hcur⟩ := own_at Fe.len h.mid.row hk
  have hgg : g = g' := by simp only [Value.slice.injEq, Option.some.injEq, Addr.mk.injEq] at hv; exact hv.1.1
  subst hgg
  refine ⟨?_, ?_, h.up.setCell (by show w.heap.size ≤ g; omega) _, by have := h.hz; simpa [World.setCell] using this, h.mid.step hk hL ha⟩
  · rw [heap_setCell_other _ _ _ _ (by simp; omega)]; exact h.bx
  · rw [heap_setCell_other _ _ _ _ (by simp; omega)]; exact h.bz
/-- Where a copy stands behind its activations. -/
structure St1 (F P : Value) (st : St) (u w : World) (es : List Fe) : Prop where
  bx : u.heap[w.heap.size]? = some (.cells #[F, P, .int .i64 st.next, .int .i64 st.ser, .int .i64 st.fin, .int .i64 st.stat] 26 (0, 0))
  bz : u.heap[w.heap.size + 1]? = some (.cells #[.slice none 0 0, .slice none 0 0, .int .i64 0, .int .i64 0, .int .i64 0, .int .i64 0] 26 (0, 0))
  up : Below w.heap.size w u
  hz : w.heap.size + 1 < u.heap.size
  fr : FRow (w.heap.size + 2) u F es st.fr.reverse
  ps : u.ownsRow (w.heap.size + 2) 55 7 P st.ps.reverse.length (rc Pn.cells st.ps.reverse)
theorem St1.below {F P : Value} {st : St} {u u' w : World} {es : List Fe} (h : St1 F P st u w es) (hb : Below u.heap.size u u') : St1 F P st u' w es :=
  ⟨by rw [hb.block _ (by have := h.hz; omega)]; exact h.bx, by rw [hb.block _ h.hz]; exact h.bz, h.up.trans (hb.mono h.up.size), Nat.lt_of_lt_of_le h.hz hb.size, h.fr.below hb, row_below h.ps hb⟩
theorem St1.start {n : Nat} {fo : Option Addr} {fc : Nat} {P P' : Value} {st : St} {u u' w : World} {es fes : List Fe} (h : St0 n fo fc P st u w es fes fes.length) (hx : fes.map (·.x) = st.fr.reverse) (hb : Below u.heap.size u u') (hp : u'.ownsRow (w.heap.size + 2) 55 7 P' st.ps.reverse.length (rc Pn.cells st.ps.reverse)) : St1 (.slice fo n fc) P' st (u'.setCell ⟨w.heap.size, 1, none⟩ P') w es := by
  have h2 := h.below hb
  have hoth : ∀ b, b ≠ w.heap.size → b < u'.heap.size → (u'.setCell ⟨w.heap.size, 1, none⟩ P').heap[b]? = u'.heap[b]? := fun b hb _ => heap_setCell_other _ _ _ _ (by simpa using hb)
  refine ⟨?_, ?_, h2.up.setCell (Nat.le_refl _) _, by have := h2.hz; simpa [World.setCell] using this, frow_set (h2.mid.all hx) h2.bx (by decide) (by decide), row_far hp h2.bx (by decide) hoth⟩
  · rw [heap_setCell_same u' w.heap.size 1 _ 26 _ h2.bx]; rfl
  · rw [heap_setCell_other _ _ _ _ (by simp)]; exact h2.bz
theorem St1.same {F : Value} {st : St} {u w : World} {es : List Fe} {g n cap k i : Nat} {q : Pn} {v : Value} (h : St1 F (.slice (some ⟨g, 0, none⟩) n cap) st u w es) (hk : st.ps.reverse[k]? = some q) (hi : i < 7) (hc : q.cells = q.cells.set i v) : St1 F (.slice (some ⟨g, 0, none⟩) n cap) st (u.setCell ⟨g, k * 7 + i, none⟩ v) w es := by
  obtain ⟨g', cap', hv, hB, -, -, -, cur, hcur⟩ := own_at Pn.len h.ps hk
  have hgg : g = g' := by simp only [Value.slice.injEq, Option.some.injEq, Addr.mk.injEq] at hv; exact hv.1.1
  subst hgg
  refine ⟨?_, ?_, h.up.setCell (by show w.heap.size ≤ g; omega) _, by have := h.hz; simpa [World.setCell] using this, frow_set h.fr hcur (by decide) (by decide), pnsame h.ps hk hi hc⟩
  · rw [heap_setCell_other _ _ _ _ (by simp; omega)]; exact h.bx
  · rw [heap_setCell_other _ _ _ _ (by simp; omega)]; exact h.bz
theorem six_set {w : World} {g : Nat} {c0 c1 c2 c3 c4 c5 : Value} {t : TypeId} (h : w.heap[g]? = some (.cells #[c0, c1, c2, c3, c4, c5] t (0, 0))) (v0 v1 v2 v3 v4 v5 : Value) :
    (((((((w.setCell ⟨g, 0, none⟩ v0).setCell ⟨g, 1, none⟩ v1).setCell ⟨g, 2, none⟩ v2).setCell ⟨g, 3, none⟩ v3).setCell ⟨g, 4, none⟩ v4).setCell ⟨g, 5, none⟩ v5).heap[g]? = some (.cells #[v0, v1, v2, v3, v4, v5] t (0, 0))) ∧ (∀ b, b ≠ g → ((((((w.setCell ⟨g, 0, none⟩ v0).setCell ⟨g, 1, none⟩ v1).setCell ⟨g, 2, none⟩ v2).setCell ⟨g, 3, none⟩ v3).setCell ⟨g, 4, none⟩ v4).setCell ⟨g, 5, none⟩ v5).heap[b]? = w.heap[b]?) ∧ (∀ B w0, Below B w0 w → B ≤ g → Below B w0 ((((((w.setCell ⟨g, 0, none⟩ v0).setCell ⟨g, 1, none⟩ v1).setCell ⟨g, 2, none⟩ v2).setCell ⟨g, 3, none⟩ v3).setCell ⟨g, 4, none⟩ v4).setCell ⟨g, 5, none⟩ v5)) := by
  refine ⟨?_, fun b hb => ?_, fun B w0 h1 h2 => (((((h1.setCell h2 _).setCell h2 _).setCell h2 _).setCell h2 _).setCell h2 _).setCell h2 _⟩
  · rw [heap_setCell_same _ g 5 _ t v5 (heap_setCell_same _ g 4 _ t v4 (heap_setCell_same _ g 3 _ t v3 (heap_setCell_same _ g 2 _ t v2 (heap_setCell_same _ g 1 _ t v1 (heap_setCell_same w g 0 _ t v0 h)))))]
    rfl
  · rw [heap_setCell_other _ _ _ _ (by simpa using hb), heap_setCell_other _ _ _ _ (by simpa using hb), heap_setCell_other _ _ _ _ (by simpa using hb), heap_setCell_other _ _ _ _ (by simpa using hb), heap_setCell_other _ _ _ _ (by simpa using hb), heap_setCell_other _ _ _ _ (by simpa using hb)]
set_option maxHeartbeats 8000000 in
theorem own_copyState (F P : Value) (fes : List Fe) (st : St) (w : World) (h : SLies w F P fes st) (hfr : st.fr.length ≤ 1000000) (hdf : ∀ f ∈ st.fr, f.df.length ≤ 1000000) (hps : st.ps.length ≤ 1000000) :
    Calls Try.prog 27 #[st.val F P] w fun x w' => ∃ F' P' es, x = .returned (st.val F' P') ∧ FRow w.heap.size w' F' es st.fr.reverse ∧ w'.ownsRow w.heap.size 55 7 P' st.ps.reverse.length (rc Pn.cells st.ps.reverse) ∧ Below w.heap.size w w' := by
  obtain ⟨fo, fc, hF⟩ := h.fr.shape
  obtain ⟨po, pc, hP⟩ := h.ps.shape
  subst hF; subst hP
  obtain ⟨n, hn⟩ : ∃ n, n = fes.length := ⟨_, rfl⟩
  obtain ⟨m, hm⟩ : ∃ m, m = st.ps.reverse.length := ⟨_, rfl⟩
  rw [← hn, ← hm]
  rw [← hn, ← hm] at h
  have HN : Hid (n = fes.length ∧ m = st.ps.reverse.length) := ⟨hn, hm⟩
  have hn2 : n ≤ 1000000 := by have := congrArg List.length h.xs; simp at this; omega
  have hm2 : m ≤ 1000000 := by rw [hm, List.length_reverse]; exact hps
  have HH : Hid (∀ u, Below w.heap.size w u → SLies u (.slice fo n fc) (.slice po m pc) fes st) := fun u hu => h.below hu
  have HFS : Hid (∀ x ∈ fes, ∀ u ∈ Fe.cells x, u.oneCell' = true) := fun x hx => by
    obtain ⟨ao, cap, he⟩ := (h.own x hx).shape
    exact Fe.one he
  have HDF : Hid (∀ e ∈ fes, e.x.df.reverse.length * 8 ≤ 140737488355328) := fun e he => by
    have h1 : e.x ∈ fes.map (·.x) := List.mem_map.2 ⟨e, he, rfl⟩
    rw [h.xs] at h1
    have := hdf e.x (by simpa using h1)
    simp; omega
  obtain ⟨st1, hst⟩ : ∃ x, x = st := ⟨_, rfl⟩
  clear h hdf hfr hps hn hm hst
  unfold St.val
  go_enter Try.func27, Try.ntmps27
  go_wp2_with (at_builtin; refine gcopy rfl _ _ Fe.len Try.infoFr rfl (by decide) Try.underlying23 rfl rfl rfl (HH.out _ (((Below.refl _ _).alloc (Nat.le_refl _) _).alloc (by simp) _)).fr HFS.out (by have := HN.out.1; omega) (by decide) (w.heap.size + 2) (by simp) ?_; intro v' w1 hown hb1; obtain ⟨fo', fc', hv'⟩ := row_slice hown; rw [← HN.out.1] at hv'; subst hv'; obtain ⟨g1, g2, hz, hb2⟩ := two_boxes hb1; obtain ⟨⟨c0, c1, c2, c3, c4, c5⟩, ⟨f0, -⟩⟩ := box6 g1; have HST0 : Hid (St0 n fo' fc' (.slice po m pc) st (w1.setCell ⟨w.heap.size, 0, none⟩ (.slice fo' n fc')) w fes fes 0) := st0_start hown g1 g2 hb2 hz; clear hown hb1 g1 g2 hb2)
  clear c0 c1 c2 c3 c4 c5 f0
  go_loopw [14] (fun s14 wr => ∃ (k : Nat) (es : List Fe), k ≤ n ∧ s14 = .int .i64 k ∧ Hid (St0 n fo' fc' (.slice po m pc) st wr w es fes k)) (fun i _ => n - (intOf i).toNat)
  case atStart => exact ⟨0, fes, Nat.zero_le _, rfl, HST0.out⟩
  case round =>
    obtain ⟨k, es, hk, rfl, HS⟩ := hrel
    obtain ⟨wq, hwq⟩ : ∃ x, wr = x := ⟨_, rfl⟩
    subst hwq
    obtain ⟨⟨c0, c1, c2, c3, c4, c5⟩, ⟨f0, f1, -⟩⟩ := box6 HS.out.bx
    have hlz := HS.out.hz
    by_cases hlt : k < n
    · have hlti : (k : Int) < (n : Int) := by omega
      have hle : es.length = n := by rw [HS.out.mid.len]; exact HN.out.1.symm
      obtain ⟨e, he⟩ : ∃ e, es[k]? = some e := ⟨es[k]'(by omega), List.getElem?_eq_getElem _⟩
      have hef : fes[k]? = some e := by
        have h1 := HS.out.mid.rest
        have h2 : (es.drop k)[0]? = some e := by rw [List.getElem?_drop]; exact he
        rw [h1, List.getElem?_drop] at h2
        exact h2
      obtain ⟨g, cap, hv, hgB, hgl, hc, hfz, -⟩ := own_at Fe.len HS.out.mid.row he
      have hfo : fo' = some ⟨g, 0, none⟩ := by simp only [Value.slice.injEq] at hv; exact hv.1
      subst hfo
      have hmem : e ∈ fes := List.mem_of_getElem? hef
      have HIL : Hid (∀ u, Below wr.heap.size wr u → ILies u e.L e.x.df.reverse) := fun u hu => (HH.out u (HS.out.up.trans (hu.mono HS.out.up.size))).own e hmem
      obtain ⟨lo, lc, hL⟩ := (HIL.out wr (Below.refl _ _)).shape
      have x4 := hc 4 _ rfl
      rw [hL] at x4 HIL
      have HDL : Hid (e.x.df.reverse.length * 8 ≤ 140737488355328) := HDF.out e hmem
      have HE : Hid (es[k]? = some e) := he
      obtain ⟨l, hl⟩ : ∃ l, l = e.x.df.reverse := ⟨_, rfl⟩
      have HLE : Hid (l = e.x.df.reverse) := hl
      rw [← hl] at hL x4 HIL HDL
      have HFZ : Hid (∀ u, Below wr.heap.size wr u → u.frozen? ⟨g, k * 5 + 4, none⟩ = false ∧ u.cell? ⟨g, k * 5 + 4, none⟩ = some (.slice lo l.length lc)) := fun u hu => by
        obtain ⟨g', cap', hv', -, -, hc', hfz', -⟩ := own_at Fe.len (HS.out.below hu).mid.row he
        simp only [Value.slice.injEq, Option.some.injEq, Addr.mk.injEq] at hv'
        obtain ⟨⟨hgg, -⟩, -⟩ := hv'
        subst hgg
        exact ⟨hfz' _, by have := hc' 4 _ rfl; rw [hL] at this; exact this⟩
      have HAP : Hid (∀ v' : Value, (v'.ownBlock = none ∨ ∃ q, v'.ownBlock = some q ∧ wr.heap.size ≤ q) → ∀ a ∈ es.take k, noTwo a ⟨e.x, v'⟩) := fun v' hv' a ha => by
        have hd := HS.out.mid.done a ha
        unfold noTwo
        cases hab : a.L.ownBlock with
        | none => exact .inl rfl
        | some b =>
          refine .inr fun e2 => ?_
          have := (World.ownsRow.lt hd b hab).2
          rcases hv' with h1 | ⟨q, h1, h2⟩
          · rw [h1] at e2; cases e2
          · rw [h1] at e2; cases e2; omega
      clear hle hef hv hc hfz he hL hl
      go_wp2_with (at_builtin; (refine icopy rfl _ _ rfl rfl rfl (HIL.out _ (Below.refl _ _)) HDL.out (w.heap.size + 2) (by omega) ?_; intro v' w2 hown hat hb2; have hown2 := hown; rw [HLE.out] at hown2; have HS2 := (HS.out.below hb2).step HE.out hown2 (HAP.out v' hat); obtain ⟨lo', lc', rfl⟩ := IOwn.shape hown; obtain ⟨y4, z4⟩ := HFZ.out w2 hb2; have HS3 := Hid.mk' HS2; clear HS2 hown hown2 hat hb2))
      go_roundw
      case rel => exact ⟨k + 1, _, by omega, by go_num, HS3.out⟩
      case measure => simp [intOf]; omega
    · have hke : n = k := by omega
      subst hke
      have HXX : Hid (fes.map (·.x) = st.fr.reverse) := (HH.out w (Below.refl _ _)).xs
      have HSN : Hid (St0 n fo' fc' (.slice po m pc) st wr w es fes fes.length) := by have := HS.out; rw [HN.out.1] at this ⊢; exact this
      have HPL : Hid (∀ u, Below wr.heap.size wr u → RLies 7 Pn.cells u (.slice po m pc) st.ps.reverse) := fun u hu => (HH.out u (HS.out.up.trans (hu.mono HS.out.up.size))).ps
      have HM : Hid (m = st.ps.reverse.length) := HN.out.2
      clear hlt
      go_wp2_with (at_builtin; refine gcopy rfl _ _ Pn.len Try.infoPn rfl (by decide) Try.underlying24 rfl rfl rfl (HPL.out _ (Below.refl _ _)) (fun x _ => x.one) (by have := HM.out; omega) (by decide) (w.heap.size + 2) (by omega) ?_; intro v' w2 hown hb2; have HS1 := Hid.mk' (St1.start HSN.out HXX.out hb2 hown); obtain ⟨po', pc', hv'⟩ := row_slice hown; rw [← HM.out] at hv'; subst hv'; have hbx2 := (HSN.out.below hb2).bx; obtain ⟨⟨d0, d1, d2, d3, d4, d5⟩, ⟨e0, e1, -⟩⟩ := box6 hbx2; clear hown hb2 hbx2 c0 c1 c2 c3 c4 c5 f0 f1)
      clear d0 d1 d2 d3 d4 d5 e0 e1
      go_loopw [37] (fun s37 wr => ∃ (k : Nat), k ≤ m ∧ s37 = .int .i64 k ∧ Hid (St1 (.slice fo' n fc') (.slice po' m pc') st wr w es)) (fun i _ => m - (intOf i).toNat)
      case atStart => exact ⟨0, Nat.zero_le _, rfl, HS1.out⟩
      case round =>
        obtain ⟨j, hj, rfl, HT⟩ := hrel
        obtain ⟨wq, hwq⟩ : ∃ x, wr = x := ⟨_, rfl⟩
        subst hwq
        obtain ⟨⟨c0, c1, c2, c3, c4, c5⟩, -⟩ := box6 HT.out.bx
        have hlz := HT.out.hz
        by_cases hlt : j < m
        · have hlti : (j : Int) < (m : Int) := by omega
          obtain ⟨q, hq⟩ : ∃ q, st.ps.reverse[j]? = some q := ⟨st.ps.reverse[j]'(by rw [← HM.out]; exact hlt), List.getElem?_eq_getElem _⟩
          obtain ⟨g, cap, hv, hgB, hgl, hc, hfz, -⟩ := own_at Pn.len HT.out.ps hq
          have hfo : po' = some ⟨g, 0, none⟩ := by simp only [Value.slice.injEq] at hv; exact hv.1
          subst hfo
          have k1 := hc 1 _ rfl
          have k2 : wr.cell? ⟨g, j * 7 + 1 + 1, none⟩ = some (.int .i64 q.v.n) := hc 2 _ rfl
          have k3 : wr.cell? ⟨g, j * 7 + 1 + 2, none⟩ = some (.string q.v.s) := hc 3 _ rfl
          have k4 : wr.cell? ⟨g, j * 7 + 1 + 3, none⟩ = some (.slice none 0 0) := hc 4 _ rfl
          have HQ : Hid (st.ps.reverse[j]? = some q) := hq
          have HPLN : Hid (∀ u, Calls Try.prog 40 #[.agg #[.int .i64 q.v.k, .int .i64 q.v.n, .string q.v.s, .slice none 0 0]] u fun e w' => e = .returned (.agg #[.int .i64 q.v.k, .int .i64 q.v.n, .string q.v.s, .slice none 0 0]) ∧ Below u.heap.size u w') := fun u => by
            have := own_plainP q.v.k q.v.n q.v.s none 0 0 u q.v.k_ok
            rw [Pv.of_self] at this
            exact this
          have HSM : Hid (∀ u, Below wr.heap.size wr u → (u.cell? ⟨g, j * 7 + 1, none⟩ = some (.int .i64 q.v.k) ∧ u.cell? ⟨g, j * 7 + 1 + 1, none⟩ = some (.int .i64 q.v.n) ∧ u.cell? ⟨g, j * 7 + 1 + 2, none⟩ = some (.string q.v.s) ∧ u.cell? ⟨g, j * 7 + 1 + 3, none⟩ = some (.slice none 0 0)) ∧ (∀ i, u.frozen? ⟨g, i, none⟩ = false) ∧
              Hid (St1 (.slice fo' n fc') (.slice (some ⟨g, 0, none⟩) m pc') st ((((u.setCell ⟨g, j * 7 + 1, none⟩ (.int .i64 q.v.k)).setCell ⟨g, j * 7 + 1 + 1, none⟩ (.int .i64 q.v.n)).setCell ⟨g, j * 7 + 1 + 2, none⟩ (.string q.v.s)).setCell ⟨g, j * 7 + 1 + 3, none⟩ (.slice none 0 0)) w es)) := fun u hu => by
            obtain ⟨g', cap', hv', -, -, hc', hfz', -⟩ := own_at Pn.len (HT.out.below hu).ps hq
            simp only [Value.slice.injEq, Option.some.injEq, Addr.mk.injEq] at hv'
            obtain ⟨⟨hgg, -⟩, -⟩ := hv'
            subst hgg
            refine ⟨⟨hc' 1 _ rfl, hc' 2 _ rfl, hc' 3 _ rfl, hc' 4 _ rfl⟩, hfz', ?_⟩
            have s1 := (HT.out.below hu).same hq (i := 1) (v := .int .i64 q.v.k) (by decide) rfl
            have s2 := s1.same hq (i := 2) (v := .int .i64 q.v.n) (by decide) rfl
            have s3 := s2.same hq (i := 3) (v := .string q.v.s) (by decide) rfl
            exact s3.same hq (i := 4) (v := .slice none 0 0) (by decide) rfl
          clear hc hv hq hfz
          go_wp2_with fail
          refine (HPLN.out _).mono ?_
          rintro e w3 ⟨rfl, hb3⟩
          obtain ⟨⟨m1, m2, m3, m4⟩, mz, HS3⟩ := HSM.out w3 hb3
          have mz1 := mz (j * 7 + 1)
          have mz2 := mz (j * 7 + 1 + 1)
          have mz3 := mz (j * 7 + 1 + 2)
          have mz4 := mz (j * 7 + 1 + 3)
          clear hb3 mz k1 k2 k3 k4 c0 c1 c2 c3 c4 c5
          go_wp2_with fail
          go_roundw
          case rel => exact ⟨j + 1, by omega, by go_num, HS3.out⟩
          case measure => simp [intOf]; omega
        · have HFIN : Hid (∃ F' P' es', (Value.agg #[.slice fo' n fc', .slice po' m pc', .int .i64 st.next, .int .i64 st.ser, .int .i64 st.fin, .int .i64 st.stat]) = .agg #[F', P', .int .i64 st.next, .int .i64 st.ser, .int .i64 st.fin, .int .i64 st.stat] ∧ FRow w.heap.size ((((((wr.setCell ⟨w.heap.size + 1, 0, none⟩ (.slice fo' n fc')).setCell ⟨w.heap.size + 1, 1, none⟩ (.slice po' m pc')).setCell ⟨w.heap.size + 1, 2, none⟩ (.int .i64 st.next)).setCell ⟨w.heap.size + 1, 3, none⟩ (.int .i64 st.ser)).setCell ⟨w.heap.size + 1, 4, none⟩ (.int .i64 st.fin)).setCell ⟨w.heap.size + 1, 5, none⟩ (.int .i64 st.stat)) F' es' st.fr.reverse ∧ ((((((wr.setCell ⟨w.heap.size + 1, 0, none⟩ (.slice fo' n fc')).setCell ⟨w.heap.size + 1, 1, none⟩ (.slice po' m pc')).setCell ⟨w.heap.size + 1, 2, none⟩ (.int .i64 st.next)).setCell ⟨w.heap.size + 1, 3, none⟩ (.int .i64 st.ser)).setCell ⟨w.heap.size + 1, 4, none⟩ (.int .i64 st.fin)).setCell ⟨w.heap.size + 1, 5, none⟩ (.int .i64 st.stat)).ownsRow w.heap.size 55 7 P' m (rc Pn.cells st.ps.reverse) ∧ Below w.heap.size w ((((((wr.setCell ⟨w.heap.size + 1, 0, none⟩ (.slice fo' n fc')).setCell ⟨w.heap.size + 1, 1, none⟩ (.slice po' m pc')).setCell ⟨w.heap.size + 1, 2, none⟩ (.int .i64 st.next)).setCell ⟨w.heap.size + 1, 3, none⟩ (.int .i64 st.ser)).setCell ⟨w.heap.size + 1, 4, none⟩ (.int .i64 st.fin)).setCell ⟨w.heap.size + 1, 5, none⟩ (.int .i64 st.stat))) := by
            have ht := HT.out
            obtain ⟨-, ho, hb⟩ := six_set ht.bz (.slice fo' n fc') (.slice po' m pc') (.int .i64 st.next) (.int .i64 st.ser) (.int .i64 st.fin) (.int .i64 st.stat)
            have hoth : ∀ b, b ≠ w.heap.size + 1 → b < wr.heap.size → _ := fun b hb _ => ho b hb
            refine ⟨_, _, es, rfl, ⟨row_up (row_far ht.fr.row ht.bz (by decide) hoth) (by omega), fun e he => row_up (row_far (ht.fr.own e he) ht.bz (by decide) hoth) (by omega), ht.fr.apart, ht.fr.xs⟩, ?_, hb _ _ ht.up (by omega)⟩
            have := row_far ht.ps ht.bz (by decide) hoth
            rw [← HM.out] at this
            exact row_up this (by omega)
          obtain ⟨⟨d0, d1, d2, d3, d4, d5⟩, ⟨f0, f1, f2, f3, f4, f5⟩⟩ := box6 HT.out.bz
          go_wp2_with fail
          exact bodyPost_ret (v := .agg #[.slice fo' n fc', .slice po' m pc', .int .i64 st.next, .int .i64 st.ser, .int .i64 st.fin, .int .i64 st.stat]) (by simp [results, Try.results27, go_sem, d0, d1, d2, d3, d4, d5]) rfl (by obtain ⟨F', P', es', h1, h2, h3, h4⟩ := HFIN.out; exact ⟨F', P', es', by rw [h1], h2, h3, h4⟩)
end Go.Proofs.Ytcnpoldcebdhjaa
