/- Memory: what is written over, and what stays. -/
import Derived.Test.YtcnpoldcebdhjaaPmem1
namespace Go.Proofs.Ytcnpoldcebdhjaa
open Go.ChangeShapes Go.WideShapes Go.ChangeAt Go.RowKit
set_option maxRecDepth 100000
set_option linter.unusedSimpArgs false
set_option linter.unusedVariables false
/-- Blocks from B on below T may have been written over, each keeping its kind and size; all else stays; new ones may stand. -/
structure Sc (B T : Nat) (u u' : World) : Prop where
  bel : Below B u u'
  hi : ∀ g : Nat, T ≤ g → g < u.heap.size → u'.heap[g]? = u.heap[g]?
  sh : ∀ (g : Nat) (t : TypeId) (cur : Array Value), u.heap[g]? = some (Obj.cells cur t (0, 0)) → ∃ cur' : Array Value, u'.heap[g]? = some (Obj.cells cur' t (0, 0)) ∧ cur'.size = cur.size
theorem Sc.refl (B T : Nat) (u : World) : Sc B T u u := ⟨Below.refl _ _, fun _ _ _ => rfl, fun g t cur h => ⟨cur, h, rfl⟩⟩
theorem Sc.trans {B T : Nat} {u v w : World} (h1 : Sc B T u v) (h2 : Sc B T v w) : Sc B T u w :=
  ⟨h1.bel.trans h2.bel, fun g hg hl => by rw [h2.hi g hg (Nat.lt_of_lt_of_le hl h1.bel.size), h1.hi g hg hl], fun g t cur h => by
    obtain ⟨c1, h3, h4⟩ := h1.sh g t cur h
    obtain ⟨c2, h5, h6⟩ := h2.sh g t c1 h3
    exact ⟨c2, h5, by omega⟩⟩
theorem Sc.set {B T g j : Nat} {u : World} {t : TypeId} {cur : Array Value} (hB : B ≤ g) (hT : g < T ∨ u.heap.size ≤ g) (hc : u.heap[g]? = some (.cells cur t (0, 0))) (v : Value) : Sc B T u (u.setCell ⟨g, j, none⟩ v) := by
  have hlt := (Array.getElem?_eq_some_iff.1 hc).1
  refine ⟨(Below.refl _ _).setCell hB v, fun b hb _ => heap_setCell_other _ _ _ _ (by simp; omega), fun b s c h => ?_⟩
  by_cases hbg : b = g
  · subst hbg
    rw [hc] at h
    simp at h
    obtain ⟨rfl, rfl⟩ := h
    exact ⟨_, heap_setCell_same u b j _ _ v hc, by simp⟩
  · exact ⟨c, by rw [heap_setCell_other _ _ _ _ (by simpa using hbg)]; exact h, rfl⟩
theorem Sc.last {B T g j : Nat} {w u : World} {t : TypeId} {cur : Array Value} (h : Sc B T w u) (hB : B ≤ g) (hT : g < T ∨ w.heap.size ≤ g) (hc : u.heap[g]? = some (Obj.cells cur t (0, 0))) (v : Value) : Sc B T w (u.setCell ⟨g, j, none⟩ v) := by
  refine ⟨h.bel.setCell hB v, fun b hb hl => by rw [heap_setCell_other _ _ _ _ (by simp; omega)]; exact h.hi b hb hl, fun b s c hbc => ?_⟩
  obtain ⟨c1, h1, h2⟩ := h.sh b s c hbc
  by_cases hbg : b = g
  · subst hbg
    rw [hc] at h1
    simp at h1
    obtain ⟨rfl, rfl⟩ := h1
    exact ⟨_, heap_setCell_same u b j _ _ v hc, by simpa using h2⟩
  · exact ⟨c1, by rw [heap_setCell_other _ _ _ _ (by simpa using hbg)]; exact h1, h2⟩
theorem Sc.alloc {B T : Nat} {u : World} (hB : B ≤ u.heap.size) (o : Obj) : Sc B T u (u.alloc o) :=
  ⟨(Below.refl _ _).alloc hB o, fun g _ hl => ((Below.refl u.heap.size u).alloc (Nat.le_refl _) o).block g hl, fun g t cur h => ⟨cur, by rw [((Below.refl u.heap.size u).alloc (Nat.le_refl _) o).block g (Array.getElem?_eq_some_iff.1 h).1]; exact h, rfl⟩⟩
theorem Sc.below {B T : Nat} {u v : World} (hB : B ≤ u.heap.size) (h : Below u.heap.size u v) : Sc B T u v :=
  ⟨h.mono hB, fun g _ hl => h.block g hl, fun g t cur hc => ⟨cur, by rw [h.block g (Array.getElem?_eq_some_iff.1 hc).1]; exact hc, rfl⟩⟩
/-- An own row, whatever it holds. -/
def Arr (B T : Nat) (u : World) (e s : Nat) (v : Value) (n : Nat) : Prop := ∃ xs, u.ownsRow B e s v n xs ∧ ∀ g, v.ownBlock = some g → g < T
theorem Arr.sc {B T : Nat} {u u' : World} {e s n : Nat} {v : Value} (h : Arr B T u e s v n) (hs : Sc B T u u') : Arr B T u' e s v n := by
  obtain ⟨xs, hr, ht⟩ := h
  rcases hr.2 with ⟨h1, h2⟩ | ⟨g, cap, cur, h1, h2, h3, h4, h5, h6, h7⟩
  · exact ⟨xs, ⟨hr.1, .inl ⟨h1, h2⟩⟩, ht⟩
  · obtain ⟨c', h8, h9⟩ := hs.sh g e cur h3
    refine ⟨c'.toList.take (n * s), ⟨?_, .inr ⟨g, cap, c', h1, h2, h8, h4, h5, by omega, rfl⟩⟩, ht⟩
    rw [List.length_take, Array.length_toList, h9, h6]
    exact Nat.min_eq_left (Nat.mul_le_mul_right _ h4)
theorem app2 {ops : Array Oper} {rest : List Oper} {o : Oper} {a : Act} {Q : Exit → Act → World → Prop} {w : World} (hgd : o.guard = none) (s x : Operand) (t : TypeId)
    (ho : o.op = .call { callee := .builtin .append, args := #[s, x], argTypes := #[t, t] })
    (B T : Nat) (e : TypeId) (i : TypeInfo) (z : Value) (size bytes : Nat) (ht : Try.prog.underlying t = some (.slice e)) (hi : Try.prog.info? e = some i) (hz : i.zero = some z)
    (hsize : i.size = size) (hby : i.bytes = bytes) (hzs : z.cells.size = size) (hsz : 0 < size)
    (v : Value) (n : Nat) (hs : a.eval s = v) (hown : Arr B T w e size v n)
    (ad : Addr) (m c : Nat) (news : List Value) (hx : a.eval x = .slice (some ad) m c) (hl : news.length = m * size) (hnews : ∀ j u, news[j]? = some u → w.cell? (ad.add j) = some u) (h1 : ∀ u ∈ news, u.oneCell' = true)
    (hm : 0 < m) (h63 : n + m ≤ maxLen) (hbytes : (n + m) * bytes ≤ 140737488355328) (hB : B ≤ w.heap.size)
    (h : ∀ g cap cur w', w'.heap[g]? = some (.cells cur e (0, 0)) → (n + m) * size ≤ cur.size → Sc B T w w' → B ≤ g → (v.ownBlock = some g ∨ w.heap.size ≤ g) → (∀ b, some b ≠ v.ownBlock → b < w.heap.size → w'.heap[b]? = w.heap[b]?) → wpList Try.prog ops Q rest (a.put o.dst (.slice (some ⟨g, 0, none⟩) (n + m) cap)) w') : wpList Try.prog ops Q (o :: rest) a w := by
  refine wpList_plain hgd fun K hK => ?_
  have key : ∃ g cap cur w', (Builtin.append_ #[t, t] o.type #[v, .slice (some ad) m c]).run Try.prog w = .ok (.slice (some ⟨g, 0, none⟩) (n + m) cap) w' ∧ w'.heap[g]? = some (.cells cur e (0, 0)) ∧ (n + m) * size ≤ cur.size ∧ Sc B T w w' ∧ B ≤ g ∧ (v.ownBlock = some g ∨ w.heap.size ≤ g) ∧ (∀ b, some b ≠ v.ownBlock → b < w.heap.size → w'.heap[b]? = w.heap[b]?) := by
    subst hsize
    subst hby
    obtain ⟨xs, hr, hT⟩ := hown
    rcases hr.2 with ⟨rfl, rfl⟩ | ⟨g, cap, cur, rfl, hbg, hg, hnc, hcm, hcs, htake⟩
    · have hrun := run_append_nil (P := Try.prog) w t o.type e i z ht hi hz ad m c news hl hnews hm (by simp only [maxLen] at h63; omega) (by rw [Nat.zero_add] at hbytes; omega)
      rw [Nat.zero_add]
      have hb : Below w.heap.size w (w.drew.alloc (.cells (news.toArray ++ Builtin.zeroCells z.cells (grownCap w m 0 e - m)) e)) := ((Below.refl _ _).drew).alloc (Nat.le_refl _) _
      exact ⟨_, _, _, _, hrun, Go.heap_alloc_new w.drew _, by simp [hl], Sc.below hB hb, hB, .inr (Nat.le_refl _), fun b _ hl => hb.block b hl⟩
    · by_cases hroom : n + m ≤ cap
      · have hfit : n * i.size + news.length ≤ cur.size := by rw [hl, hcs, ← Nat.add_mul]; exact Nat.mul_le_mul_right _ hroom
        have hrun := run_append_room (P := Try.prog) w t o.type e i ht hi g n cap cur hg ad m c news hl hnews h1 hroom hfit
        have hsz2 : (cur.toList.take (n * i.size) ++ news ++ cur.toList.drop (n * i.size + news.length)).toArray.size = cur.size := by
          simp only [List.size_toArray, List.length_append, List.length_take, List.length_drop, Array.length_toList]
          omega
        have hgb : w.grownBy (w.setRow g (cur.toList.take (n * i.size) ++ news ++ cur.toList.drop (n * i.size + news.length)).toArray) (some g) :=
          ⟨rfl, rfl, rfl, by simp, fun k _ hk => setRow_other w g k _ (fun e => hk (by simp [e]))⟩
        refine ⟨g, cap, _, _, hrun, setRow_heap w g cur _ e _ hg, by rw [hsz2, hcs]; exact Nat.mul_le_mul_right _ hroom, ⟨(Below.refl _ _).grown hgb hB (fun q hq => by cases hq; exact hbg), fun b hb hl => ?_, fun b t2 c2 hc2 => ?_⟩, hbg, .inl rfl, fun b hb hl => ?_⟩
        · exact hgb.block b hl (fun e => by cases e; have := hT g rfl; omega)
        · by_cases hbb : b = g
          · subst hbb
            rw [hg] at hc2
            simp at hc2
            obtain ⟨rfl, rfl⟩ := hc2
            exact ⟨_, setRow_heap w b cur _ e _ hg, hsz2⟩
          · exact ⟨c2, by rw [hgb.block b (Array.getElem?_eq_some_iff.1 hc2).1 (fun e => by cases e; exact hbb rfl)]; exact hc2, rfl⟩
        · exact hgb.block b hl (fun e => hb (by cases e; rfl))
      · have holds : ∀ j u, xs[j]? = some u → w.cell? ((⟨g, 0, none⟩ : Addr).add j) = some u := hr.cells (g := g) rfl
        have hrun := run_append_grow (P := Try.prog) w t o.type e i z ht hi hz ⟨g, 0, none⟩ n cap xs hr.1 holds ad m c news hl hnews (by omega) (by simp only [maxLen] at h63; omega) (growslice_fits (by omega) hbytes)
        have hb : Below w.heap.size w (w.drew.alloc (.cells (xs.toArray ++ news.toArray ++ Builtin.zeroCells z.cells (grownCap w (n + m) cap e - (n + m))) e)) := ((Below.refl _ _).drew).alloc (Nat.le_refl _) _
        exact ⟨_, _, _, _, hrun, Go.heap_alloc_new w.drew _, by simp only [Array.size_append, List.size_toArray, hr.1, hl, ← Nat.add_mul]; omega, Sc.below hB hb, hB, .inr (Nat.le_refl _), fun b _ hl => hb.block b hl⟩
  obtain ⟨g, cap, cur, w', hr, h2, h3, h4, h5, h6, h7⟩ := key
  unfold Oper.wp execOp
  simp only [ho, resolve, invoke, builtin, Sem.run_bind, Sem.run_pure, Result.andThen_ok, List.map_toArray, List.map_cons, List.map_nil, hs, hx, hr]
  exact hK _ _ (h g cap cur w' h2 h3 h4 h5 h6 h7)
end Go.Proofs.Ytcnpoldcebdhjaa
