/- Memory: what the law's loops keep. -/
import Derived.Test.YtcnpoldcebdhjaaPmem5
namespace Go.Proofs.Ytcnpoldcebdhjaa
open Go.ChangeShapes Go.WideShapes Go.ChangeAt Go.RowKit
set_option maxRecDepth 100000
set_option linter.unusedSimpArgs false
set_option linter.unusedVariables false
theorem ev_set {u : World} {b : Nat} {c0 c1 c2 c3 c4 c5 : Value} (d0 d1 d2 d3 d4 d5 : Value) (h : u.heap[b]? = some (.cells #[c0, c1, c2, c3, c4, c5] 34 (0, 0))) :
    ((((((u.setCell ⟨b, 0, none⟩ d0).setCell ⟨b, 1, none⟩ d1).setCell ⟨b, 2, none⟩ d2).setCell ⟨b, 3, none⟩ d3).setCell ⟨b, 4, none⟩ d4).setCell ⟨b, 5, none⟩ d5).heap[b]? = some (.cells #[d0, d1, d2, d3, d4, d5] 34 (0, 0)) ∧
    (∀ g, g ≠ b → ((((((u.setCell ⟨b, 0, none⟩ d0).setCell ⟨b, 1, none⟩ d1).setCell ⟨b, 2, none⟩ d2).setCell ⟨b, 3, none⟩ d3).setCell ⟨b, 4, none⟩ d4).setCell ⟨b, 5, none⟩ d5).heap[g]? = u.heap[g]?) ∧
    Below b u ((((((u.setCell ⟨b, 0, none⟩ d0).setCell ⟨b, 1, none⟩ d1).setCell ⟨b, 2, none⟩ d2).setCell ⟨b, 3, none⟩ d3).setCell ⟨b, 4, none⟩ d4).setCell ⟨b, 5, none⟩ d5) := by
  refine ⟨?_, fun g hg => ?_, ?_⟩
  · have h0 := heap_setCell_same u b 0 _ 34 d0 h
    have h1 := heap_setCell_same _ b 1 _ 34 d1 h0
    have h2 := heap_setCell_same _ b 2 _ 34 d2 h1
    have h3 := heap_setCell_same _ b 3 _ 34 d3 h2
    have h4 := heap_setCell_same _ b 4 _ 34 d4 h3
    have h5 := heap_setCell_same _ b 5 _ 34 d5 h4
    exact h5
  · have hb : b ≠ g := fun e => hg e.symm
    rw [heap_setCell_other _ _ _ _ (by simpa using hg), heap_setCell_other _ _ _ _ (by simpa using hg), heap_setCell_other _ _ _ _ (by simpa using hg), heap_setCell_other _ _ _ _ (by simpa using hg), heap_setCell_other _ _ _ _ (by simpa using hg), heap_setCell_other _ _ _ _ (by simpa using hg)]
  · exact ((((((Below.refl b u).setCell (p := ⟨b, 0, none⟩) (Nat.le_refl _) d0).setCell (p := ⟨b, 1, none⟩) (Nat.le_refl _) d1).setCell (p := ⟨b, 2, none⟩) (Nat.le_refl _) d2).setCell (p := ⟨b, 3, none⟩) (Nat.le_refl _) d3).setCell (p := ⟨b, 4, none⟩) (Nat.le_refl _) d4).setCell (p := ⟨b, 5, none⟩) (Nat.le_refl _) d5
theorem quiet_far {P : Program} {f : FuncId} {args : Array Value} {w : World} {a n : Nat} {v : Value}
    (h : Calls P f args (w.drewN (a + n)) fun e w' => e = .returned v ∧ ∃ m, w' = (w.drewN (a + n)).drewN m) : Calls P f args (w.drewN (a + n)) fun e w'' => e = .returned v ∧ ∃ m, w'' = w.drewN (a + m) :=
  h.mono fun _ _ ⟨he, m, hm⟩ => ⟨he, n + m, by rw [hm, World.drewN_drewN, Nat.add_assoc]⟩
theorem stayed_far (l : List Int) (L : Value) (g : Nat) (w : World) (hm : ILies w L l) (hr : Room w g l) (hz : l.length ≤ 17592186043904) (q : Nat) :
    Calls Try.prog 24 #[.slice (some ⟨g, 0, none⟩) l.length (l.length + 2), L] (w.drewN q) fun e w' => e = .returned (.bool true) ∧ ∃ m, w' = (w.drewN q).drewN m :=
  own_stayed l L g _ (hm.below (below_dn _ _) (Nat.le_refl _)) (room_keep hr ((show Below w.heap.size w (w.drewN q) from below_dn _ _).block g (Array.getElem?_eq_some_iff.1 (show w.heap[g]? = _ from hr)).1)) hz
theorem arr_of {B T e s n : Nat} {w u : World} {v : Value} {xs : List Value} (h : w.ownsRow B e s v n xs) (hb : Below w.heap.size w u) (hT : w.heap.size ≤ T) : Arr B T u e s v n :=
  ⟨xs, row_below h hb, fun g hg => Nat.lt_of_lt_of_le (h.lt g hg).2 hT⟩
theorem Sc.row {B T e s n : Nat} {w u : World} {v : Value} {xs : List Value} (hs : Sc B T w u) (h : w.ownsRow T e s v n xs) : u.ownsRow T e s v n xs :=
  row_at h fun g cs z hg hgo => hs.hi g (h.lt g hgo).1 (Array.getElem?_eq_some_iff.1 hg).1
theorem Sc.box {B T g : Nat} {w u : World} {x : Obj} (hs : Sc B T w u) (hg : T ≤ g) (h : w.heap[g]? = some x) : u.heap[g]? = some x := by
  rw [hs.hi g hg (Array.getElem?_eq_some_iff.1 h).1]; exact h
theorem row_oth {B B' T n m : Nat} {w u : World} {v L : Value} {xs : List Value} (h : w.ownsRow B 53 5 v n xs) (ha : Arr B' T w 3 1 L m) (ho : Oth L w u) : u.ownsRow B 53 5 v n xs :=
  row_at h fun g cs z hg _ => ho g (fun e => by
    obtain ⟨cs2, h2⟩ := row_typed ha.choose_spec.1 g e.symm
    rw [hg] at h2; simp at h2) (Array.getElem?_eq_some_iff.1 hg).1
/-- While the activations that were answered are written over. -/
structure S1 (B T : Nat) (F : Value) (fes : List Fe) (w0 u : World) : Prop where
  sc : Sc B T w0 u
  lt : ∀ g, F.ownBlock = some g → g < T
  fr : ∃ es, u.ownsRow B 53 5 F es.length (rc Fe.cells es) ∧ es.length = fes.length ∧ es.map (·.L) = fes.map (·.L)
theorem S1.at {B T k : Nat} {F : Value} {fes : List Fe} {w0 u : World} {e : Fe} (h : S1 B T F fes w0 u) (hk : fes[k]? = some e) : ∃ g cap, F = .slice (some ⟨g, 0, none⟩) fes.length cap ∧ B ≤ g ∧ g < T ∧ u.cell? ⟨g, k * 5 + 4, none⟩ = some e.L := by
  obtain ⟨es, hr, hl, hm⟩ := h.fr
  have hx : (es.map (·.L))[k]? = some e.L := by rw [hm]; simp [hk]
  simp only [List.getElem?_map, Option.map_eq_some_iff] at hx
  obtain ⟨e', he', hL⟩ := hx
  obtain ⟨g, cap, hv, hB, -, hc, -, -⟩ := own_at Fe.len hr he'
  refine ⟨g, cap, by rw [hv, hl], hB, h.lt g (by rw [hv]; rfl), ?_⟩
  rw [← hL]
  exact hc 4 _ rfl
theorem S1.step {B T k n cap g m : Nat} {fes : List Fe} {w0 u w' : World} {L : Value} (h : S1 B T (.slice (some ⟨g, 0, none⟩) n cap) fes w0 u) (hk : k < fes.length) (ha : Arr B T u 3 1 L m) (hs : Sc B T u w') (ho : Oth L u w') :
    S1 B T (.slice (some ⟨g, 0, none⟩) n cap) fes w0 (w'.setCell ⟨g, k * 5, none⟩ (.int .i64 (-99))) ∧ (∃ y, w'.cell? ⟨g, k * 5, none⟩ = some y) ∧ w'.frozen? ⟨g, k * 5, none⟩ = false := by
  obtain ⟨es, hr, hl, hm⟩ := h.fr
  have hr' := row_oth hr ha ho
  obtain ⟨e', he'⟩ : ∃ e, es[k]? = some e := ⟨es[k]'(by omega), List.getElem?_eq_getElem _⟩
  obtain ⟨g2, cap2, hv, hB, -, hc, hfz, cur, hcur⟩ := own_at Fe.len hr' he'
  simp only [Value.slice.injEq, Option.some.injEq, Addr.mk.injEq] at hv
  obtain ⟨⟨hgg, -⟩, -, -⟩ := hv
  subst hgg
  have h0 := hc 0 _ rfl
  have hset := own_set Fe.len hr' (u := .int .i64 (-99)) (i := 0) (e' := ⟨{ e'.x with id := -99 }, e'.L⟩) he' (by decide) rfl
  simp only [Nat.add_zero] at h0 hset
  refine ⟨⟨(h.sc.trans hs).trans (Sc.set hB (.inl (h.lt g rfl)) hcur _), h.lt, es.set k ⟨{ e'.x with id := -99 }, e'.L⟩, ?_, by rw [List.length_set]; exact hl, ?_⟩, ⟨_, h0⟩, hfz _⟩
  · rw [List.length_set]; exact hset
  · rw [← hm, List.map_set]
    apply List.ext_getElem?
    intro j
    by_cases hj : j = k
    · subst hj
      rw [List.getElem?_set_self (by rw [List.length_map]; exact (List.getElem?_eq_some_iff.1 he').1)]
      simp [he']
    · rw [List.getElem?_set_ne (Ne.symm hj)]
end Go.Proofs.Ytcnpoldcebdhjaa
