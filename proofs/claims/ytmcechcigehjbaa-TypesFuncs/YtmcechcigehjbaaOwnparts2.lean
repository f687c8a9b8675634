/- What types.Params answers. -/
import Derived.Test.YtmcechcigehjbaaOwnparts
namespace Go.Proofs.Ytmcechcigehjbaa
open Go.ChangeShapes Go.WideShapes Go.ChangeAt Go.RowKit
set_option maxRecDepth 100000
set_option linter.unusedSimpArgs false

/-- The parameters among the parts that were told. -/
def parOf (ps : List (Nat × ByteArray)) : List ByteArray := (ps.filter fun x => decide (x.1 < 4)).map (·.2)
theorem parOf_yes {ps : List (Nat × ByteArray)} {k : Nat} {s : ByteArray} (h : k < 4) : parOf (ps ++ [(k, s)]) = parOf ps ++ [s] := by simp [parOf, h]
theorem parOf_no {ps : List (Nat × ByteArray)} {k : Nat} {s : ByteArray} (h : ¬ k < 4) : parOf (ps ++ [(k, s)]) = parOf ps := by simp [parOf, h]
theorem parOf_len (ps : List (Nat × ByteArray)) : (parOf ps).length ≤ ps.length := by
  unfold parOf; rw [List.length_map]; exact List.length_filter_le _ _
/-- Where Params' function keeps what it was told. -/
def ParI (w : World) (ps : List (Nat × ByteArray)) (W : World) : Prop := Below w.heap.size w W ∧ ∃ (ao : Option Addr) (cv : Nat), W.heap[w.heap.size]? = some (.cells #[.slice ao (parOf ps).length cv] 23 (0, 0)) ∧
  W.ownsRow (w.heap.size + 2) 9 1 (.slice ao (parOf ps).length cv) (parOf ps).length ((parOf ps).map Value.string)
theorem parI_start (w : World) : ParI w [] (w.alloc (.cells #[.slice none 0 0] 23)) :=
  ⟨(Below.refl _ _).alloc (Nat.le_refl _) _, none, 0, heap_alloc_new w _, World.ownsRow_nil _ _ _ _⟩
theorem parI_keep {w W W' : World} {ps : List (Nat × ByteArray)} (h : ParI w ps W) (g : W.grownBy W' (some (w.heap.size + 1))) : ParI w ps W' := by
  obtain ⟨h1, ao, cv, h2, h3⟩ := h
  have hlt : w.heap.size < W.heap.size := (Array.getElem?_eq_some_iff.1 h2).1
  refine ⟨h1.trans ⟨g.os, g.tape, g.output, g.size, fun i hi => g.block i (by omega) (by simp; omega)⟩, ao, cv, (g.block _ hlt (by simp)).trans h2, h3.kept g ?_⟩
  cases hq : (Value.slice ao (parOf ps).length cv).ownBlock with
  | none => exact .inl rfl
  | some q => right; have := (h3.lt q hq).1; simp; omega
theorem parI_step {w W w3 : World} {ps : List (Nat × ByteArray)} {k : Nat} {s : ByteArray} {ao : Option Addr} {cv : Nat} {o : Obj} {v' : Value} (hk : k < 4) (hb : w.heap.size + 1 < W.heap.size) (h1 : Below w.heap.size w W)
    (h2 : W.heap[w.heap.size]? = some (.cells #[.slice ao (parOf ps).length cv] 23 (0, 0)))
    (h3 : W.ownsRow (w.heap.size + 2) 9 1 (.slice ao (parOf ps).length cv) (parOf ps).length ((parOf ps).map Value.string))
    (hg : (W.alloc o).grownBy w3 (Value.slice ao (parOf ps).length cv).ownBlock) (ho : w3.ownsRow (w.heap.size + 2) 9 1 v' ((parOf ps).length + 1) ((parOf ps).map Value.string ++ [.string s])) :
    ParI w (ps ++ [(k, s)]) (w3.setCell ⟨w.heap.size, 0, none⟩ v') ∧ (w3.setCell ⟨w.heap.size, 0, none⟩ v').heap[w.heap.size + 1]? = W.heap[w.heap.size + 1]? := by
  obtain ⟨g3, cap3, hv3⟩ : ∃ g3 cap3, v' = .slice (some ⟨g3, 0, none⟩) ((parOf ps).length + 1) cap3 := by
    rcases ho.2 with ⟨_, h⟩ | ⟨g3, cap3, _, h, _⟩
    · omega
    · exact ⟨g3, cap3, h⟩
  have hrow : ∀ q, (Value.slice ao (parOf ps).length cv).ownBlock = some q → w.heap.size + 2 ≤ q := fun q hq => (h3.lt q hq).1
  have hw3 : ∀ i, i < w.heap.size + 2 → w3.heap[i]? = W.heap[i]? := fun i hi => by
    rw [hg.block i (by simp; omega) (fun e => by have := hrow i e.symm; omega)]
    exact Below.heap_alloc _ _ _ (by omega)
  refine ⟨⟨?_, some ⟨g3, 0, none⟩, cap3, ?_, ?_⟩, ?_⟩
  · exact ((h1.alloc (by omega) o).grown hg (by simp; omega) (fun q hq => by have := hrow q hq; omega)).setCell (Nat.le_refl _) _
  · rw [parOf_yes hk, List.length_append, List.length_singleton, ← hv3]
    have := (hw3 w.heap.size (by omega)).trans h2
    simp [World.setCell, Array.getElem?_modify, this]
  · rw [parOf_yes hk, List.length_append, List.length_singleton, ← hv3, List.map_append]
    refine ho.kept (row := some w.heap.size) ⟨rfl, rfl, rfl, by simp [World.setCell], fun i _ hi => Below.heap_setCell _ _ _ _ (fun e => hi (by simp [e]))⟩ ?_
    cases hq : v'.ownBlock with
    | none => exact .inl rfl
    | some q => right; have := (ho.lt q hq).1; simp; omega
  · rw [Below.heap_setCell _ _ _ _ (by simp)]
    exact hw3 _ (by omega)
theorem own_slice {w : World} {B e n : Nat} {v : Value} {xs : List Value} (h : w.ownsRow B e 1 v (n + 1) xs) : ∃ g cap, v = .slice (some ⟨g, 0, none⟩) (n + 1) cap := by
  rcases h.2 with ⟨_, h⟩ | ⟨g3, cap3, _, h, _⟩
  · omega
  · exact ⟨g3, cap3, h⟩
set_option maxHeartbeats 1000000 in
theorem par_fnd (w : World) : Fnd (w.heap.size + 1) 26 #[.pointer (some ⟨w.heap.size, 0, none⟩)] (ParI w) := by
  refine ⟨fun args W => enters Try.func26 (by kernel_rfl) rfl args W, fun {ps W W'} h g => parI_keep h g, fun ps k s W hk hps hs hb hI => ?_⟩
  obtain ⟨i0, hi, hz0, hz1, hz2⟩ := info_parts Try.info9
  have hlt : w.heap.size + 1 < W.heap.size := by obtain ⟨t, p, h⟩ := hb; exact h.lt
  have HI : Hid (ParI w ps W) := hI
  obtain ⟨h1, ao, cv, h2, hown⟩ := hI
  have hc : W.cell? ⟨w.heap.size, 0, none⟩ = some (.slice ao (parOf ps).length cv) := by simp [World.cell?, h2]
  have hfz : W.frozen? ⟨w.heap.size, 0, none⟩ = false := by simp [World.frozen?, h2]
  have hn := Nat.le_trans (parOf_len ps) hps
  show Calls Try.prog 26 #[.int .i64 k, .string s, .pointer (some ⟨w.heap.size, 0, none⟩)] W _
  by_cases h4 : k < 4
  · have HST : Hid (∀ {w3 : World} {v' : Value} {o : Obj}, (W.alloc o).grownBy w3 (Value.slice ao (parOf ps).length cv).ownBlock → w3.ownsRow (w.heap.size + 2) 9 1 v' ((parOf ps).length + 1) ((parOf ps).map Value.string ++ [.string s]) →
      ParI w (ps ++ [(k, s)]) (w3.setCell ⟨w.heap.size, 0, none⟩ v') ∧ (w3.setCell ⟨w.heap.size, 0, none⟩ v').heap[w.heap.size + 1]? = W.heap[w.heap.size + 1]?) := fun hg ho => parI_step h4 hlt h1 h2 hown hg ho
    have HROW : Hid (∀ q, (Value.slice ao (parOf ps).length cv).ownBlock = some q → w.heap.size + 2 ≤ q) := fun q hq => (hown.lt q hq).1
    generalize (parOf ps).map Value.string = xs at *
    generalize (parOf ps).length = n at *
    have H2 : Hid (W.heap[w.heap.size]? = some (.cells #[.slice ao n cv] 23 (0, 0))) := h2
    have HW3 : Hid (∀ {w3 : World} {o : Obj}, (W.alloc o).grownBy w3 (Value.slice ao n cv).ownBlock → w3.cell? ⟨w.heap.size, 0, none⟩ = some (.slice ao n cv) ∧ w3.frozen? ⟨w.heap.size, 0, none⟩ = false) := fun hg => by
      have hw3 := (hg.block w.heap.size (by simp; omega) (fun e => by have := HROW.out _ e.symm; omega)).trans ((Below.heap_alloc _ _ _ (by omega)).trans H2.out)
      exact ⟨by simp [World.cell?, hw3], by simp [World.frozen?, hw3]⟩
    clear h2 hb HI h1
    go_enter Try.func26, Try.ntmps26
    go_wp2_with (at_builtin; refine wpList_append_own _ rfl _ _ 23 rfl (w.heap.size + 2) 9 i0 (.string ByteArray.empty) 1 16 Try.underlying23 hi hz0 hz1 hz2 rfl (by decide) _ _ _ rfl (hown.alloc _) ⟨W.heap.size, 0, none⟩ 1 1 [.string s] rfl rfl (cell_one_new _ _ _) (fun x hx => by simp at hx; subst hx; rfl) (by unfold maxLen; omega) (by omega) (by simp; omega) ?_; intro v' w3 hown' hgrow3 hnil3; obtain ⟨g3, cap3, rfl⟩ := own_slice hown'; have HS3 : Hid _ := HST.out hgrow3 hown'; obtain ⟨hc3, hf3⟩ := HW3.out hgrow3; clear hgrow3 hown' hnil3)
    go_end0
    exact ⟨rfl, HS3.out.1, HS3.out.2⟩
  · have h4' : ¬ (k : Int) < 4 := by omega
    have HZ : Hid (ParI w (ps ++ [(k, s)]) W) := by
      have := HI.out
      unfold ParI at this ⊢
      rw [parOf_no h4]
      exact this
    clear hown h2 h1 HI hb
    go_enter Try.func26, Try.ntmps26
    go_wp2_with fail
    go_end0
    exact ⟨rfl, HZ.out, by first | rfl | exact Array.getElem?_eq_getElem _⟩
theorem parP_all (f : Tx → Nat) : ∀ k i l, i + k ≤ 4 → (parsP f i k l).filter (fun x => decide (x.1 < 4)) = parsP f i k l
  | 0, _, _, _ => rfl
  | k + 1, i, l, h => by
    rw [parsP]
    split; rfl
    rw [List.filter_cons_of_pos (by simp; omega)]
    congr 1
    split
    · rfl
    · split
      · exact parP_all f k (i + 1) _ (by omega)
      · rfl
theorem resP_none (f : Tx → Nat) (l : Tx) : (resP f l).filter (fun x => decide (x.1 < 4)) = [] := by
  unfold resP
  split
  · rfl
  · split
    · rfl
    · split <;> rfl
theorem par_told (f : Tx → Nat) (l : Tx) : parOf (tailP f l) = (paramsP f l).map (·.2) := by
  unfold parOf tailP
  rw [List.filter_append, resP_none, List.append_nil]
  congr 1
  unfold paramsP
  split
  · rfl
  · split
    · rfl
    · exact parP_all f 4 0 _ (by omega)
/-- The parameters of a function's type. -/
def parT (l : Tx) : List ByteArray := if validF l = true then (paramsP (tl 100) (l.drop 5)).map (·.2) else []
theorem parT_len (l : Tx) : (parT l).length ≤ 4 := by
  unfold parT
  split
  · rw [List.length_map]; exact paramsP_len _ _
  · simp
/-- What Params leaves: a list of its own. -/
def ParPost (w : World) (l : Tx) (e : Ending) (w' : World) : Prop := ∃ (ao : Option Addr) (cv : Nat), e = .returned (.tuple #[.slice ao (parT l).length cv, .int .i64 (errV l)]) ∧ w'.ownsRow w.heap.size 9 1 (.slice ao (parT l).length cv) (parT l).length ((parT l).map Value.string) ∧ Below w.heap.size w w'
theorem owns_lower {w : World} {B B' e s n : Nat} {v : Value} {xs : List Value} (h : w.ownsRow B e s v n xs) (hB : B' ≤ B) : w.ownsRow B' e s v n xs := by
  refine ⟨h.1, ?_⟩
  rcases h.2 with h | ⟨g, cap, cur, e, hg, r⟩
  · exact .inl h
  · exact .inr ⟨g, cap, cur, e, Nat.le_trans hB hg, r⟩
set_option maxHeartbeats 1000000 in
theorem own_pars (t : ByteArray) (w : World) (ht : t.size ≤ maxLen) :
    Calls Try.prog 11 #[.string t] w (ParPost w t.data.toList) := by
  have HT : Hid (Calls Try.prog 25 #[.string t, .func (.func 26) #[] #[.pointer (some ⟨w.heap.size, 0, none⟩)]] (w.alloc (.cells #[.slice none 0 0] 23)) (ThruFPost (ParI w) t.data.toList)) := by
    have hF := par_fnd w
    have e : (w.alloc (.cells #[.slice none 0 0] 23)).heap.size = w.heap.size + 1 := by simp
    rw [← e] at hF
    exact own_thruF t _ hF (parI_start w) ht
  unfold ParPost errV
  cases hv : validF t.data.toList with
  | true =>
    have HP : Hid (parT t.data.toList = parOf (tailP (tl 100) (t.data.toList.drop 5))) := by
      show parT t.data.toList = _
      unfold parT
      rw [if_pos hv, par_told]
    unfold ThruFPost at HT
    rw [hv] at HT
    clear hv
    go_enter Try.func11, Try.ntmps11
    go_wp2_with fail
    refine HT.out.mono ?_
    rintro e w1 ⟨rfl, i1, -⟩
    have hI := i1 (by simp)
    obtain ⟨h1, ao, cv, h2, h3⟩ := hI
    rw [← HP.out] at h2 h3
    have hc : w1.cell? ⟨w.heap.size, 0, none⟩ = some (.slice ao (parT t.data.toList).length cv) := by simp [World.cell?, h2]
    have HB : Hid (w1.ownsRow w.heap.size 9 1 (.slice ao (parT t.data.toList).length cv) (parT t.data.toList).length ((parT t.data.toList).map Value.string) ∧ Below w.heap.size w w1) := ⟨owns_lower h3 (by omega), h1⟩
    clear i1 h1 h2 h3
    go_wp2_with fail
    go_ret2
    exact ⟨ao, cv, rfl, HB.out.1, HB.out.2⟩
  | false =>
    have HP : Hid (parT t.data.toList = []) := by
      show parT t.data.toList = _
      unfold parT
      rw [hv]; rfl
    unfold ThruFPost at HT
    rw [hv] at HT
    clear hv
    go_enter Try.func11, Try.ntmps11
    go_wp2_with fail
    refine HT.out.mono ?_
    rintro e w1 ⟨rfl, -, ps, i1⟩
    have HB : Hid (Below w.heap.size w w1) := i1.1
    clear i1
    go_wp2_with fail
    go_ret2
    refine ⟨none, 0, ?_⟩
    rw [HP.out]
    exact ⟨rfl, World.ownsRow_nil _ _ _ _, HB.out⟩
end Go.Proofs.Ytmcechcigehjbaa
