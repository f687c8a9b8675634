/- What types.Result and types.Params answer. -/
import Derived.Test.YtmcechcigehjbaaThru
import Derived.Test.YtmcechcigehjbaaCut
import Derived.Maps.AppendAt
namespace Go.Proofs.Ytmcechcigehjbaa
open Go.ChangeShapes Go.WideShapes Go.ChangeAt Go.RowKit
set_option maxRecDepth 100000
set_option linter.unusedSimpArgs false

/-- The result among the parts that were told. -/
def resOf (ps : List (Nat × ByteArray)) : ByteArray := ps.foldl (fun acc x => if x.1 = 4 then x.2 else acc) ⟨#[]⟩
theorem resOf_snoc (ps : List (Nat × ByteArray)) (k : Nat) (s : ByteArray) : resOf (ps ++ [(k, s)]) = if k = 4 then s else resOf ps := by simp [resOf]
/-- Where Result's function keeps what it was told. -/
def ResI (w : World) (ps : List (Nat × ByteArray)) (W : World) : Prop := Below w.heap.size w W ∧ W.heap[w.heap.size]? = some (.cells #[.string (resOf ps)] 9 (0, 0))
set_option maxHeartbeats 1000000 in
theorem res_fnd (w : World) : Fnd (w.heap.size + 1) 28 #[.pointer (some ⟨w.heap.size, 0, none⟩)] (ResI w) := by
  refine ⟨fun args W => enters Try.func28 (by kernel_rfl) rfl args W, fun {ps W W'} h g => ?_, fun ps k s W hk hps hs hb hI => ?_⟩
  · have hlt : w.heap.size < W.heap.size := (Array.getElem?_eq_some_iff.1 h.2).1
    exact ⟨h.1.trans ⟨g.os, g.tape, g.output, g.size, fun i hi => g.block i (by omega) (by simp; omega)⟩, (g.block _ hlt (by simp)).trans h.2⟩
  · have hc : W.cell? ⟨w.heap.size, 0, none⟩ = some (.string (resOf ps)) := by have := hI.2; simp [World.cell?, this]
    have hfz : W.frozen? ⟨w.heap.size, 0, none⟩ = false := by have := hI.2; simp [World.frozen?, this]
    have HI : Hid (ResI w ps W) := hI
    clear hI hb
    show Calls Try.prog 28 #[.int .i64 k, .string s, .pointer (some ⟨w.heap.size, 0, none⟩)] W _
    by_cases h4 : k = 4
    · subst h4
      have HZ : Hid (ResI w (ps ++ [(4, s)]) (W.setCell ⟨w.heap.size, 0, none⟩ (.string s))) := by
        refine ⟨HI.out.1.setCell (Nat.le_refl _) _, ?_⟩
        rw [resOf_snoc]
        have := HI.out.2
        simp [World.setCell, Array.getElem?_modify, this]
      go_enter Try.func28, Try.ntmps28
      go_wp2_with fail
      go_end0
      exact ⟨rfl, HZ.out, Below.heap_setCell _ _ _ _ (by simp)⟩
    · have hz : ((k : Int) == 4) = false := by rw [beq_eq_false_iff_ne]; omega
      have HZ : Hid (ResI w (ps ++ [(k, s)]) W) := by
        refine ⟨HI.out.1, ?_⟩
        rw [resOf_snoc, if_neg h4]
        exact HI.out.2
      go_enter Try.func28, Try.ntmps28
      go_wp2_with fail
      go_end0
      exact ⟨rfl, HZ.out, rfl⟩
theorem parsP_low (f : Tx → Nat) : ∀ k i l (a : ByteArray), i + k ≤ 4 → (parsP f i k l).foldl (fun acc x => if x.1 = 4 then x.2 else acc) a = a
  | 0, _, _, _, _ => rfl
  | k + 1, i, l, a, h => by
    rw [parsP]
    split; rfl
    rw [List.foldl_cons, if_neg (by simp; omega)]
    split
    · rfl
    · split
      · exact parsP_low f k (i + 1) _ a (by omega)
      · rfl
theorem paramsP_low (f : Tx → Nat) (l : Tx) : resOf (paramsP f l) = ⟨#[]⟩ := by
  unfold paramsP resOf
  split
  · rfl
  · split
    · rfl
    · exact parsP_low f 4 0 _ _ (by omega)
/-- The result of a function's type: what stands behind its bracket. -/
def resT (l : Tx) : Tx := l.drop (5 + params (tl 100) (l.drop 5))
theorem validF_parts {l : Tx} (h : validF l = true) : wordLen l = 0 ∧ wFunc.isPrefixOf l = true ∧ l.length ≤ 100 ∧ params (tl 100) (l.drop 5) ≠ 0 ∧ ∃ r, res (tl 100) (resT l) = some r ∧ r = (resT l).length ∧ 5 + params (tl 100) (l.drop 5) ≤ l.length := by
  unfold validF at h
  rw [Bool.and_eq_true] at h
  obtain ⟨hf, hv⟩ := h
  unfold valid at hv
  obtain ⟨h1, h2, h3⟩ := of_decide_eq_true hv
  have hw := func_noword hf
  have e : tl 101 l = fin 5 (tail (tl 100) (l.drop 5)) := by rw [tl, if_neg (by simp [hw]), if_pos hf]; rfl
  rw [e] at h2 h3
  refine ⟨hw, hf, h1, ?_⟩
  by_cases hp : params (tl 100) (l.drop 5) = 0
  · have : tail (tl 100) (l.drop 5) = 0 := by rw [tail, if_pos hp]
    rw [this] at h2
    exact absurd rfl h2
  · refine ⟨hp, ?_⟩
    unfold resT
    have ht : tail (tl 100) (l.drop 5) = match res (tl 100) (l.drop (5 + params (tl 100) (l.drop 5))) with | none => 0 | some r => params (tl 100) (l.drop 5) + r := by
      rw [tail, if_neg hp, List.drop_drop]
      cases res (tl 100) (l.drop (5 + params (tl 100) (l.drop 5))) <;> rfl
    have h5 := pre_le hf
    have hle := params_le (tl_le 100) (l.drop 5)
    rw [List.length_drop] at hle
    simp [wFunc] at h5
    cases hr : res (tl 100) (l.drop (5 + params (tl 100) (l.drop 5))) with
    | none =>
      rw [hr] at ht
      simp only at ht
      rw [ht] at h2
      exact absurd rfl h2
    | some r =>
      rw [hr] at ht
      simp only at ht
      rw [ht, fin_pos (by omega)] at h3
      exact ⟨r, rfl, by rw [List.length_drop]; omega, by omega⟩
theorem res_told {l : Tx} (h : validF l = true) : resOf (tailP (tl 100) (l.drop 5)) = ⟨(resT l).toArray⟩ := by
  obtain ⟨_, _, _, _, r, hr, hlen, _⟩ := validF_parts h
  have e : tailP (tl 100) (l.drop 5) = paramsP (tl 100) (l.drop 5) ++ resP (tl 100) (resT l) := by unfold tailP resT; rw [List.drop_drop]
  rw [e]
  have e2 : ∀ qs, resOf (paramsP (tl 100) (l.drop 5) ++ qs) = resOf qs := by
    intro qs
    unfold resOf
    rw [List.foldl_append]
    have := paramsP_low (tl 100) (l.drop 5)
    unfold resOf at this
    rw [this]
  rw [e2]
  cases hd : resT l with
  | nil => rfl
  | cons c q =>
    rw [hd] at hr hlen
    unfold res at hr
    simp only at hr
    split at hr
    · cases hr; simp at hlen
    · next hc =>
      split at hr
      · cases hr
      · next hf =>
        have hr' : tl 100 (c :: q) = r := by cases hr; rfl
        simp only [resP]
        rw [if_neg hc, if_neg hf, hr', hlen]
        simp [resOf]
def resV (l : Tx) : ByteArray := if validF l = true then ⟨(resT l).toArray⟩ else ⟨#[]⟩
def errV (l : Tx) : Int := if validF l = true then 0 else 9
set_option maxHeartbeats 1000000 in
theorem own_res (t : ByteArray) (w : World) (ht : t.size ≤ maxLen) :
    Calls Try.prog 14 #[.string t] w fun e w' => e = .returned (.tuple #[.string (resV t.data.toList), .int .i64 (errV t.data.toList)]) ∧ Below w.heap.size w w' := by
  have HT : Hid (Calls Try.prog 25 #[.string t, .func (.func 28) #[] #[.pointer (some ⟨w.heap.size, 0, none⟩)]] (w.alloc (.cells #[.string ⟨#[]⟩] 9)) (ThruFPost (ResI w) t.data.toList)) := by
    have hF := res_fnd w
    have e : (w.alloc (.cells #[.string ⟨#[]⟩] 9)).heap.size = w.heap.size + 1 := by simp
    rw [← e] at hF
    exact own_thruF t _ hF ⟨(Below.refl _ _).alloc (Nat.le_refl _) _, heap_alloc_new w _⟩ ht
  unfold resV errV
  have HR : Hid (validF t.data.toList = true → _) := res_told (l := t.data.toList)
  cases hv : validF t.data.toList with
  | true =>
    rw [if_pos rfl, if_pos rfl]
    have HR2 := HR.out hv
    unfold ThruFPost at HT
    rw [hv] at HT
    clear HR hv
    go_enter Try.func14, Try.ntmps14
    go_wp2_with fail
    refine HT.out.mono ?_
    rintro e w1 ⟨rfl, i1, -⟩
    have hI := i1 (by simp)
    have hc : w1.cell? ⟨w.heap.size, 0, none⟩ = some (.string ⟨(resT t.data.toList).toArray⟩) := by have := hI.2; rw [HR2] at this; simp [World.cell?, this]
    have HB : Hid (Below w.heap.size w w1) := hI.1
    clear i1 hI
    go_wp2_with fail
    go_ret2
    exact ⟨rfl, HB.out⟩
  | false =>
    rw [if_neg (by simp), if_neg (by simp)]
    unfold ThruFPost at HT
    rw [hv] at HT
    clear HR hv
    go_enter Try.func14, Try.ntmps14
    go_wp2_with fail
    refine HT.out.mono ?_
    rintro e w1 ⟨rfl, -, ps, i1⟩
    have HB : Hid (Below w.heap.size w w1) := i1.1
    clear i1
    go_wp2_with fail
    go_ret2
    exact ⟨rfl, HB.out⟩
end Go.Proofs.Ytmcechcigehjbaa
