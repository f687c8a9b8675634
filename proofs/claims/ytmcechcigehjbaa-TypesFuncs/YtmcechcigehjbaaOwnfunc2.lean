/- What types.Func answers: the walk. -/
import Derived.Test.YtmcechcigehjbaaOwnfunc
namespace Go.Proofs.Ytmcechcigehjbaa
open Go.ChangeShapes Go.WideShapes Go.ChangeAt Go.RowKit
set_option maxRecDepth 100000
set_option linter.unusedSimpArgs false

theorem func_full (xs : List ByteArray) (r : ByteArray) : (((⟨#[102, 117, 110, 99, 40]⟩ : ByteArray) ++ ⟨(Lib.join (xs.map (·.data.toList)) [44]).toArray⟩ ++ ⟨#[41]⟩ ++ r) : ByteArray) = ⟨(funcT xs r.data.toList).toArray⟩ := by
  have : (((⟨#[102, 117, 110, 99, 40]⟩ : ByteArray) ++ ⟨(Lib.join (xs.map (·.data.toList)) [44]).toArray⟩ ++ ⟨#[41]⟩ ++ r) : ByteArray).data.toList = funcT xs r.data.toList := by
    simp [funcT, wFunc]
  rw [← this]
theorem funcE_many {xs : List ByteArray} {r : Tx} (h : 4 < xs.length) : funcE xs r = 15 ∧ funcV xs r = [] := by
  have : funcE xs r = 15 := by unfold funcE; rw [if_pos h]
  exact ⟨this, by unfold funcV; rw [this]; rfl⟩
theorem funcE_part {xs : List ByteArray} {r : Tx} (h : ¬ 4 < xs.length) (h1 : partsOk xs = false) : funcE xs r = 9 ∧ funcV xs r = [] := by
  have : funcE xs r = 9 := by unfold funcE; rw [if_neg h, if_pos h1]
  exact ⟨this, by unfold funcV; rw [this]; rfl⟩
theorem funcE_res {xs : List ByteArray} {r : Tx} (h : ¬ 4 < xs.length) (h1 : partsOk xs = true) (h2 : r ≠ []) (h3 : valid r = false) : funcE xs r = 9 ∧ funcV xs r = [] := by
  have : funcE xs r = 9 := by unfold funcE; rw [if_neg h, if_neg (by simp [h1]), if_pos ⟨h2, h3⟩]
  exact ⟨this, by unfold funcV; rw [this]; rfl⟩
theorem funcE_long {xs : List ByteArray} {r : Tx} (h : ¬ 4 < xs.length) (h1 : partsOk xs = true) (h2 : ¬ (r ≠ [] ∧ valid r = false)) (h3 : 100 < (funcT xs r).length) : funcE xs r = 1 ∧ funcV xs r = [] := by
  have : funcE xs r = 1 := by unfold funcE; rw [if_neg h, if_neg (by simp [h1]), if_neg h2, if_pos h3]
  exact ⟨this, by unfold funcV; rw [this]; rfl⟩
theorem funcE_good {xs : List ByteArray} {r : Tx} (h : ¬ 4 < xs.length) (h1 : partsOk xs = true) (h2 : ¬ (r ≠ [] ∧ valid r = false)) (h3 : ¬ 100 < (funcT xs r).length) : funcE xs r = 0 ∧ funcV xs r = funcT xs r := by
  have : funcE xs r = 0 := by unfold funcE; rw [if_neg h, if_neg (by simp [h1]), if_neg h2, if_neg h3]
  exact ⟨this, by unfold funcV; rw [this]; rfl⟩
/-- What Func leaves. -/
def FuncPost (w : World) (xs : List ByteArray) (r : Tx) (e : Ending) (w' : World) : Prop := e = .returned (.tuple #[.string ⟨(funcV xs r).toArray⟩, .int .i64 (funcE xs r)]) ∧ Below w.heap.size w w'
theorem funcPost_no {w w' : World} {xs : List ByteArray} {r : Tx} {k : Int} (h : funcE xs r = k ∧ funcV xs r = []) (hb : Below w.heap.size w w') : FuncPost w xs r (.returned (.tuple #[.string ⟨#[]⟩, .int .i64 k])) w' := ⟨by rw [h.1, h.2], hb⟩
set_option maxHeartbeats 2000000 in
theorem own_func (v : Value) (xs : List ByteArray) (r : ByteArray) (w : World) (h : Lies w v xs) (hs : ∀ x ∈ xs, x.size ≤ maxLen) (hr : r.size ≤ maxLen) :
    Calls Try.prog 16 #[v, .string r] w (FuncPost w xs r.data.toList) := by
  have HLI : Hid (Lies w v xs) := h
  obtain ⟨ao, cv, rfl, hcl⟩ := h
  by_cases h4 : 4 < xs.length
  · have HE : Hid _ := funcE_many (r := r.data.toList) h4
    have h4' : (4 : Int) < (xs.length : Int) := by omega
    clear h4 hcl HLI
    go_enter Try.func16, Try.ntmps16
    go_wp2_with fail
    go_ret2
    exact funcPost_no HE.out (Below.refl _ _)
  · have HS : Hid (∀ x ∈ xs, x.size ≤ maxLen) := hs
    have HRS : Hid (r.size ≤ maxLen) := hr
    have H4 : Hid (¬ 4 < xs.length) := h4
    have hn4 : xs.length ≤ 4 := by omega
    have HCL : Hid (xs ≠ [] → xs.length ≤ cv ∧ ∃ g, ao = some ⟨g, 0, none⟩ ∧ ∀ (k : Nat) x, xs[k]? = some x → w.cell? ⟨g, k, none⟩ = some (.string x)) := hcl
    have HV : Hid (∀ (t : ByteArray) (w : World), t.size ≤ maxLen → Calls Try.prog 9 #[.string t] w fun e w' => e = .returned (.bool (valid t.data.toList)) ∧ Below w.heap.size w w') := own_valid
    clear hs hr hcl h4
    go_enter Try.func16, Try.ntmps16
    go_wp2_with fail
    go_loopw [14] (fun i wr => ∃ k : Nat, k ≤ xs.length ∧ i = .int .i64 k ∧ Hid ((∀ (j : Nat) x, j < k → xs[j]? = some x → valid x.data.toList = true) ∧ Below w.heap.size w wr)) (fun i _ => xs.length - (intOf i).toNat)
    case atStart => exact ⟨0, Nat.zero_le _, rfl, fun j x hj => by omega, Below.refl _ _⟩
    case round =>
      obtain ⟨k, hk, rfl, HX⟩ := hrel
      by_cases hlt : k < xs.length
      · obtain ⟨hcv, g, rfl, hc⟩ := HCL.out (fun e => by rw [e] at hlt; simp at hlt)
        have hx : xs[k]? = some xs[k] := List.getElem?_eq_getElem hlt
        have hmem : xs[k] ∈ xs := List.getElem_mem hlt
        have hc0 := hc k _ hx
        have hck : wr.cell? ⟨g, k, none⟩ = some (.string xs[k]) := by
          rw [HX.out.2.cell (p := ⟨g, k, none⟩) (World.block_lt_of_cell? _ _ hc0)]
          exact hc0
        have HXK : Hid (xs[k]? = some xs[k]) := hx
        have HM : Hid (xs[k] ∈ xs) := hmem
        have HKV : Hid (∀ W, Calls Try.prog 9 #[.string xs[k]] W fun e w' => e = .returned (.bool (valid xs[k].data.toList)) ∧ Below W.heap.size W w') := fun W => HV.out _ W (HS.out _ hmem)
        have hlt2 : (k : Int) < (xs.length : Int) := by omega
        clear hx hmem hc hc0
        generalize xs[k] = x at *
        cases hv : valid x.data.toList with
        | false =>
          have HE : Hid _ := funcE_part (r := r.data.toList) H4.out (by
            unfold partsOk
            rw [List.all_eq_false]
            exact ⟨x, HM.out, by simp [hv]⟩)
          rw [hv] at HKV
          clear hv
          go_wp2_with fail
          refine (HKV.out _).mono ?_
          rintro e w2 ⟨rfl, b2⟩
          have HB2 : Hid (Below w.heap.size w w2) := HX.out.2.trans (b2.mono HX.out.2.size)
          clear b2
          go_wp2_with fail
          go_ret2
          exact funcPost_no HE.out HB2.out
        | true =>
          have HN : Hid (∀ (j : Nat) y, j < k + 1 → xs[j]? = some y → valid y.data.toList = true) := fun j y hj hy => by
            by_cases e : j = k
            · subst e; rw [HXK.out] at hy; cases hy; exact hv
            · exact HX.out.1 j y (by omega) hy
          rw [hv] at HKV
          clear hv
          go_wp2_with fail
          refine (HKV.out _).mono ?_
          rintro e w2 ⟨rfl, b2⟩
          have HB2 : Hid (Below w.heap.size w w2) := HX.out.2.trans (b2.mono HX.out.2.size)
          clear b2
          go_wp2_with fail
          go_roundw
          case rel => exact ⟨k + 1, by omega, by go_num, HN.out, HB2.out⟩
          case measure => simp [intOf]; omega
      · obtain rfl : k = xs.length := by omega
        have hok : partsOk xs = true := by
          unfold partsOk
          rw [List.all_eq_true]
          intro x hx
          obtain ⟨j, hj, e⟩ := List.getElem_of_mem hx
          exact HX.out.1 j x hj (by rw [← e]; exact List.getElem?_eq_getElem hj)
        have HOK : Hid (partsOk xs = true) := hok
        have HJ : Hid (∀ W, Below w.heap.size w W → Calls Try.prog 29 #[.slice ao xs.length cv, .string ⟨#[44]⟩] W fun e w' => e = .returned (.string ⟨(Lib.join (xs.map (·.data.toList)) [44]).toArray⟩) ∧ Below W.heap.size W w') := fun W hW =>
          lib_join _ xs W (HLI.out.below hW) hn4 (fun x hx => valid_le (ok_all hok x hx))
        have hjl := join_le xs (fun x hx => valid_le (ok_all hok x hx))
        have HFU : Hid _ := func_full xs r
        have HFL : Hid ((funcT xs r.data.toList).length = 6 + (⟨(Lib.join (xs.map (·.data.toList)) [44]).toArray⟩ : ByteArray).size + r.size) := by
          show (funcT xs r.data.toList).length = _
          unfold funcT
          rw [List.length_append, List.length_append, List.length_cons, bsize_list, ← bsize_list ⟨(Lib.join (xs.map (·.data.toList)) [44]).toArray⟩]
          simp [wFunc]
          omega
        have hjs : (⟨(Lib.join (xs.map (·.data.toList)) [44]).toArray⟩ : ByteArray).size ≤ 404 := by
          rw [← bsize_list]
          simp only [List.toList_toArray]
          omega
        clear hok hjl hlt
        generalize (⟨(Lib.join (xs.map (·.data.toList)) [44]).toArray⟩ : ByteArray) = J at *
        have hnl : ¬ ((xs.length : Nat) : Int) < ((xs.length : Nat) : Int) := by omega
        by_cases hr0 : r.size = 0
        · have hl0 : r.data.toList = [] := List.length_eq_zero_iff.1 (by rw [bsize_list]; exact hr0)
          have hq : (r.toList == []) = true := by rw [ByteArray.toList_eq, hl0]; rfl
          have hno : ¬ (r.data.toList ≠ [] ∧ valid r.data.toList = false) := fun h => h.1 hl0
          have HBX : Hid (Below w.heap.size w wr) := HX.out.2
          by_cases hlong : 100 < (funcT xs r.data.toList).length
          · have HE : Hid _ := funcE_long H4.out HOK.out hno hlong
            rw [HFL.out] at hlong
            clear hno hl0
            go_wp2_with fail
            refine (HJ.out _ HBX.out).mono ?_
            rintro e w2 ⟨rfl, b2⟩
            have HB2 : Hid (Below w.heap.size w w2) := HBX.out.trans (b2.mono HBX.out.size)
            clear b2
            go_wp2_with fail
            go_ret2
            exact funcPost_no HE.out HB2.out
          · have HE : Hid _ := funcE_good H4.out HOK.out hno hlong
            rw [HFL.out] at hlong
            have hlong' : 6 + J.size + r.size ≤ 100 := by omega
            clear hno hlong hl0
            go_wp2_with fail
            refine (HJ.out _ HBX.out).mono ?_
            rintro e w2 ⟨rfl, b2⟩
            have HB2 : Hid (Below w.heap.size w w2) := HBX.out.trans (b2.mono HBX.out.size)
            clear b2
            go_wp2_with fail
            go_ret2
            exact ⟨by rw [HE.out.1, HE.out.2, ← HFU.out]; rfl, HB2.out⟩
        · have hne : r.data.toList ≠ [] := fun e => hr0 (by rw [← bsize_list, e]; rfl)
          have hq : (r.toList == []) = false := by rw [ByteArray.toList_eq, beq_eq_false_iff_ne]; exact hne
          have HRV : Hid (∀ W, Calls Try.prog 9 #[.string r] W fun e w' => e = .returned (.bool (valid r.data.toList)) ∧ Below W.heap.size W w') := fun W => HV.out _ W HRS.out
          cases hv : valid r.data.toList with
          | false =>
            have HE : Hid _ := funcE_res H4.out HOK.out hne hv
            rw [hv] at HRV
            clear hv hne
            go_wp2_with fail
            refine (HRV.out _).mono ?_
            rintro e w2 ⟨rfl, b2⟩
            have HB2 : Hid (Below w.heap.size w w2) := HX.out.2.trans (b2.mono HX.out.2.size)
            clear b2
            go_wp2_with fail
            go_ret2
            exact funcPost_no HE.out HB2.out
          | true =>
            have hno : ¬ (r.data.toList ≠ [] ∧ valid r.data.toList = false) := fun h => by rw [hv] at h; cases h.2
            rw [hv] at HRV
            have hr1 := HRS.out
            unfold maxLen at hr1
            have hr2 := valid_le hv
            by_cases hlong : 100 < (funcT xs r.data.toList).length
            · have HE : Hid _ := funcE_long H4.out HOK.out hno hlong
              rw [HFL.out] at hlong
              clear hno hv hne
              go_wp2_with fail
              refine (HRV.out _).mono ?_
              rintro e w1 ⟨rfl, b1⟩
              have HBX : Hid (Below w.heap.size w w1) := HX.out.2.trans (b1.mono HX.out.2.size)
              clear b1
              go_wp2_with fail
              refine (HJ.out _ HBX.out).mono ?_
              rintro e w2 ⟨rfl, b2⟩
              have HB2 : Hid (Below w.heap.size w w2) := HBX.out.trans (b2.mono HBX.out.size)
              clear b2
              go_wp2_with fail
              go_ret2
              exact funcPost_no HE.out HB2.out
            · have HE : Hid _ := funcE_good H4.out HOK.out hno hlong
              rw [HFL.out] at hlong
              have hlong' : 6 + J.size + r.size ≤ 100 := by omega
              clear hno hlong hv hne
              go_wp2_with fail
              refine (HRV.out _).mono ?_
              rintro e w1 ⟨rfl, b1⟩
              have HBX : Hid (Below w.heap.size w w1) := HX.out.2.trans (b1.mono HX.out.2.size)
              clear b1
              go_wp2_with fail
              refine (HJ.out _ HBX.out).mono ?_
              rintro e w2 ⟨rfl, b2⟩
              have HB2 : Hid (Below w.heap.size w w2) := HBX.out.trans (b2.mono HBX.out.size)
              clear b2
              go_wp2_with fail
              go_ret2
              exact ⟨by rw [HE.out.1, HE.out.2, ← HFU.out]; rfl, HB2.out⟩
end Go.Proofs.Ytmcechcigehjbaa
