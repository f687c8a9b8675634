/- What panicroadref.FuncType answers. -/
import Derived.Test.YtmcechcigehjbaaOwnfunc2
import Derived.Test.YtmcechcigehjbaaRefvalid
import Derived.Test.YtmcechcigehjbaaCame
namespace Go.Proofs.Ytmcechcigehjbaa
open Go.ChangeShapes Go.WideShapes Go.ChangeAt Go.RowKit
set_option maxRecDepth 100000
set_option linter.unusedSimpArgs false

theorem ba_of {x : ByteArray} {l : Tx} (h : x.data.toList = l) : x = ⟨l.toArray⟩ := by subst h; rfl
theorem join_drop {xs : List Tx} (h : xs ≠ []) : (Lib.joinTail [44] xs).drop 1 = Lib.join xs [44] := by
  cases xs with
  | nil => exact absurd rfl h
  | cons x ys => rw [Lib.join_cons]; simp [Lib.joinTail]
theorem joinTail_le : ∀ (ys : List ByteArray), (∀ x ∈ ys, x.size ≤ 100) → (Lib.joinTail [44] (ys.map (·.data.toList))).length ≤ ys.length * 101 := by
  intro ys
  induction ys with
  | nil => intro _; simp [Lib.joinTail]
  | cons y ys ih =>
    intro hy
    have h2 := hy y (by simp)
    have h3 := ih (fun z hz => hy z (by simp [hz]))
    have e : Lib.joinTail [44] ((y :: ys).map (·.data.toList)) = (44 :: y.data.toList) ++ Lib.joinTail [44] (ys.map (·.data.toList)) := by simp [Lib.joinTail]
    rw [e, List.length_append, List.length_cons, bsize_list, List.length_cons]
    omega
set_option maxHeartbeats 4000000 in
theorem ref_func (v : Value) (xs : List ByteArray) (r : ByteArray) (w : World) (h : Came w v xs) (hs : ∀ x ∈ xs, x.size ≤ maxLen) (hr : r.size ≤ maxLen) (hN : xs.length * 16 ≤ 140737488351232) :
    Calls Try.prog 17 #[v, .string r] w (FuncPost w xs r.data.toList) := by
  obtain ⟨ao, cv, rfl⟩ : ∃ ao cv, v = .slice ao xs.length cv := by
    rcases h with ⟨h1, h2⟩ | ⟨a, cap, h1, _⟩
    · exact ⟨none, 0, by rw [h1, h2]; rfl⟩
    · exact ⟨_, _, h1⟩
  have HC : Hid (Came w (.slice ao xs.length cv) xs) := h
  by_cases h4 : 4 < xs.length
  · have HE : Hid _ := funcE_many (r := r.data.toList) h4
    have h4' : (4 : Int) < (xs.length : Int) := by omega
    clear h4 h HC
    go_enter Try.func17, Try.ntmps17
    go_wp2_with fail
    go_ret2
    exact funcPost_no HE.out (Below.refl _ _)
  · have HS : Hid (∀ x ∈ xs, x.size ≤ maxLen) := hs
    have HRS : Hid (r.size ≤ maxLen) := hr
    have H4 : Hid (¬ 4 < xs.length) := h4
    have hn4 : xs.length ≤ 4 := by omega
    have HV : Hid (∀ (t : ByteArray) (w : World), t.size ≤ maxLen → Calls Try.prog 10 #[.string t] w fun e w' => e = .returned (.bool (valid t.data.toList)) ∧ Below w.heap.size w w') := ref_valid
    clear hs hr h h4 hN
    go_enter Try.func17, Try.ntmps17
    go_wp2_with fail
    go_loopw [6, 7] (fun y i wr => ∃ (k : Nat) (S : ByteArray), k ≤ xs.length ∧ i = .int .i64 k ∧ y = .string S ∧ S.size ≤ 404 ∧ Hid (S.data.toList = Lib.joinTail [44] ((xs.map (·.data.toList)).take k) ∧ (∀ (j : Nat) x, j < k → xs[j]? = some x → valid x.data.toList = true) ∧ Below w.heap.size w wr)) (fun _ i _ => xs.length - (intOf i).toNat)
    case atStart => exact ⟨0, ⟨#[]⟩, Nat.zero_le _, rfl, rfl, by decide, rfl, fun j x hj => by omega, Below.refl _ _⟩
    case round =>
      obtain ⟨k, S, hk, rfl, rfl, hS4, HX⟩ := hrel
      by_cases hlt : k < xs.length
      · obtain ⟨b, off, cc, hv0, hcc, hc⟩ := HC.out.cells (fun e => by rw [e] at hlt; simp at hlt)
        obtain ⟨rfl, rfl⟩ : ao = some ⟨b, off, none⟩ ∧ cv = cc := by cases hv0; exact ⟨rfl, rfl⟩
        have hx : xs[k]? = some xs[k] := List.getElem?_eq_getElem hlt
        have hmem : xs[k] ∈ xs := List.getElem_mem hlt
        have hc0 := hc k _ hx
        have hck : wr.cell? ⟨b, off + k, none⟩ = some (.string xs[k]) := by
          rw [HX.out.2.2.cell (p := ⟨b, off + k, none⟩) (World.block_lt_of_cell? _ _ hc0)]
          exact hc0
        have HXK : Hid (xs[k]? = some xs[k]) := hx
        have HM : Hid (xs[k] ∈ xs) := hmem
        have HKV : Hid (∀ W, Calls Try.prog 10 #[.string xs[k]] W fun e w' => e = .returned (.bool (valid xs[k].data.toList)) ∧ Below W.heap.size W w') := fun W => HV.out _ W (HS.out _ hmem)
        have hlt2 : (k : Int) < (xs.length : Int) := by omega
        clear hx hmem hc hc0 hv0
        generalize xs[k] = x at *
        cases hv : valid x.data.toList with
        | false =>
          have HE : Hid _ := funcE_part (r := r.data.toList) H4.out (by
            unfold partsOk
            rw [List.all_eq_false]
            exact ⟨x, HM.out, by simp [hv]⟩)
          rw [hv] at HKV
          clear hv
          go_wp2_with fail
          refine (HKV.out _).mono ?_
          rintro e w2 ⟨rfl, b2⟩
          have HB2 : Hid (Below w.heap.size w w2) := HX.out.2.2.trans (b2.mono HX.out.2.2.size)
          clear b2
          go_wp2_with fail
          go_ret2
          exact funcPost_no HE.out HB2.out
        | true =>
          have HNV : Hid (∀ (j : Nat) y, j < k + 1 → xs[j]? = some y → valid y.data.toList = true) := fun j y hj hy => by
            by_cases e : j = k
            · subst e; rw [HXK.out] at hy; cases hy; exact hv
            · exact HX.out.2.1 j y (by omega) hy
          have hx100 := valid_le hv
          have HJ : Hid ((S ++ ((⟨#[44]⟩ : ByteArray) ++ x)).data.toList = Lib.joinTail [44] ((xs.map (·.data.toList)).take (k + 1))) := by
            show (S ++ ((⟨#[44]⟩ : ByteArray) ++ x)).data.toList = _
            rw [Lib.joinTail_take_succ [44] _ k x.data.toList (by rw [List.getElem?_map, HXK.out]; rfl), ← HX.out.1]
            simp
          have HJS : Hid ((S ++ ((⟨#[44]⟩ : ByteArray) ++ x)).size ≤ 404) := by
            show (S ++ ((⟨#[44]⟩ : ByteArray) ++ x)).size ≤ 404
            rw [← bsize_list, HJ.out, ← List.map_take]
            refine Nat.le_trans (joinTail_le (xs.take (k + 1)) (fun y hy => ?_)) ?_
            · obtain ⟨j, hj, e⟩ := List.getElem_of_mem hy
              rw [List.length_take] at hj
              rw [List.getElem_take] at e
              exact valid_le (HNV.out j y (by omega) (by rw [← e]; exact List.getElem?_eq_getElem (by omega)))
            · rw [List.length_take]; omega
          rw [hv] at HKV
          have hck2 : ∀ W, Below wr.heap.size wr W → W.cell? ⟨b, off + k, none⟩ = some (.string x) := fun W hW => by
            rw [hW.cell (p := ⟨b, off + k, none⟩) (World.block_lt_of_cell? _ _ hck)]
            exact hck
          clear hv
          go_wp2_with fail
          refine (HKV.out _).mono ?_
          rintro e w2 ⟨rfl, b2⟩
          have hc2 := hck2 _ b2
          have HB2 : Hid (Below w.heap.size w w2) := HX.out.2.2.trans (b2.mono HX.out.2.2.size)
          clear b2 hck2
          go_wp2_with fail
          go_roundw
          case rel => exact ⟨k + 1, _, by omega, by go_num, rfl, HJS.out, HJ.out, HNV.out, HB2.out⟩
          case measure => simp [intOf]; omega
      · obtain rfl : k = xs.length := by omega
        have hok : partsOk xs = true := by
          unfold partsOk
          rw [List.all_eq_true]
          intro x hx
          obtain ⟨j, hj, e⟩ := List.getElem_of_mem hx
          exact HX.out.2.1 j x hj (by rw [← e]; exact List.getElem?_eq_getElem hj)
        have HOK : Hid (partsOk xs = true) := hok
        have HSJ : Hid (S.data.toList = Lib.joinTail [44] (xs.map (·.data.toList))) := by
          have := HX.out.1
          rwa [List.take_of_length_le (by simp)] at this
        have hjl := join_le xs (fun x hx => valid_le (ok_all hok x hx))
        have HFL : Hid (∀ J : ByteArray, J = ⟨(Lib.join (xs.map (·.data.toList)) [44]).toArray⟩ → (funcT xs r.data.toList).length = 6 + J.size + r.size) := fun J hJ => by
          unfold funcT
          rw [List.length_append, List.length_append, List.length_cons, bsize_list, hJ, ← bsize_list ⟨(Lib.join (xs.map (·.data.toList)) [44]).toArray⟩]
          simp [wFunc]
          omega
        have HFU : Hid (∀ J : ByteArray, J = ⟨(Lib.join (xs.map (·.data.toList)) [44]).toArray⟩ → (((⟨#[102, 117, 110, 99, 40]⟩ : ByteArray) ++ J ++ ⟨#[41]⟩ ++ r) : ByteArray) = ⟨(funcT xs r.data.toList).toArray⟩) := fun J hJ => by rw [hJ]; exact func_full xs r
        have hnl : ¬ ((xs.length : Nat) : Int) < ((xs.length : Nat) : Int) := by omega
        have HBX : Hid (Below w.heap.size w wr) := HX.out.2.2
        clear hok hjl hlt
        by_cases hx0 : xs = []
        · have hSl : S.data.toList = [] := by rw [HSJ.out, hx0]; rfl
          have hSe : (S.toList == []) = true := by rw [ByteArray.toList_eq, hSl]; rfl
          have HJE : Hid (S = ⟨(Lib.join (xs.map (·.data.toList)) [44]).toArray⟩) := ba_of (by rw [hSl, hx0]; rfl)
          have HL := HFL.out S HJE.out
          have HU : Hid _ := HFU.out S HJE.out
          clear hSl hx0
          by_cases hr0 : r.size = 0
          · have hl0 : r.data.toList = [] := List.length_eq_zero_iff.1 (by rw [bsize_list]; exact hr0)
            have hq : (r.toList == []) = true := by rw [ByteArray.toList_eq, hl0]; rfl
            have hno : ¬ (r.data.toList ≠ [] ∧ valid r.data.toList = false) := fun h => h.1 hl0
            have HBY : Hid (Below w.heap.size w wr) := HBX.out
            by_cases hlong : 100 < (funcT xs r.data.toList).length
            · have HE : Hid _ := funcE_long H4.out HOK.out hno hlong
              rw [HL] at hlong
              clear hno HL hl0
              go_wp2_with fail
              go_ret2
              exact funcPost_no HE.out HBY.out
            · have HE : Hid _ := funcE_good H4.out HOK.out hno hlong
              rw [HL] at hlong
              have hlong' : 6 + S.size + r.size ≤ 100 := by omega
              clear hno hlong HL hl0
              go_wp2_with fail
              go_ret2
              exact ⟨by rw [HE.out.1, HE.out.2, ← HU.out]; rfl, HBY.out⟩
          · have hne : r.data.toList ≠ [] := fun e => hr0 (by rw [← bsize_list, e]; rfl)
            have hq : (r.toList == []) = false := by rw [ByteArray.toList_eq, beq_eq_false_iff_ne]; exact hne
            have HRV : Hid (∀ W, Calls Try.prog 10 #[.string r] W fun e w' => e = .returned (.bool (valid r.data.toList)) ∧ Below W.heap.size W w') := fun W => HV.out _ W HRS.out
            cases hv : valid r.data.toList with
            | false =>
              have HE : Hid _ := funcE_res H4.out HOK.out hne hv
              rw [hv] at HRV
              clear hv hne
              go_wp2_with fail
              refine (HRV.out _).mono ?_
              rintro e w2 ⟨rfl, b2⟩
              have HB2 : Hid (Below w.heap.size w w2) := HBX.out.trans (b2.mono HBX.out.size)
              clear b2
              go_wp2_with fail
              go_ret2
              exact funcPost_no HE.out HB2.out
            | true =>
              have hno : ¬ (r.data.toList ≠ [] ∧ valid r.data.toList = false) := fun h => by rw [hv] at h; cases h.2
              rw [hv] at HRV
              have hr2 := valid_le hv
              by_cases hlong : 100 < (funcT xs r.data.toList).length
              · have HE : Hid _ := funcE_long H4.out HOK.out hno hlong
                rw [HL] at hlong
                clear hno HL hv hne
                go_wp2_with fail
                refine (HRV.out _).mono ?_
                rintro e w1 ⟨rfl, b1⟩
                have HBY : Hid (Below w.heap.size w w1) := HBX.out.trans (b1.mono HBX.out.size)
                clear b1
                go_wp2_with fail
                go_ret2
                exact funcPost_no HE.out HBY.out
              · have HE : Hid _ := funcE_good H4.out HOK.out hno hlong
                rw [HL] at hlong
                have hlong' : 6 + S.size + r.size ≤ 100 := by omega
                clear hno hlong HL hv hne
                go_wp2_with fail
                refine (HRV.out _).mono ?_
                rintro e w1 ⟨rfl, b1⟩
                have HBY : Hid (Below w.heap.size w w1) := HBX.out.trans (b1.mono HBX.out.size)
                clear b1
                go_wp2_with fail
                go_ret2
                exact ⟨by rw [HE.out.1, HE.out.2, ← HU.out]; rfl, HBY.out⟩
        · have hSl : S.data.toList ≠ [] := by
            rw [HSJ.out]
            cases xs with
            | nil => exact absurd rfl hx0
            | cons y ys => simp [Lib.joinTail]
          have hSe : (S.toList == []) = false := by rw [ByteArray.toList_eq, beq_eq_false_iff_ne]; exact hSl
          have hS1 : 1 ≤ S.size := by
            rcases Nat.eq_zero_or_pos S.size with h | h
            · exact absurd (List.length_eq_zero_iff.1 (by rw [bsize_list]; exact h)) hSl
            · exact h
          have hsl := slice_from S 1 hS1
          have HJE : Hid (S.extract 1 S.size = ⟨(Lib.join (xs.map (·.data.toList)) [44]).toArray⟩) := ba_of (by rw [drop_list, HSJ.out, join_drop (by simpa using hx0)])
          have HL := HFL.out _ HJE.out
          rw [size_from S 1 hS1] at HL
          have HU : Hid _ := HFU.out _ HJE.out
          clear hSl hx0
          by_cases hr0 : r.size = 0
          · have hl0 : r.data.toList = [] := List.length_eq_zero_iff.1 (by rw [bsize_list]; exact hr0)
            have hq : (r.toList == []) = true := by rw [ByteArray.toList_eq, hl0]; rfl
            have hno : ¬ (r.data.toList ≠ [] ∧ valid r.data.toList = false) := fun h => h.1 hl0
            have HBY : Hid (Below w.heap.size w wr) := HBX.out
            by_cases hlong : 100 < (funcT xs r.data.toList).length
            · have HE : Hid _ := funcE_long H4.out HOK.out hno hlong
              rw [HL] at hlong
              clear hno HL hl0
              go_wp2_with fail
              go_ret2
              exact funcPost_no HE.out HBY.out
            · have HE : Hid _ := funcE_good H4.out HOK.out hno hlong
              rw [HL] at hlong
              have hlong' : 6 + (S.size - 1) + r.size ≤ 100 := by omega
              clear hno hlong HL hl0
              go_wp2_with fail
              go_ret2
              exact ⟨by rw [HE.out.1, HE.out.2, ← HU.out]; rfl, HBY.out⟩
          · have hne : r.data.toList ≠ [] := fun e => hr0 (by rw [← bsize_list, e]; rfl)
            have hq : (r.toList == []) = false := by rw [ByteArray.toList_eq, beq_eq_false_iff_ne]; exact hne
            have HRV : Hid (∀ W, Calls Try.prog 10 #[.string r] W fun e w' => e = .returned (.bool (valid r.data.toList)) ∧ Below W.heap.size W w') := fun W => HV.out _ W HRS.out
            cases hv : valid r.data.toList with
            | false =>
              have HE : Hid _ := funcE_res H4.out HOK.out hne hv
              rw [hv] at HRV
              clear hv hne
              go_wp2_with fail
              refine (HRV.out _).mono ?_
              rintro e w2 ⟨rfl, b2⟩
              have HB2 : Hid (Below w.heap.size w w2) := HBX.out.trans (b2.mono HBX.out.size)
              clear b2
              go_wp2_with fail
              go_ret2
              exact funcPost_no HE.out HB2.out
            | true =>
              have hno : ¬ (r.data.toList ≠ [] ∧ valid r.data.toList = false) := fun h => by rw [hv] at h; cases h.2
              rw [hv] at HRV
              have hr2 := valid_le hv
              by_cases hlong : 100 < (funcT xs r.data.toList).length
              · have HE : Hid _ := funcE_long H4.out HOK.out hno hlong
                rw [HL] at hlong
                clear hno HL hv hne
                go_wp2_with fail
                refine (HRV.out _).mono ?_
                rintro e w1 ⟨rfl, b1⟩
                have HBY : Hid (Below w.heap.size w w1) := HBX.out.trans (b1.mono HBX.out.size)
                clear b1
                go_wp2_with fail
                go_ret2
                exact funcPost_no HE.out HBY.out
              · have HE : Hid _ := funcE_good H4.out HOK.out hno hlong
                rw [HL] at hlong
                have hlong' : 6 + (S.size - 1) + r.size ≤ 100 := by omega
                clear hno hlong HL hv hne
                go_wp2_with fail
                refine (HRV.out _).mono ?_
                rintro e w1 ⟨rfl, b1⟩
                have HBY : Hid (Below w.heap.size w w1) := HBX.out.trans (b1.mono HBX.out.size)
                clear b1
                go_wp2_with fail
                go_ret2
                exact ⟨by rw [HE.out.1, HE.out.2, ← HU.out]; rfl, HBY.out⟩
end Go.Proofs.Ytmcechcigehjbaa
