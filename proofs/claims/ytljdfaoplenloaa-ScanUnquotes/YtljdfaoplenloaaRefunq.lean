/- What panicroadref.Unquote answers. -/
import Derived.Test.YtljdfaoplenloaaReftext
namespace Go.Proofs.Ytljdfaoplenloaa
open Go.ChangeShapes Go.WideShapes Go.ChangeAt Go.RowKit

theorem uq_no {l : List UInt8} (h : rq l = none) : uqS l = [] ∧ uqE l = 4 := by simp [uqS, uqE, uq, h]
theorem rq_not34 {c : UInt8} {r : List UInt8} (h : c ≠ 34) : rq (c :: r) = none := by simp [rq, h]
theorem tx_ways {l r : List UInt8} (hl : l = 34 :: r) : (txN l ≠ l.length ∧ uqS l = [] ∧ uqE l = 4) ∨ (txN l = l.length ∧ ∃ v, Left l v 1 ∧ v.length ≤ 200 ∧ uqS l = v ∧ uqE l = 0) := by
  cases h : rd r with
  | none =>
    left
    have e : txN l = 0 := txN_none (by rw [hl]; exact h)
    have e2 : rq l = none := rq_none (by rw [hl]; exact h)
    exact ⟨by rw [e, hl]; simp, uq_no e2⟩
  | some p =>
    obtain ⟨v, n⟩ := p
    by_cases hv : v.length ≤ 200
    · have e : txN l = n + 1 := by rw [hl]; simp [txN, h, hv]
      have e2 : rq l = some (v, n + 1) := by rw [hl]; simp [rq, h, hv]
      by_cases hn : n + 1 = l.length
      · right
        refine ⟨by rw [e, hn], v, ⟨by rw [hl]; simp, by rw [hl]; simp; rw [h]; rw [hl] at hn; simp at hn; rw [hn]⟩, hv, ?_, ?_⟩
        · unfold uqS; rw [uq_of e2, if_pos hn]
        · unfold uqE; rw [uq_of e2, if_pos hn]
      · left
        refine ⟨by rw [e]; exact hn, ?_, ?_⟩
        · unfold uqS; rw [uq_of e2, if_neg hn]
        · unfold uqE; rw [uq_of e2, if_neg hn]
    · left
      have e : txN l = 0 := by rw [hl]; simp [txN, h, hv]
      have e2 : rq l = none := by rw [hl]; simp [rq, h, hv]
      exact ⟨by rw [e, hl]; simp, uq_no e2⟩

set_option maxHeartbeats 4000000 in
theorem ref_unquote (s : ByteArray) (w : World) (hs : s.size ≤ maxLen) :
    Calls Try.prog 11 #[.string s] w fun e w' => e = .returned (.tuple #[.string ⟨(uqS s.data.toList).toArray⟩, .int .i64 (uqE s.data.toList)]) ∧ w' = w := by
  have HT : Hid (∀ W, Calls Try.prog 18 #[.string s] W fun e w' => e = .returned (.int .i64 (txN s.data.toList)) ∧ w' = W) := fun W => text_any s W hs
  unfold maxLen at hs
  by_cases h0 : s.size = 0
  · have e2 : s.data.toList = [] := List.length_eq_zero_iff.1 (by rw [size_list]; exact h0)
    have e1 : (s.toList == []) = true := by rw [ByteArray.toList_eq, e2]; rfl
    rw [e2]
    clear e2 HT h0
    go_enter Try.func11, Try.ntmps11
    go_wp2
    go_ret2
    exact ⟨rfl, rfl⟩
  have hpos : 0 < s.size := by omega
  have e1 : (s.toList == []) = false := by
    rw [ByteArray.toList_eq]
    cases hd : s.data.toList with
    | nil => have := size_list s; rw [hd] at this; simp at this; omega
    | cons a r => rfl
  obtain ⟨r, hr⟩ := list_one s hpos
  by_cases h34 : s[0] = 34
  · have b1 : ((s[0].toNat : Int) != 34) = false := by rw [h34]; decide
    rw [h34] at hr
    have HD : Hid (∀ (k : Nat) (h : k < s.size), s.data.toList.drop k = s[k] :: s.data.toList.drop (k + 1)) := fun k h => drop_at s k h
    have HZ : Hid (s.data.toList.length = s.size) := size_list s
    rcases tx_ways hr with ⟨h1, h2, h3⟩ | ⟨h1, v0, h2, h3, h4, h5⟩
    · have b2 : ((txN s.data.toList : Int) != (s.size : Int)) = true := by rw [bne_iff_ne]; rw [HZ.out] at h1; omega
      rw [h2, h3]
      generalize txN s.data.toList = n at *
      clear h1 h2 h3 hr h34 HD HZ
      go_enter Try.func11, Try.ntmps11
      go_wp2_with fail
      refine (HT.out _).mono ?_
      rintro e w1 ⟨rfl, rfl⟩
      go_wp2
      go_ret2
      exact ⟨rfl, rfl⟩
    · rw [h4, h5]
      rw [h1, HZ.out] at HT
      have HL : Hid (Left s.data.toList v0 1) := h2
      clear h1 h2 h4 h5 hr h34
      generalize s.data.toList = l at *
      go_enter Try.func11, Try.ntmps11
      go_wp2_with fail
      refine (HT.out _).mono ?_
      rintro e w1 ⟨rfl, rfl⟩
      go_wp2
      go_loop [4, 5] (fun t i => ∃ (k : Nat) (u : ByteArray) (v : List UInt8), 1 ≤ k ∧ (k + 1 ≤ s.size) ∧ i = .int .i64 k ∧ t = .string u ∧ u.size ≤ k ∧ Hid (Left l v k ∧ u.data.toList ++ v = v0)) (fun _ i => s.size - (intOf i).toNat)
      case atStart =>
        have h2 := rd_len _ _ _ HL.out.2
        rw [List.length_drop, HZ.out] at h2
        exact ⟨1, _, v0, Nat.le_refl _, by omega, rfl, rfl, by decide, HL.out, rfl⟩
      case round =>
        obtain ⟨k, u, v, hk1, hk, rfl, rfl, hu, HU⟩ := hrel
        by_cases hlt : k + 1 < s.size
        · have hli : decide ((k : Int) < (s.size : Int) - 1) = true := by simp; omega
          have hsl := slice_one s k (by omega)
          have hc := ext_one s k (by omega)
          by_cases h92 : s[k] = 92
          · have c0 : ((s.extract k (k + 1)).toList == [92]) = true := by rw [hc, h92]; decide
            have hsl2 := slice_two s k hlt
            obtain ⟨d, r', x, v', g1, g2, g3, g4, g5⟩ := left_esc HU.out.1 (by rw [HZ.out]; exact hlt) (by rw [HD.out k (by omega), h92])
            rw [HD.out (k + 1) hlt] at g1
            obtain rfl : s[k + 1] = d := by injection g1
            have hc2 := ext_one s (k + 1) hlt
            have hz2 : (s.extract (k + 1) (k + 1 + 1)).size ≤ 1 := by rw [ByteArray.size_extract]; omega
            have HC2 : Hid ((s.extract (k + 1) (k + 1 + 1)).data.toList = [s[k + 1]]) := by rw [← ByteArray.toList_eq]; exact hc2
            have y1 : (⟨#[10]⟩ : ByteArray).size = 1 := rfl
            have y2 : (⟨#[9]⟩ : ByteArray).size = 1 := rfl
            clear hc
            rcases esc_ways s[k + 1] with ⟨d, he⟩ | ⟨d, he⟩ | ⟨d, he⟩ | ⟨d, he⟩ | ⟨d1, d2, d3, d4, he⟩
            · have c1 : ((s.extract (k + 1) (k + 1 + 1)).toList == [110]) = false := by rw [hc2, d]; decide
              have c2 : ((s.extract (k + 1) (k + 1 + 1)).toList == [116]) = false := by rw [hc2, d]; decide
              have HF : Hid ((u ++ (s.extract (k + 1) (k + 1 + 1))).data.toList ++ v' = v0) := by
                show _ = _
                rw [str_append, List.append_assoc, ← HU.out.2, g3, HC2.out, d]
                cases (he.symm.trans g2)
                rfl
              clear hc2 g1 g2 g3 h92 d he
              go_wp2
              exact ⟨⟨k + 2, u ++ (s.extract (k + 1) (k + 1 + 1)), v', by omega, by rw [HZ.out] at g5; omega, by go_num, rfl, by rw [ByteArray.size_append]; omega, g4, HF.out⟩, by simp [intOf]; omega⟩
            · have c1 : ((s.extract (k + 1) (k + 1 + 1)).toList == [110]) = false := by rw [hc2, d]; decide
              have c2 : ((s.extract (k + 1) (k + 1 + 1)).toList == [116]) = false := by rw [hc2, d]; decide
              have HF : Hid ((u ++ (s.extract (k + 1) (k + 1 + 1))).data.toList ++ v' = v0) := by
                show _ = _
                rw [str_append, List.append_assoc, ← HU.out.2, g3, HC2.out, d]
                cases (he.symm.trans g2)
                rfl
              clear hc2 g1 g2 g3 h92 d he
              go_wp2
              exact ⟨⟨k + 2, u ++ (s.extract (k + 1) (k + 1 + 1)), v', by omega, by rw [HZ.out] at g5; omega, by go_num, rfl, by rw [ByteArray.size_append]; omega, g4, HF.out⟩, by simp [intOf]; omega⟩
            · have c1 : ((s.extract (k + 1) (k + 1 + 1)).toList == [110]) = true := by rw [hc2, d]; decide
              have HF : Hid ((u ++ (⟨#[10]⟩ : ByteArray)).data.toList ++ v' = v0) := by
                show _ = _
                rw [str_append, List.append_assoc, ← HU.out.2, g3, show (⟨#[10]⟩ : ByteArray).data.toList = [10] from rfl]
                cases (he.symm.trans g2)
                rfl
              clear hc2 g1 g2 g3 h92 d he
              go_wp2
              exact ⟨⟨k + 2, u ++ (⟨#[10]⟩ : ByteArray), v', by omega, by rw [HZ.out] at g5; omega, by go_num, rfl, by rw [ByteArray.size_append]; omega, g4, HF.out⟩, by simp [intOf]; omega⟩
            · have c1 : ((s.extract (k + 1) (k + 1 + 1)).toList == [110]) = false := by rw [hc2, d]; decide
              have c2 : ((s.extract (k + 1) (k + 1 + 1)).toList == [116]) = true := by rw [hc2, d]; decide
              have HF : Hid ((u ++ (⟨#[9]⟩ : ByteArray)).data.toList ++ v' = v0) := by
                show _ = _
                rw [str_append, List.append_assoc, ← HU.out.2, g3, show (⟨#[9]⟩ : ByteArray).data.toList = [9] from rfl]
                cases (he.symm.trans g2)
                rfl
              clear hc2 g1 g2 g3 h92 d he
              go_wp2
              exact ⟨⟨k + 2, u ++ (⟨#[9]⟩ : ByteArray), v', by omega, by rw [HZ.out] at g5; omega, by go_num, rfl, by rw [ByteArray.size_append]; omega, g4, HF.out⟩, by simp [intOf]; omega⟩
            · rw [he] at g2; cases g2
          · have c0 : ((s.extract k (k + 1)).toList == [92]) = false := by rw [hc]; simp [h92]
            obtain ⟨v', g3, g4⟩ := left_pl HU.out.1 (by rw [HZ.out]; exact hlt) (HD.out k (by omega)) h92
            have hz2 : (s.extract k (k + 1)).size ≤ 1 := by rw [ByteArray.size_extract]; omega
            have HF : Hid ((u ++ s.extract k (k + 1)).data.toList ++ v' = v0) := by
              show _ = _
              rw [str_append, List.append_assoc, ← HU.out.2, g3, ← ByteArray.toList_eq (s.extract k (k + 1)), hc]
              rfl
            clear hc g3 h92
            go_wp2
            exact ⟨⟨k + 1, u ++ s.extract k (k + 1), v', by omega, by omega, by go_num, rfl, by rw [ByteArray.size_append]; omega, g4, HF.out⟩, by simp [intOf]; omega⟩
        · have hli : decide ((k : Int) < (s.size : Int) - 1) = false := by simp; omega
          have hv := left_end HU.out.1 (by rw [HZ.out]; omega)
          have HF : Hid (u = ⟨v0.toArray⟩) := by
            have h2 := HU.out.2
            rw [hv, List.append_nil] at h2
            exact str_of h2
          clear hv
          go_wp2
          go_ret2
          exact ⟨by rw [← HF.out]; rfl, rfl⟩
  · have b1 : ((s[0].toNat : Int) != 34) = true := nat_bne (n := 34) (by decide) h34
    obtain ⟨g1, g2⟩ := uq_no (show rq s.data.toList = none by rw [hr]; exact rq_not34 h34)
    rw [g1, g2]
    clear HT hr h34 g1 g2
    go_enter Try.func11, Try.ntmps11
    go_wp2
    go_ret2
    exact ⟨rfl, rfl⟩
end Go.Proofs.Ytljdfaoplenloaa
