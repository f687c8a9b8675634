/- What panicroadref.pieces, Params and Result answer. -/
import Derived.Test.YtmcechcigehjbaaRefparts
import Derived.Test.YtmcechcigehjbaaFits
namespace Go.Proofs.Ytmcechcigehjbaa
open Go.ChangeShapes Go.WideShapes Go.ChangeAt Go.RowKit
set_option maxRecDepth 100000
set_option linter.unusedSimpArgs false

theorem owns_below {w w' : World} {B e s n : Nat} {v : Value} {xs : List Value} (h : w.ownsRow B e s v n xs) (hb : Below w.heap.size w w') : w'.ownsRow B e s v n xs := by
  refine ⟨h.1, ?_⟩
  rcases h.2 with h | ⟨g, cap, cur, e, hg, hh, r1, r2, r3, r4⟩
  · exact .inl h
  · exact .inr ⟨g, cap, cur, e, hg, (hb.block g (Array.getElem?_eq_some_iff.1 hh).1).trans hh, r1, r2, r3, r4⟩
theorem func_first {t : ByteArray} (h : validF t.data.toList = true) : ∃ h0 : 5 < t.size, (t[0] : UInt8) = 102 := by
  obtain ⟨_, hf, _, hp, _⟩ := validF_parts h
  have h5 := pre_le hf
  rw [bsize_list] at h5
  simp [wFunc] at h5
  have h6 : t.size ≠ 5 := by
    intro e
    apply hp
    rw [List.drop_eq_nil_iff.2 (by rw [bsize_list]; omega)]
    rfl
  refine ⟨by omega, ?_⟩
  cases hl : t.data.toList with
  | nil => rw [hl] at hf; cases hf
  | cons c r =>
    rw [hl] at hf
    simp only [wFunc, List.isPrefixOf, Bool.and_eq_true, beq_iff_eq] at hf
    obtain ⟨_, e⟩ := list_head hl
    rw [e, ← hf.1]
theorem notfunc_first {t : ByteArray} (hv : valid t.data.toList = true) (h : validF t.data.toList = false) : ∃ h0 : 0 < t.size, (t[0] : UInt8) ≠ 102 := by
  have hw : wordLen t.data.toList ≠ 0 := fun h0 => by rw [valid_noword h0, h] at hv; cases hv
  have key : ∀ {c : UInt8} {r : Tx}, t.data.toList = c :: r → c ≠ 102 → ∃ h0 : 0 < t.size, (t[0] : UInt8) ≠ 102 := fun {c r} e hc => by
    obtain ⟨h0, e0⟩ := list_head e
    exact ⟨h0, by rw [e0]; exact hc⟩
  rcases (valid_word hw).1 hv with e | e | e | e | e | e
  · exact key e (by decide)
  · exact key e (by decide)
  · exact key e (by decide)
  · exact key e (by decide)
  · exact key e (by decide)
  · exact key e (by decide)
set_option maxHeartbeats 1000000 in
theorem ref_pieces_no (t : ByteArray) (w : World) (ht : t.size ≤ maxLen) (h : validF t.data.toList = false) :
    Calls Try.prog 27 #[.string t] w fun e w' => e = .returned (.tuple #[.slice none 0 0, .bool false]) ∧ Below w.heap.size w w' := by
  have HV : Hid (Calls Try.prog 10 #[.string t] w fun e w' => e = .returned (.bool (valid t.data.toList)) ∧ Below w.heap.size w w') := ref_valid t w ht
  cases hv : valid t.data.toList with
  | false =>
    rw [hv] at HV
    clear hv h
    go_enter Try.func27, Try.ntmps27
    go_wp2_with fail
    refine HV.out.mono ?_
    rintro e w1 ⟨rfl, b1⟩
    go_wp2_with fail
    go_ret2
    exact ⟨rfl, b1⟩
  | true =>
    obtain ⟨h0, hc⟩ := notfunc_first hv h
    have b0 : ((t[0].toNat : Int) == 102) = false := nat_ne (n := 102) hc
    rw [hv] at HV
    unfold maxLen at ht
    clear hv h hc
    go_enter Try.func27, Try.ntmps27
    go_wp2_with fail
    refine HV.out.mono ?_
    rintro e w1 ⟨rfl, b1⟩
    go_wp2_with fail
    go_ret2
    exact ⟨rfl, b1⟩
theorem piece_step {w : World} {B n : Nat} {v' : Value} {xs : List ByteArray} {s : ByteArray} (hn : n = xs.length) (h : w.ownsRow B 9 1 v' (n + 1) (xs.map Value.string ++ [.string s])) : w.ownsRow B 9 1 v' (xs ++ [s]).length ((xs ++ [s]).map Value.string) := by
  subst hn
  simpa using h
set_option maxHeartbeats 4000000 in
theorem ref_pieces_yes (t : ByteArray) (w : World) (h : validF t.data.toList = true) :
    Calls Try.prog 27 #[.string t] w fun e w' => ∃ g cap, e = .returned (.tuple #[.slice (some ⟨g, 0, none⟩) ((parT t.data.toList).length + 1) cap, .bool true]) ∧ w'.ownsRow w.heap.size 9 1 (.slice (some ⟨g, 0, none⟩) ((parT t.data.toList).length + 1) cap) ((parT t.data.toList).length + 1) ((parT t.data.toList).map Value.string ++ [.string ⟨(resT t.data.toList).toArray⟩]) ∧ Below w.heap.size w w' := by
  obtain ⟨hw, hf, hlen, hp, r, hr, hrl, h5⟩ := validF_parts h
  rw [bsize_list] at hlen
  obtain ⟨h6, hc0⟩ := func_first h
  have hv : valid t.data.toList = true := by unfold validF at h; rw [Bool.and_eq_true] at h; exact h.2
  have HV : Hid (Calls Try.prog 10 #[.string t] w fun e w' => e = .returned (.bool true) ∧ Below w.heap.size w w') := by
    have := ref_valid t w (by unfold maxLen; omega)
    rw [hv] at this
    exact this
  have HL : Hid (t.data.toList.length = t.size) := bsize_list t
  have HPN : Hid (params (tl 100) (t.data.toList.drop 5) ≠ 0) := hp
  have HPT : Hid (parT t.data.toList = (paramsP (tl 100) (t.data.toList.drop 5)).map (·.2)) := by show parT t.data.toList = _; unfold parT; rw [if_pos h]
  have HRT : Hid (∀ i, params (tl 100) (t.data.toList.drop 5) = i - 5 + 1 → 5 ≤ i → resT t.data.toList = t.data.toList.drop (i + 1)) := fun i e hi => by
    unfold resT; rw [e, show 5 + (i - 5 + 1) = i + 1 by omega]
  have HA0 : Hid (At3 (tl 100) t.data.toList 0 5 []) := at3_start (by rw [bsize_list]; exact h6)
  have HEND : Hid (∀ (k : Nat) (W : World), 0 < k → k ≤ t.size → Calls Try.prog 24 #[.string (t.extract k t.size)] W fun e w' => e = .returned (.int .i64 (tl 100 (t.data.toList.drop k))) ∧ Below W.heap.size W w') := fun k W h0 hk => by
    have := ref_end 100 (t.extract k t.size) W (by rw [size_from t k hk]; omega) (by rw [size_from t k hk]; omega)
    rw [drop_list] at this
    exact this
  have b0 : ((t[0].toNat : Int) == 102) = true := by rw [hc0]; rfl
  obtain ⟨i0, hi, hz0, hz1, hz2⟩ := info_parts Try.info9
  clear hw hf hp hr hrl h5 hv hc0 h
  go_enter Try.func27, Try.ntmps27
  go_wp2_with fail
  refine HV.out.mono ?_
  rintro e w1 ⟨rfl, b1⟩
  have HB1 : Hid (Below w.heap.size w w1) := b1
  clear b1
  go_wp2_with fail
  rename_i qq1 qq2 KK0 aa0
  simp only [qq2]
  clear b0 qq2
  go_loopw [4, 5] (fun x y wr => ∃ (i j : Nat) (ps : List (Nat × ByteArray)) (xs : List ByteArray) (ao : Option Addr) (cv : Nat), y = .int .i64 i ∧ x = .slice ao xs.length cv ∧ j ≤ 4 ∧ xs.length ≤ 4 ∧ 5 ≤ i ∧ i < t.size ∧ Hid (At3 (tl 100) t.data.toList j i ps ∧ xs = ps.map (·.2)) ∧ wr.ownsRow w.heap.size 9 1 x xs.length (xs.map Value.string) ∧ Hid (Below w.heap.size w wr)) (fun _ y _ => t.size - (intOf y).toNat)
  case atStart => exact ⟨5, 0, [], [], none, 0, rfl, rfl, by omega, by simp, by omega, h6, ⟨HA0.out, rfl⟩, World.ownsRow_nil _ _ _ _, HB1.out⟩
  case round =>
    obtain ⟨i, j, ps, xs, ao, cv, rfl, rfl, hj4, hxj, hi5, hilt, HX, hown, HB⟩ := hrel
    have hsz : w.heap.size ≤ wr.heap.size := HB.out.size
    by_cases hc41 : t[i] = 41
    · have d1 : ((t[i].toNat : Int) == 41) = true := by rw [hc41]; rfl
      have hd : t.data.toList.drop i = 41 :: t.data.toList.drop (i + 1) := by rw [cons_at t i hilt, hc41]
      have HP : Hid (parT t.data.toList = xs) := by
        show parT t.data.toList = xs
        rw [HPT.out, at3_close HX.out.1 hd, HX.out.2]
      have HR : Hid ((⟨(resT t.data.toList).toArray⟩ : ByteArray) = t.extract (i + 1) t.size) := by
        show (⟨(resT t.data.toList).toArray⟩ : ByteArray) = t.extract (i + 1) t.size
        rw [HRT.out i (at2_close HX.out.1.at2 hd) hi5, ← drop_list]
      have hsl := slice_from t (i + 1) (by omega)
      have ei : ((i + 1 : Nat) : Int) = (i : Int) + 1 := by omega
      rw [ei] at hsl
      clear hc41 hd ei
      go_wp2_with (at_builtin; refine wpList_append_own _ rfl _ _ 23 rfl w.heap.size 9 i0 (.string ByteArray.empty) 1 16 Try.underlying23 hi hz0 hz1 hz2 rfl (by decide) _ _ _ rfl (hown.alloc _) ⟨wr.heap.size, 0, none⟩ 1 1 [.string (t.extract (i + 1) t.size)] rfl rfl (cell_one_new _ _ _) (fun x hx => by simp at hx; subst hx; rfl) (by unfold maxLen; omega) (by omega) (by simp; omega) ?_; intro v' w3 hown' hgrow3 hnil3; obtain ⟨g3, cap3, rfl⟩ := own_slice hown'; have HF : Hid _ := (hown'); have HG : Hid _ := (HB.out.alloc hsz _).grown hgrow3 (by simp; omega) (fun q hq => (hown.lt q hq).1); clear hgrow3 hown' hnil3)
      go_ret2
      refine ⟨g3, cap3, ?_⟩
      rw [HP.out, HR.out]
      exact ⟨rfl, HF.out, HG.out⟩
    · have d1 : ((t[i].toNat : Int) == 41) = false := nat_ne (n := 41) hc41
      obtain ⟨b, hb1, hb2, hm, hi', hat⟩ := at3_round (tl_le 100) (tl_comma 100) HX.out.1 HPN.out (not_at hilt hc41)
      rw [HL.out] at hi'
      have hxt := ext_take t b (tl 100 (t.data.toList.drop b))
      rw [← hxt] at hat
      have HNX : Hid (At3 (tl 100) t.data.toList (j + 1) (b + tl 100 (t.data.toList.drop b)) (ps ++ [(j, t.extract b (b + tl 100 (t.data.toList.drop b)))]) ∧ xs ++ [t.extract b (b + tl 100 (t.data.toList.drop b))] = (ps ++ [(j, t.extract b (b + tl 100 (t.data.toList.drop b)))]).map (·.2)) := ⟨hat, by rw [HX.out.2]; simp⟩
      have hj5 : j + 1 ≤ 4 := hat.at2.few
      have HNL : Hid ((xs ++ [t.extract b (b + tl 100 (t.data.toList.drop b))]).length ≤ 4) := by
        show (xs ++ [t.extract b (b + tl 100 (t.data.toList.drop b))]).length ≤ 4
        rw [List.length_append, HX.out.2, List.length_map, HX.out.1.many]; exact hj5
      clear hat hxt
      by_cases hc44 : t[i] = 44
      · have d2 : ((t[i].toNat : Int) == 44) = true := by rw [hc44]; rfl
        have hb := hb1 ⟨_, by rw [cons_at t i hilt, hc44]⟩
        subst hb
        have hsl := slice_from t (i + 1) (by omega)
        have HC2 : Hid (∀ W, Calls Try.prog 24 #[.string (t.extract (i + 1) t.size)] W fun e w' => e = .returned (.int .i64 (tl 100 (t.data.toList.drop (i + 1)))) ∧ Below W.heap.size W w') := fun W => HEND.out (i + 1) W (by omega) (by omega)
        generalize tl 100 (t.data.toList.drop (i + 1)) = m at *
        have hsm := slice_mid t (i + 1) m (by omega)
        have ei : ((i + 1 : Nat) : Int) = (i : Int) + 1 := by omega
        rw [ei] at hsl hsm
        clear hc41 hc44 ei hb1 hb2
        go_wp2_with fail
        refine (HC2.out _).mono ?_
        rintro e w2 ⟨rfl, b4⟩
        have hown2 := owns_below hown b4
        have HB2 : Hid (Below w.heap.size w w2) := HB.out.trans (b4.mono hsz)
        have hsz2 : w.heap.size ≤ w2.heap.size := HB2.out.size
        clear b4 hown
        go_wp2_with (at_builtin; refine wpList_append_own _ rfl _ _ 23 rfl w.heap.size 9 i0 (.string ByteArray.empty) 1 16 Try.underlying23 hi hz0 hz1 hz2 rfl (by decide) _ _ _ rfl (hown2.alloc _) ⟨w2.heap.size, 0, none⟩ 1 1 [.string (t.extract (i + 1) (i + 1 + m))] rfl rfl (cell_one_new _ _ _) (fun x hx => by simp at hx; subst hx; rfl) (by unfold maxLen; omega) (by omega) (by simp; omega) ?_; intro v' w3 hown' hgrow3 hnil3; obtain ⟨g3, cap3, rfl⟩ := own_slice hown'; have HF : Hid _ := (piece_step rfl hown'); have HG : Hid _ := (HB2.out.alloc hsz2 _).grown hgrow3 (by simp; omega) (fun q hq => (hown2.lt q hq).1); clear hgrow3 hown' hnil3)
        go_roundw
        case rel => exact ⟨i + 1 + m, j + 1, _, xs ++ [t.extract (i + 1) (i + 1 + m)], some ⟨g3, 0, none⟩, cap3, by go_num, by simp, by omega, HNL.out, by omega, by omega, HNX.out, HF.out, HG.out⟩
        case measure => simp [intOf]; omega
      · have d2 : ((t[i].toNat : Int) == 44) = false := nat_ne (n := 44) hc44
        have hb := hb2 (not_at hilt hc44)
        subst hb
        have hsl := slice_from t b (by omega)
        have HC2 : Hid (∀ W, Calls Try.prog 24 #[.string (t.extract b t.size)] W fun e w' => e = .returned (.int .i64 (tl 100 (t.data.toList.drop b))) ∧ Below W.heap.size W w') := fun W => HEND.out b W (by omega) (by omega)
        generalize tl 100 (t.data.toList.drop b) = m at *
        have hsm := slice_mid t b m (by omega)
        clear hc41 hc44 hb1 hb2
        go_wp2_with fail
        refine (HC2.out _).mono ?_
        rintro e w2 ⟨rfl, b4⟩
        have hown2 := owns_below hown b4
        have HB2 : Hid (Below w.heap.size w w2) := HB.out.trans (b4.mono hsz)
        have hsz2 : w.heap.size ≤ w2.heap.size := HB2.out.size
        clear b4 hown
        go_wp2_with (at_builtin; refine wpList_append_own _ rfl _ _ 23 rfl w.heap.size 9 i0 (.string ByteArray.empty) 1 16 Try.underlying23 hi hz0 hz1 hz2 rfl (by decide) _ _ _ rfl (hown2.alloc _) ⟨w2.heap.size, 0, none⟩ 1 1 [.string (t.extract b (b + m))] rfl rfl (cell_one_new _ _ _) (fun x hx => by simp at hx; subst hx; rfl) (by unfold maxLen; omega) (by omega) (by simp; omega) ?_; intro v' w3 hown' hgrow3 hnil3; obtain ⟨g3, cap3, rfl⟩ := own_slice hown'; have HF : Hid _ := (piece_step rfl hown'); have HG : Hid _ := (HB2.out.alloc hsz2 _).grown hgrow3 (by simp; omega) (fun q hq => (hown2.lt q hq).1); clear hgrow3 hown' hnil3)
        go_roundw
        case rel => exact ⟨b + m, j + 1, _, xs ++ [t.extract b (b + m)], some ⟨g3, 0, none⟩, cap3, by go_num, by simp, by omega, HNL.out, by omega, by omega, HNX.out, HF.out, HG.out⟩
        case measure => simp [intOf]; omega
end Go.Proofs.Ytmcechcigehjbaa
