/- What panicroadref.typeEnd and ValidType answer. -/
import Derived.Test.YtmcechcigehjbaaThru
import Derived.Test.YtmcechcigehjbaaCut
import Derived.Test.YtmcechcigehjbaaTyplain3
namespace Go.Proofs.Ytmcechcigehjbaa
open Go.ChangeShapes Go.WideShapes Go.ChangeAt Go.RowKit
set_option maxRecDepth 100000
set_option linter.unusedSimpArgs false

def tyText : ByteArray := ⟨#[105, 110, 116, 32, 98, 111, 111, 108, 32, 115, 116, 114, 105, 110, 103, 32, 97, 110, 121, 32, 91, 93, 105, 110, 116, 32, 42, 105, 110, 116]⟩
theorem ty_cut : (cutSt tyText 32 (tyText.size + 1)).1 = tyWords := by kernel_rfl
theorem slice_to (s : ByteArray) (k : Nat) (h : k ≤ s.size) (W : World) : (Instr.slice 9 (.string s) none (some (.int .i64 (k : Int))) none).run Try.prog W = .ok (.string (s.extract 0 k)) W := by
  have := run_slice_string_h W 9 s Try.underlying9 .i64 k (by omega) (by omega)
  rw [this]
  rfl
theorem ext_zero (s : ByteArray) (k : Nat) : (s.extract 0 k).toList = s.data.toList.take k := by
  have := ext_take s 0 k
  rw [Nat.zero_add] at this
  rw [ByteArray.toList_eq, this, List.drop_zero]
theorem pre_iff (p l : Tx) : p.isPrefixOf l = (l.take p.length == p) := by
  rw [Bool.eq_iff_iff, List.isPrefixOf_iff_prefix, beq_iff_eq, List.prefix_iff_eq_take]
  exact ⟨Eq.symm, Eq.symm⟩
theorem pre_long {p l : Tx} (h : l.length < p.length) : p.isPrefixOf l = false := by
  cases hp : p.isPrefixOf l with
  | false => rfl
  | true => have := pre_le hp; omega
theorem cons_at (s : ByteArray) (k : Nat) (h : k < s.size) : s.data.toList.drop k = s[k] :: s.data.toList.drop (k + 1) := by
  rw [get_list s k h, ← List.drop_eq_getElem_cons]
theorem not_at {s : ByteArray} {k : Nat} {c : UInt8} (h : k < s.size) (hc : s[k] ≠ c) : ∀ r, s.data.toList.drop k ≠ c :: r := by
  intro r e
  rw [cons_at s k h] at e
  cases e
  exact hc rfl
theorem size_from (s : ByteArray) (k : Nat) (h : k ≤ s.size) : (s.extract k s.size).size = s.size - k := by rw [ByteArray.size_extract]; omega
theorem ret_nat {a b : Nat} (h : a = b) : Ending.returned (.int .i64 (a : Int)) = .returned (.int .i64 (b : Int)) := by rw [h]
/-- What a function's type comes to. -/
theorem func_vals {n : Nat} {l : Tx} (hw : wordLen l = 0) (hf : wFunc.isPrefixOf l = true) :
    (params (tl n) (l.drop 5) = 0 → tl (n + 1) l = 0) ∧ (∀ i r : Nat, 5 ≤ i → params (tl n) (l.drop 5) = i - 5 + 1 → res (tl n) (l.drop (i + 1)) = some r → tl (n + 1) l = i + 1 + r) ∧ (∀ i : Nat, 5 ≤ i → params (tl n) (l.drop 5) = i - 5 + 1 → res (tl n) (l.drop (i + 1)) = none → tl (n + 1) l = 0) := by
  refine ⟨fun h => by rw [tl_func hw hf, tail_none h]; rfl, fun i r h5 h hr => ?_, fun i h5 h hr => ?_⟩
  · rw [tl_func hw hf, tail_some h (by omega), List.drop_drop, show 5 + (i - 5 + 1) = i + 1 by omega, hr]
    simp only
    rw [fin_pos (by omega)]
    omega
  · rw [tl_func hw hf, tail_some h (by omega), List.drop_drop, show 5 + (i - 5 + 1) = i + 1 by omega, hr]
    rfl

set_option maxHeartbeats 4000000 in
theorem ref_end (n : Nat) : ∀ (s : ByteArray) (w : World), s.size < n → s.size ≤ 100 →
    Calls Try.prog 24 #[.string s] w fun e w' => e = .returned (.int .i64 (tl n s.data.toList)) ∧ Below w.heap.size w w' := by
  induction n with
  | zero => intro s w h; omega
  | succ n ih =>
    intro s w hn hs
    have HL : Hid (s.data.toList.length = s.size) := bsize_list s
    have HIH : Hid (∀ (k : Nat) (W : World), 0 < k → k ≤ s.size → Calls Try.prog 24 #[.string (s.extract k s.size)] W fun e w' => e = .returned (.int .i64 (tl n (s.data.toList.drop k))) ∧ Below W.heap.size W w') := fun k W h0 hk => by
      have := ih (s.extract k s.size) W (by rw [size_from s k hk]; omega) (by rw [size_from s k hk]; omega)
      rw [drop_list] at this
      exact this
    clear ih
    go_enter Try.func24, Try.ntmps24
    go_wp2_with fail
    refine (cutAt_any tyText 32 _ (by decide)).mono ?_
    rintro e w1 ⟨v, rfl, hown, hb⟩
    rw [ty_cut] at hown
    obtain ⟨g, cap, hv⟩ : ∃ g cap, v = .slice (some ⟨g, 0, none⟩) 6 cap := by
      rcases hown.2 with ⟨_, h⟩ | ⟨g, cap, _, h, _⟩
      · cases h
      · exact ⟨g, cap, h⟩
    subst hv
    have HC : Hid (∀ (k : Nat) (t : ByteArray), k < 6 → tyWords[k]? = some t → w1.cell? ⟨g, k, none⟩ = some (.string t)) := by
      intro k t hk ht
      rw [hown.cellAt k (by show k < 6 * 1; omega), List.getElem?_map, ht]
      rfl
    clear hown
    go_wp2_with fail
    go_loop [11] (fun i => ∃ k : Nat, k ≤ 6 ∧ i = .int .i64 k ∧ Hid (∀ (j : Nat) (t : ByteArray), j < k → tyWords[j]? = some t → t.data.toList.isPrefixOf s.data.toList = false)) (fun i => 6 - (intOf i).toNat)
    case atStart => exact ⟨0, Nat.zero_le _, rfl, fun j t h => by omega⟩
    case round =>
      obtain ⟨k, hk, rfl, HN⟩ := hrel
      by_cases h6 : k < 6
      · obtain ⟨t, ht, ht6, ht0⟩ := words_get k h6
        have hc := HC.out k t h6 ht
        have HT : Hid (tyWords[k]? = some t) := ht
        clear ht
        by_cases hp : t.data.toList.isPrefixOf s.data.toList = true
        · have HW : Hid (tl (n + 1) s.data.toList = t.size) := by
            have := words_some HT.out HN.out hp
            show tl (n + 1) s.data.toList = t.size
            rw [tl_word (by omega), this]
          have hle : t.size ≤ s.size := by have := pre_le hp; rw [bsize_list, bsize_list] at this; exact this
          have hq : ((s.extract 0 t.size).toList == t.toList) = true := by
            rw [ext_zero, ByteArray.toList_eq, ← bsize_list t, ← pre_iff]
            exact hp
          have hsl := slice_to s t.size hle
          clear hp
          go_wp2_with fail
          go_ret
          exact ⟨ret_nat HW.out.symm, hb⟩
        · have hp' : t.data.toList.isPrefixOf s.data.toList = false := by rw [Bool.not_eq_true] at hp; exact hp
          have HK : Hid (∀ (j : Nat) (u : ByteArray), j < k + 1 → tyWords[j]? = some u → u.data.toList.isPrefixOf s.data.toList = false) := fun j u hj hu => by
            by_cases e : j = k
            · subst e
              rw [HT.out] at hu
              cases hu
              exact hp'
            · exact HN.out j u (by omega) hu
          by_cases hle : t.size ≤ s.size
          · have hq : ((s.extract 0 t.size).toList == t.toList) = false := by
              rw [ext_zero, ByteArray.toList_eq, ← bsize_list t, ← pre_iff]
              exact hp'
            have hsl := slice_to s t.size hle
            clear hp hp'
            go_wp2_with fail
            go_round
            case rel => exact ⟨k + 1, by omega, by go_num, HK.out⟩
            case measure => simp [intOf]; omega
          · clear hp hp'
            go_wp2_with fail
            go_round
            case rel => exact ⟨k + 1, by omega, by go_num, HK.out⟩
            case measure => simp [intOf]; omega
      · obtain rfl : k = 6 := by omega
        have hw0 : wordLen s.data.toList = 0 := words_none fun j t ht => HN.out j t (List.getElem?_eq_some_iff.1 ht).1 ht
        clear HN h6
        by_cases h6 : s.size < 6
        · have HW : Hid (tl (n + 1) s.data.toList = (0 : Nat)) := tl_short hw0 (by rw [HL.out]; omega)
          clear hw0
          go_wp2_with fail
          go_ret
          exact ⟨ret_nat HW.out.symm, hb⟩
        have hsl5 := slice_to s 5 (by omega)
        have hq0 : wFunc.isPrefixOf s.data.toList = ((s.extract 0 5).toList == [102, 117, 110, 99, 40]) := by
          rw [ext_zero]
          exact pre_iff wFunc _
        cases hf : wFunc.isPrefixOf s.data.toList with
        | false =>
          have HW : Hid (tl (n + 1) s.data.toList = (0 : Nat)) := tl_none hw0 hf
          rw [hf] at hq0
          have hq := hq0.symm
          clear hw0 hf hq0
          go_wp2_with fail
          go_ret
          exact ⟨ret_nat HW.out.symm, hb⟩
        | true =>
          have HV : Hid _ := func_vals (n := n) hw0 hf
          rw [hf] at hq0
          have hq := hq0.symm
          have HA0 : Hid (At2 (tl n) s.data.toList 0 5) := at2_start (by rw [HL.out]; omega)
          clear hw0 hf hq0
          go_wp2_with fail
          go_loopw [5, 6] (fun x y wr => ∃ i j : Nat, x = .int .i64 i ∧ y = .int .i64 j ∧ j ≤ 4 ∧ 5 ≤ i ∧ i < s.size ∧ Hid (At2 (tl n) s.data.toList j i ∧ Below w.heap.size w wr)) (fun x _ _ => s.size - (intOf x).toNat)
          case atStart => exact ⟨5, 0, rfl, rfl, by omega, by omega, by omega, HA0.out, hb⟩
          case round =>
            obtain ⟨i, j, rfl, rfl, hj4, hi5, hi, HX⟩ := hrel
            clear hsl5 hq HA0
            by_cases hc41 : s[i] = 41
            · have b1 : ((s[i].toNat : Int) == 41) = true := by rw [hc41]; rfl
              have HP : Hid (params (tl n) (s.data.toList.drop 5) = i - 5 + 1) := at2_close HX.out.1 (r := s.data.toList.drop (i + 1)) (by rw [cons_at s i hi, hc41])
              clear hc41
              by_cases hend : i + 1 = s.size
              · have HF : Hid (tl (n + 1) s.data.toList = i + 1) := by
                  have := HV.out.2.1 i 0 hi5 HP.out (by rw [List.drop_eq_nil_iff.2 (by rw [HL.out]; omega)]; rfl)
                  exact this
                have hz : (((i : Int) + 1) == (s.size : Int)) = true := by rw [beq_iff_eq]; omega
                go_wp2_with fail
                go_ret
                exact ⟨by rw [HF.out]; rfl, HX.out.2⟩
              have hi1 : i + 1 < s.size := by omega
              have hz : (((i : Int) + 1) == (s.size : Int)) = false := by rw [beq_eq_false_iff_ne]; omega
              have hcs := cons_at s (i + 1) hi1
              by_cases d1 : s[i + 1] = 44
              · have HF : Hid (tl (n + 1) s.data.toList = i + 1) := HV.out.2.1 i 0 hi5 HP.out (res_free (.inr (.inl ⟨_, by rw [hcs, d1]⟩))).1
                have b2 : ((s[i + 1].toNat : Int) == 44) = true := by rw [d1]; rfl
                clear hcs d1
                go_wp2_with fail
                go_ret
                exact ⟨by rw [HF.out]; rfl, HX.out.2⟩
              have b2 : ((s[i + 1].toNat : Int) == 44) = false := nat_ne (n := 44) d1
              by_cases d2 : s[i + 1] = 41
              · have HF : Hid (tl (n + 1) s.data.toList = i + 1) := HV.out.2.1 i 0 hi5 HP.out (res_free (.inr (.inr ⟨_, by rw [hcs, d2]⟩))).1
                have b3 : ((s[i + 1].toNat : Int) == 41) = true := by rw [d2]; rfl
                clear hcs d1 d2
                go_wp2_with fail
                go_ret
                exact ⟨by rw [HF.out]; rfl, HX.out.2⟩
              have b3 : ((s[i + 1].toNat : Int) == 41) = false := nat_ne (n := 41) d2
              have hrs := (res_else (f := tl n) (l := s.data.toList.drop (i + 1)) (by rw [hcs]; simp) (not_at hi1 d1) (not_at hi1 d2)).1
              have hsl := slice_from s (i + 1) (by omega)
              have HC2 : Hid (∀ W, Calls Try.prog 24 #[.string (s.extract (i + 1) s.size)] W fun e w' => e = .returned (.int .i64 (tl n (s.data.toList.drop (i + 1)))) ∧ Below W.heap.size W w') := fun W => HIH.out (i + 1) W (by omega) (by omega)
              have hle := tl_le n (s.data.toList.drop (i + 1))
              rw [List.length_drop, HL.out] at hle
              have ei : ((i + 1 : Nat) : Int) = (i : Int) + 1 := by omega
              rw [ei] at hsl
              by_cases hm : tl n (s.data.toList.drop (i + 1)) = 0
              · have HF : Hid (tl (n + 1) s.data.toList = 0) := HV.out.2.2 i hi5 HP.out (by rw [hrs, if_pos hm])
                rw [hm] at HC2
                clear hcs d1 d2 hrs hm ei
                go_wp2_with fail
                refine (HC2.out _).mono ?_
                rintro e w2 ⟨rfl, b4⟩
                go_wp2_with fail
                go_ret
                exact ⟨by rw [HF.out]; rfl, HX.out.2.trans (b4.mono HX.out.2.size)⟩
              · have HF : Hid (tl (n + 1) s.data.toList = i + 1 + tl n (s.data.toList.drop (i + 1))) := HV.out.2.1 i _ hi5 HP.out (by rw [hrs, if_neg hm])
                have b5 : (((tl n (s.data.toList.drop (i + 1)) : Nat) : Int) == 0) = false := by rw [beq_eq_false_iff_ne]; omega
                generalize tl n (s.data.toList.drop (i + 1)) = m at *
                clear hcs d1 d2 hrs hm ei
                go_wp2_with fail
                refine (HC2.out _).mono ?_
                rintro e w2 ⟨rfl, b4⟩
                go_wp2_with fail
                go_ret
                exact ⟨by rw [HF.out]; go_num, HX.out.2.trans (b4.mono HX.out.2.size)⟩
            · have b1 : ((s[i].toNat : Int) == 41) = false := nat_ne (n := 41) hc41
              by_cases hj0 : j = 0
              · subst hj0
                have hpr : params (tl n) (s.data.toList.drop 5) = fin (i - 5) (pars (tl n) (4 - 0) (s.data.toList.drop i)) := by
                  show _ = fin (i - 5) (pars (tl n) 4 (s.data.toList.drop i))
                  rw [at2_first (tl_le n) HX.out.1 (not_at hi hc41), HX.out.1.first rfl]
                  unfold fin; split
                  · next h => exact h
                  · omega
                have hsl := slice_from s i (by omega)
                have HC2 : Hid (∀ W, Calls Try.prog 24 #[.string (s.extract i s.size)] W fun e w' => e = .returned (.int .i64 (tl n (s.data.toList.drop i))) ∧ Below W.heap.size W w') := fun W => HIH.out i W (by omega) (by omega)
                have hle := tl_le n (s.data.toList.drop i)
                rw [List.length_drop, HL.out] at hle
                by_cases hm : tl n (s.data.toList.drop i) = 0
                · have HF : Hid (tl (n + 1) s.data.toList = 0) := HV.out.1 (at2_zero hpr hm)
                  rw [hm] at HC2
                  clear hpr hm hc41
                  go_wp2_with fail
                  refine (HC2.out _).mono ?_
                  rintro e w2 ⟨rfl, b4⟩
                  go_wp2_with fail
                  go_ret
                  exact ⟨by rw [HF.out]; rfl, HX.out.2.trans (b4.mono HX.out.2.size)⟩
                have b5 : (((tl n (s.data.toList.drop i) : Nat) : Int) == 0) = false := by rw [beq_eq_false_iff_ne]; omega
                by_cases ho : s.size ≤ i + tl n (s.data.toList.drop i)
                · have HF : Hid (tl (n + 1) s.data.toList = 0) := HV.out.1 (at2_out hpr (by rw [HL.out]; exact ho))
                  generalize tl n (s.data.toList.drop i) = m at *
                  clear hpr hm hc41
                  go_wp2_with fail
                  refine (HC2.out _).mono ?_
                  rintro e w2 ⟨rfl, b4⟩
                  go_wp2_with fail
                  go_ret
                  exact ⟨by rw [HF.out]; rfl, HX.out.2.trans (b4.mono HX.out.2.size)⟩
                · have HA : Hid (At2 (tl n) s.data.toList (0 + 1) (i + tl n (s.data.toList.drop i))) := at2_next (by omega) hi5 hpr hm (by rw [HL.out]; omega)
                  generalize tl n (s.data.toList.drop i) = m at *
                  clear hpr hc41
                  go_wp2_with fail
                  refine (HC2.out _).mono ?_
                  rintro e w2 ⟨rfl, b4⟩
                  go_wp2_with fail
                  go_roundw
                  case rel => exact ⟨i + m, 1, by go_num, rfl, by omega, by omega, by omega, HA.out, HX.out.2.trans (b4.mono HX.out.2.size)⟩
                  case measure => simp [intOf]; omega
              · have hj1 : 0 < j := by omega
                by_cases hc44 : s[i] = 44
                · have b2 : ((s[i].toNat : Int) == 44) = true := by rw [hc44]; rfl
                  have hpr := at2_comma HX.out.1 hj0 (r := s.data.toList.drop (i + 1)) (by rw [cons_at s i hi, hc44])
                  have hsl := slice_from s (i + 1) (by omega)
                  have HC2 : Hid (∀ W, Calls Try.prog 24 #[.string (s.extract (i + 1) s.size)] W fun e w' => e = .returned (.int .i64 (tl n (s.data.toList.drop (i + 1)))) ∧ Below W.heap.size W w') := fun W => HIH.out (i + 1) W (by omega) (by omega)
                  have hle := tl_le n (s.data.toList.drop (i + 1))
                  rw [List.length_drop, HL.out] at hle
                  have ei : ((i + 1 : Nat) : Int) = (i : Int) + 1 := by omega
                  rw [ei] at hsl
                  by_cases hm : tl n (s.data.toList.drop (i + 1)) = 0
                  · have HF : Hid (tl (n + 1) s.data.toList = 0) := HV.out.1 (at2_zero hpr hm)
                    rw [hm] at HC2
                    clear hpr hm hc41 hc44 ei
                    go_wp2_with fail
                    refine (HC2.out _).mono ?_
                    rintro e w2 ⟨rfl, b4⟩
                    go_wp2_with fail
                    go_ret
                    exact ⟨by rw [HF.out]; rfl, HX.out.2.trans (b4.mono HX.out.2.size)⟩
                  have b5 : (((tl n (s.data.toList.drop (i + 1)) : Nat) : Int) == 0) = false := by rw [beq_eq_false_iff_ne]; omega
                  by_cases hj : j = 4
                  · have HF : Hid (tl (n + 1) s.data.toList = 0) := HV.out.1 (by rw [hpr, hj]; rfl)
                    generalize tl n (s.data.toList.drop (i + 1)) = m at *
                    subst hj
                    clear hpr hm hc41 hc44 ei
                    go_wp2_with fail
                    refine (HC2.out _).mono ?_
                    rintro e w2 ⟨rfl, b4⟩
                    go_wp2_with fail
                    go_ret
                    exact ⟨by rw [HF.out]; rfl, HX.out.2.trans (b4.mono HX.out.2.size)⟩
                  have hj3 : j + 1 ≤ 4 := by omega
                  by_cases ho : s.size ≤ i + 1 + tl n (s.data.toList.drop (i + 1))
                  · have HF : Hid (tl (n + 1) s.data.toList = 0) := HV.out.1 (at2_out hpr (by rw [HL.out]; exact ho))
                    generalize tl n (s.data.toList.drop (i + 1)) = m at *
                    clear hpr hm hc41 hc44 ei
                    go_wp2_with fail
                    refine (HC2.out _).mono ?_
                    rintro e w2 ⟨rfl, b4⟩
                    go_wp2_with fail
                    go_ret
                    exact ⟨by rw [HF.out]; rfl, HX.out.2.trans (b4.mono HX.out.2.size)⟩
                  · have HA : Hid (At2 (tl n) s.data.toList (j + 1) (i + 1 + tl n (s.data.toList.drop (i + 1)))) := at2_next (by omega) (by omega) hpr hm (by rw [HL.out]; omega)
                    generalize tl n (s.data.toList.drop (i + 1)) = m at *
                    clear hpr hc41 hc44 ei
                    go_wp2_with fail
                    refine (HC2.out _).mono ?_
                    rintro e w2 ⟨rfl, b4⟩
                    go_wp2_with fail
                    go_roundw
                    case rel => exact ⟨i + 1 + m, j + 1, by go_num, by go_num, by omega, by omega, by omega, HA.out, HX.out.2.trans (b4.mono HX.out.2.size)⟩
                    case measure => simp [intOf]; omega
                · have b2 : ((s[i].toNat : Int) == 44) = false := nat_ne (n := 44) hc44
                  have HF : Hid (tl (n + 1) s.data.toList = 0) := HV.out.1 (at2_other HX.out.1 hj0 (not_at hi hc41) (not_at hi hc44))
                  clear hc41 hc44
                  go_wp2_with fail
                  go_ret
                  exact ⟨by rw [HF.out]; rfl, HX.out.2⟩
end Go.Proofs.Ytmcechcigehjbaa
